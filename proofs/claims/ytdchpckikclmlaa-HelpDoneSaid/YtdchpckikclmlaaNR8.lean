/- HelpDone: runs, 8. -/
import Derived.Test.YtdchpckikclmlaaND
namespace Go.Proofs.Ytdchpckikclmlaa
open Go.Sx Go
set_option maxRecDepth 100000
theorem nd00100_000 : okD [0, 0, 1, 0, 0] false false false = true := by kernel_rfl
theorem nd01010_000 : okD [0, 1, 0, 1, 0] false false false = true := by kernel_rfl
theorem nd10000_000 : okD [1, 0, 0, 0, 0] false false false = true := by kernel_rfl
theorem nd10110_000 : okD [1, 0, 1, 1, 0] false false false = true := by kernel_rfl
theorem nd11100_000 : okD [1, 1, 1, 0, 0] false false false = true := by kernel_rfl
theorem nd00010_100 : okD [0, 0, 0, 1, 0] true false false = true := by kernel_rfl
theorem nd01000_100 : okD [0, 1, 0, 0, 0] true false false = true := by kernel_rfl
theorem nd01110_100 : okD [0, 1, 1, 1, 0] true false false = true := by kernel_rfl
theorem nd10100_100 : okD [1, 0, 1, 0, 0] true false false = true := by kernel_rfl
theorem nd11010_100 : okD [1, 1, 0, 1, 0] true false false = true := by kernel_rfl
theorem nd0000_000 : okD [0, 0, 0, 0] false false false = true := by kernel_rfl
theorem nd0110_000 : okD [0, 1, 1, 0] false false false = true := by kernel_rfl
theorem nd1100_000 : okD [1, 1, 0, 0] false false false = true := by kernel_rfl
theorem nd0010_100 : okD [0, 0, 1, 0] true false false = true := by kernel_rfl
theorem nd1000_100 : okD [1, 0, 0, 0] true false false = true := by kernel_rfl
theorem nd1110_100 : okD [1, 1, 1, 0] true false false = true := by kernel_rfl
theorem nd100_000 : okD [1, 0, 0] false false false = true := by kernel_rfl
theorem nd010_100 : okD [0, 1, 0] true false false = true := by kernel_rfl
theorem nd00_000 : okD [0, 0] false false false = true := by kernel_rfl
theorem nd10_100 : okD [1, 0] true false false = true := by kernel_rfl
theorem nd_000 : okD [] false false false = true := by kernel_rfl
end Go.Proofs.Ytdchpckikclmlaa
