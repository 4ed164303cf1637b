/- HelpDone: runs, 0. -/
import Derived.Test.YtdchpckikclmlaaND
namespace Go.Proofs.Ytdchpckikclmlaa
open Go.Sx Go
set_option maxRecDepth 100000
theorem nd00000_000 : okD [0, 0, 0, 0, 0] false false false = true := by kernel_rfl
theorem nd00110_000 : okD [0, 0, 1, 1, 0] false false false = true := by kernel_rfl
theorem nd01100_000 : okD [0, 1, 1, 0, 0] false false false = true := by kernel_rfl
theorem nd10010_000 : okD [1, 0, 0, 1, 0] false false false = true := by kernel_rfl
theorem nd11000_000 : okD [1, 1, 0, 0, 0] false false false = true := by kernel_rfl
theorem nd11110_000 : okD [1, 1, 1, 1, 0] false false false = true := by kernel_rfl
theorem nd00100_100 : okD [0, 0, 1, 0, 0] true false false = true := by kernel_rfl
theorem nd01010_100 : okD [0, 1, 0, 1, 0] true false false = true := by kernel_rfl
theorem nd10000_100 : okD [1, 0, 0, 0, 0] true false false = true := by kernel_rfl
theorem nd10110_100 : okD [1, 0, 1, 1, 0] true false false = true := by kernel_rfl
theorem nd11100_100 : okD [1, 1, 1, 0, 0] true false false = true := by kernel_rfl
theorem nd0010_000 : okD [0, 0, 1, 0] false false false = true := by kernel_rfl
theorem nd1000_000 : okD [1, 0, 0, 0] false false false = true := by kernel_rfl
theorem nd1110_000 : okD [1, 1, 1, 0] false false false = true := by kernel_rfl
theorem nd0100_100 : okD [0, 1, 0, 0] true false false = true := by kernel_rfl
theorem nd1010_100 : okD [1, 0, 1, 0] true false false = true := by kernel_rfl
theorem nd000_000 : okD [0, 0, 0] false false false = true := by kernel_rfl
theorem nd110_000 : okD [1, 1, 0] false false false = true := by kernel_rfl
theorem nd100_100 : okD [1, 0, 0] true false false = true := by kernel_rfl
theorem nd10_000 : okD [1, 0] false false false = true := by kernel_rfl
theorem nd0_000 : okD [0] false false false = true := by kernel_rfl
theorem nd_100 : okD [] true false false = true := by kernel_rfl
end Go.Proofs.Ytdchpckikclmlaa
