/- HelpDone: runs, 4. -/
import Derived.Test.YtdchpckikclmlaaND
namespace Go.Proofs.Ytdchpckikclmlaa
open Go.Sx Go
set_option maxRecDepth 100000
theorem nd00010_000 : okD [0, 0, 0, 1, 0] false false false = true := by kernel_rfl
theorem nd01000_000 : okD [0, 1, 0, 0, 0] false false false = true := by kernel_rfl
theorem nd01110_000 : okD [0, 1, 1, 1, 0] false false false = true := by kernel_rfl
theorem nd10100_000 : okD [1, 0, 1, 0, 0] false false false = true := by kernel_rfl
theorem nd11010_000 : okD [1, 1, 0, 1, 0] false false false = true := by kernel_rfl
theorem nd00000_100 : okD [0, 0, 0, 0, 0] true false false = true := by kernel_rfl
theorem nd00110_100 : okD [0, 0, 1, 1, 0] true false false = true := by kernel_rfl
theorem nd01100_100 : okD [0, 1, 1, 0, 0] true false false = true := by kernel_rfl
theorem nd10010_100 : okD [1, 0, 0, 1, 0] true false false = true := by kernel_rfl
theorem nd11000_100 : okD [1, 1, 0, 0, 0] true false false = true := by kernel_rfl
theorem nd11110_100 : okD [1, 1, 1, 1, 0] true false false = true := by kernel_rfl
theorem nd0100_000 : okD [0, 1, 0, 0] false false false = true := by kernel_rfl
theorem nd1010_000 : okD [1, 0, 1, 0] false false false = true := by kernel_rfl
theorem nd0000_100 : okD [0, 0, 0, 0] true false false = true := by kernel_rfl
theorem nd0110_100 : okD [0, 1, 1, 0] true false false = true := by kernel_rfl
theorem nd1100_100 : okD [1, 1, 0, 0] true false false = true := by kernel_rfl
theorem nd010_000 : okD [0, 1, 0] false false false = true := by kernel_rfl
theorem nd000_100 : okD [0, 0, 0] true false false = true := by kernel_rfl
theorem nd110_100 : okD [1, 1, 0] true false false = true := by kernel_rfl
theorem nd00_100 : okD [0, 0] true false false = true := by kernel_rfl
theorem nd0_100 : okD [0] true false false = true := by kernel_rfl
end Go.Proofs.Ytdchpckikclmlaa
