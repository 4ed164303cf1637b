/- HelpDone: runs, 5. -/
import Derived.Test.YtdchpckikclmlaaND
namespace Go.Proofs.Ytdchpckikclmlaa
open Go.Sx Go
set_option maxRecDepth 100000
theorem nd00010_001 : okD [0, 0, 0, 1, 0] false false true = true := by kernel_rfl
theorem nd01000_001 : okD [0, 1, 0, 0, 0] false false true = true := by kernel_rfl
theorem nd01110_001 : okD [0, 1, 1, 1, 0] false false true = true := by kernel_rfl
theorem nd10100_001 : okD [1, 0, 1, 0, 0] false false true = true := by kernel_rfl
theorem nd11010_001 : okD [1, 1, 0, 1, 0] false false true = true := by kernel_rfl
theorem nd00000_101 : okD [0, 0, 0, 0, 0] true false true = true := by kernel_rfl
theorem nd00110_101 : okD [0, 0, 1, 1, 0] true false true = true := by kernel_rfl
theorem nd01100_101 : okD [0, 1, 1, 0, 0] true false true = true := by kernel_rfl
theorem nd10010_101 : okD [1, 0, 0, 1, 0] true false true = true := by kernel_rfl
theorem nd11000_101 : okD [1, 1, 0, 0, 0] true false true = true := by kernel_rfl
theorem nd11110_101 : okD [1, 1, 1, 1, 0] true false true = true := by kernel_rfl
theorem nd0100_001 : okD [0, 1, 0, 0] false false true = true := by kernel_rfl
theorem nd1010_001 : okD [1, 0, 1, 0] false false true = true := by kernel_rfl
theorem nd0000_101 : okD [0, 0, 0, 0] true false true = true := by kernel_rfl
theorem nd0110_101 : okD [0, 1, 1, 0] true false true = true := by kernel_rfl
theorem nd1100_101 : okD [1, 1, 0, 0] true false true = true := by kernel_rfl
theorem nd010_001 : okD [0, 1, 0] false false true = true := by kernel_rfl
theorem nd000_101 : okD [0, 0, 0] true false true = true := by kernel_rfl
theorem nd110_101 : okD [1, 1, 0] true false true = true := by kernel_rfl
theorem nd00_101 : okD [0, 0] true false true = true := by kernel_rfl
theorem nd0_101 : okD [0] true false true = true := by kernel_rfl
end Go.Proofs.Ytdchpckikclmlaa
