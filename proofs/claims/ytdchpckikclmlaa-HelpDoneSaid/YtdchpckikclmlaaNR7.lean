/- HelpDone: runs, 7. -/
import Derived.Test.YtdchpckikclmlaaND
namespace Go.Proofs.Ytdchpckikclmlaa
open Go.Sx Go
set_option maxRecDepth 100000
theorem nd00011_001 : okD [0, 0, 0, 1, 1] false false true = true := by kernel_rfl
theorem nd01001_001 : okD [0, 1, 0, 0, 1] false false true = true := by kernel_rfl
theorem nd01111_001 : okD [0, 1, 1, 1, 1] false false true = true := by kernel_rfl
theorem nd10101_001 : okD [1, 0, 1, 0, 1] false false true = true := by kernel_rfl
theorem nd11011_001 : okD [1, 1, 0, 1, 1] false false true = true := by kernel_rfl
theorem nd00001_101 : okD [0, 0, 0, 0, 1] true false true = true := by kernel_rfl
theorem nd00111_101 : okD [0, 0, 1, 1, 1] true false true = true := by kernel_rfl
theorem nd01101_101 : okD [0, 1, 1, 0, 1] true false true = true := by kernel_rfl
theorem nd10011_101 : okD [1, 0, 0, 1, 1] true false true = true := by kernel_rfl
theorem nd11001_101 : okD [1, 1, 0, 0, 1] true false true = true := by kernel_rfl
theorem nd11111_101 : okD [1, 1, 1, 1, 1] true false true = true := by kernel_rfl
theorem nd0101_001 : okD [0, 1, 0, 1] false false true = true := by kernel_rfl
theorem nd1011_001 : okD [1, 0, 1, 1] false false true = true := by kernel_rfl
theorem nd0001_101 : okD [0, 0, 0, 1] true false true = true := by kernel_rfl
theorem nd0111_101 : okD [0, 1, 1, 1] true false true = true := by kernel_rfl
theorem nd1101_101 : okD [1, 1, 0, 1] true false true = true := by kernel_rfl
theorem nd011_001 : okD [0, 1, 1] false false true = true := by kernel_rfl
theorem nd001_101 : okD [0, 0, 1] true false true = true := by kernel_rfl
theorem nd111_101 : okD [1, 1, 1] true false true = true := by kernel_rfl
theorem nd01_101 : okD [0, 1] true false true = true := by kernel_rfl
theorem nd1_101 : okD [1] true false true = true := by kernel_rfl
end Go.Proofs.Ytdchpckikclmlaa
