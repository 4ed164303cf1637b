/- HelpDone: runs, 3. -/
import Derived.Test.YtdchpckikclmlaaND
namespace Go.Proofs.Ytdchpckikclmlaa
open Go.Sx Go
set_option maxRecDepth 100000
theorem nd00001_001 : okD [0, 0, 0, 0, 1] false false true = true := by kernel_rfl
theorem nd00111_001 : okD [0, 0, 1, 1, 1] false false true = true := by kernel_rfl
theorem nd01101_001 : okD [0, 1, 1, 0, 1] false false true = true := by kernel_rfl
theorem nd10011_001 : okD [1, 0, 0, 1, 1] false false true = true := by kernel_rfl
theorem nd11001_001 : okD [1, 1, 0, 0, 1] false false true = true := by kernel_rfl
theorem nd11111_001 : okD [1, 1, 1, 1, 1] false false true = true := by kernel_rfl
theorem nd00101_101 : okD [0, 0, 1, 0, 1] true false true = true := by kernel_rfl
theorem nd01011_101 : okD [0, 1, 0, 1, 1] true false true = true := by kernel_rfl
theorem nd10001_101 : okD [1, 0, 0, 0, 1] true false true = true := by kernel_rfl
theorem nd10111_101 : okD [1, 0, 1, 1, 1] true false true = true := by kernel_rfl
theorem nd11101_101 : okD [1, 1, 1, 0, 1] true false true = true := by kernel_rfl
theorem nd0011_001 : okD [0, 0, 1, 1] false false true = true := by kernel_rfl
theorem nd1001_001 : okD [1, 0, 0, 1] false false true = true := by kernel_rfl
theorem nd1111_001 : okD [1, 1, 1, 1] false false true = true := by kernel_rfl
theorem nd0101_101 : okD [0, 1, 0, 1] true false true = true := by kernel_rfl
theorem nd1011_101 : okD [1, 0, 1, 1] true false true = true := by kernel_rfl
theorem nd001_001 : okD [0, 0, 1] false false true = true := by kernel_rfl
theorem nd111_001 : okD [1, 1, 1] false false true = true := by kernel_rfl
theorem nd101_101 : okD [1, 0, 1] true false true = true := by kernel_rfl
theorem nd11_001 : okD [1, 1] false false true = true := by kernel_rfl
theorem nd1_001 : okD [1] false false true = true := by kernel_rfl
theorem nd_111 : okD [] true true true = true := by kernel_rfl
end Go.Proofs.Ytdchpckikclmlaa
