/- HelpDone: runs, 11. -/
import Derived.Test.YtdchpckikclmlaaND
namespace Go.Proofs.Ytdchpckikclmlaa
open Go.Sx Go
set_option maxRecDepth 100000
theorem nd00101_001 : okD [0, 0, 1, 0, 1] false false true = true := by kernel_rfl
theorem nd01011_001 : okD [0, 1, 0, 1, 1] false false true = true := by kernel_rfl
theorem nd10001_001 : okD [1, 0, 0, 0, 1] false false true = true := by kernel_rfl
theorem nd10111_001 : okD [1, 0, 1, 1, 1] false false true = true := by kernel_rfl
theorem nd11101_001 : okD [1, 1, 1, 0, 1] false false true = true := by kernel_rfl
theorem nd00011_101 : okD [0, 0, 0, 1, 1] true false true = true := by kernel_rfl
theorem nd01001_101 : okD [0, 1, 0, 0, 1] true false true = true := by kernel_rfl
theorem nd01111_101 : okD [0, 1, 1, 1, 1] true false true = true := by kernel_rfl
theorem nd10101_101 : okD [1, 0, 1, 0, 1] true false true = true := by kernel_rfl
theorem nd11011_101 : okD [1, 1, 0, 1, 1] true false true = true := by kernel_rfl
theorem nd0001_001 : okD [0, 0, 0, 1] false false true = true := by kernel_rfl
theorem nd0111_001 : okD [0, 1, 1, 1] false false true = true := by kernel_rfl
theorem nd1101_001 : okD [1, 1, 0, 1] false false true = true := by kernel_rfl
theorem nd0011_101 : okD [0, 0, 1, 1] true false true = true := by kernel_rfl
theorem nd1001_101 : okD [1, 0, 0, 1] true false true = true := by kernel_rfl
theorem nd1111_101 : okD [1, 1, 1, 1] true false true = true := by kernel_rfl
theorem nd101_001 : okD [1, 0, 1] false false true = true := by kernel_rfl
theorem nd011_101 : okD [0, 1, 1] true false true = true := by kernel_rfl
theorem nd01_001 : okD [0, 1] false false true = true := by kernel_rfl
theorem nd11_101 : okD [1, 1] true false true = true := by kernel_rfl
theorem nd_011 : okD [] false true true = true := by kernel_rfl
end Go.Proofs.Ytdchpckikclmlaa
