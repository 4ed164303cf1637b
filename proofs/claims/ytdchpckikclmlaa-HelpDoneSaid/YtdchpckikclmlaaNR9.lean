/- HelpDone: runs, 9. -/
import Derived.Test.YtdchpckikclmlaaND
namespace Go.Proofs.Ytdchpckikclmlaa
open Go.Sx Go
set_option maxRecDepth 100000
theorem nd00100_001 : okD [0, 0, 1, 0, 0] false false true = true := by kernel_rfl
theorem nd01010_001 : okD [0, 1, 0, 1, 0] false false true = true := by kernel_rfl
theorem nd10000_001 : okD [1, 0, 0, 0, 0] false false true = true := by kernel_rfl
theorem nd10110_001 : okD [1, 0, 1, 1, 0] false false true = true := by kernel_rfl
theorem nd11100_001 : okD [1, 1, 1, 0, 0] false false true = true := by kernel_rfl
theorem nd00010_101 : okD [0, 0, 0, 1, 0] true false true = true := by kernel_rfl
theorem nd01000_101 : okD [0, 1, 0, 0, 0] true false true = true := by kernel_rfl
theorem nd01110_101 : okD [0, 1, 1, 1, 0] true false true = true := by kernel_rfl
theorem nd10100_101 : okD [1, 0, 1, 0, 0] true false true = true := by kernel_rfl
theorem nd11010_101 : okD [1, 1, 0, 1, 0] true false true = true := by kernel_rfl
theorem nd0000_001 : okD [0, 0, 0, 0] false false true = true := by kernel_rfl
theorem nd0110_001 : okD [0, 1, 1, 0] false false true = true := by kernel_rfl
theorem nd1100_001 : okD [1, 1, 0, 0] false false true = true := by kernel_rfl
theorem nd0010_101 : okD [0, 0, 1, 0] true false true = true := by kernel_rfl
theorem nd1000_101 : okD [1, 0, 0, 0] true false true = true := by kernel_rfl
theorem nd1110_101 : okD [1, 1, 1, 0] true false true = true := by kernel_rfl
theorem nd100_001 : okD [1, 0, 0] false false true = true := by kernel_rfl
theorem nd010_101 : okD [0, 1, 0] true false true = true := by kernel_rfl
theorem nd00_001 : okD [0, 0] false false true = true := by kernel_rfl
theorem nd10_101 : okD [1, 0] true false true = true := by kernel_rfl
theorem nd_001 : okD [] false false true = true := by kernel_rfl
end Go.Proofs.Ytdchpckikclmlaa
