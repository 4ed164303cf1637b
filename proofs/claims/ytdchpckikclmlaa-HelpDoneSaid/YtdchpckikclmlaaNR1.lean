/- HelpDone: runs, 1. -/
import Derived.Test.YtdchpckikclmlaaND
namespace Go.Proofs.Ytdchpckikclmlaa
open Go.Sx Go
set_option maxRecDepth 100000
theorem nd00000_001 : okD [0, 0, 0, 0, 0] false false true = true := by kernel_rfl
theorem nd00110_001 : okD [0, 0, 1, 1, 0] false false true = true := by kernel_rfl
theorem nd01100_001 : okD [0, 1, 1, 0, 0] false false true = true := by kernel_rfl
theorem nd10010_001 : okD [1, 0, 0, 1, 0] false false true = true := by kernel_rfl
theorem nd11000_001 : okD [1, 1, 0, 0, 0] false false true = true := by kernel_rfl
theorem nd11110_001 : okD [1, 1, 1, 1, 0] false false true = true := by kernel_rfl
theorem nd00100_101 : okD [0, 0, 1, 0, 0] true false true = true := by kernel_rfl
theorem nd01010_101 : okD [0, 1, 0, 1, 0] true false true = true := by kernel_rfl
theorem nd10000_101 : okD [1, 0, 0, 0, 0] true false true = true := by kernel_rfl
theorem nd10110_101 : okD [1, 0, 1, 1, 0] true false true = true := by kernel_rfl
theorem nd11100_101 : okD [1, 1, 1, 0, 0] true false true = true := by kernel_rfl
theorem nd0010_001 : okD [0, 0, 1, 0] false false true = true := by kernel_rfl
theorem nd1000_001 : okD [1, 0, 0, 0] false false true = true := by kernel_rfl
theorem nd1110_001 : okD [1, 1, 1, 0] false false true = true := by kernel_rfl
theorem nd0100_101 : okD [0, 1, 0, 0] true false true = true := by kernel_rfl
theorem nd1010_101 : okD [1, 0, 1, 0] true false true = true := by kernel_rfl
theorem nd000_001 : okD [0, 0, 0] false false true = true := by kernel_rfl
theorem nd110_001 : okD [1, 1, 0] false false true = true := by kernel_rfl
theorem nd100_101 : okD [1, 0, 0] true false true = true := by kernel_rfl
theorem nd10_001 : okD [1, 0] false false true = true := by kernel_rfl
theorem nd0_001 : okD [0] false false true = true := by kernel_rfl
theorem nd_101 : okD [] true false true = true := by kernel_rfl
end Go.Proofs.Ytdchpckikclmlaa
