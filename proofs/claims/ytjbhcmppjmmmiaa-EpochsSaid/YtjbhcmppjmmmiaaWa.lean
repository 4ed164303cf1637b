/- Epochs: rounds, part 1. -/
import Derived.Test.YtjbhcmppjmmmiaaW
namespace Go.Proofs.Ytjbhcmppjmmmiaa
open Go.Sx Go
set_option maxRecDepth 100000
theorem e1_0_000 : okE true 0 0 0 0 = true := by kernel_rfl
theorem e1_0_120 : okE true 0 1 2 0 = true := by kernel_rfl
theorem e1_1_002 : okE true 1 0 0 2 = true := by kernel_rfl
theorem e1_1_200 : okE true 1 2 0 0 = true := by kernel_rfl
theorem e1_2_002 : okE true 2 0 0 2 = true := by kernel_rfl
theorem e1_2_200 : okE true 2 2 0 0 = true := by kernel_rfl
theorem e1_3_002 : okE true 3 0 0 2 = true := by kernel_rfl
theorem e1_3_200 : okE true 3 2 0 0 = true := by kernel_rfl
theorem e1_4_000 : okE true 4 0 0 0 = true := by kernel_rfl
theorem e1_4_120 : okE true 4 1 2 0 = true := by kernel_rfl
theorem e1_5_000 : okE true 5 0 0 0 = true := by kernel_rfl
theorem e1_5_120 : okE true 5 1 2 0 = true := by kernel_rfl
theorem e1_5_222 : okE true 5 2 2 2 = true := by kernel_rfl
theorem e1_6_100 : okE true 6 1 0 0 = true := by kernel_rfl
theorem e1_6_220 : okE true 6 2 2 0 = true := by kernel_rfl
theorem e1_7_004 : okE true 7 0 0 4 = true := by kernel_rfl
theorem e1_7_202 : okE true 7 2 0 2 = true := by kernel_rfl
theorem e1_8_000 : okE true 8 0 0 0 = true := by kernel_rfl
theorem e1_8_120 : okE true 8 1 2 0 = true := by kernel_rfl
theorem e1_9_000 : okE true 9 0 0 0 = true := by kernel_rfl
theorem e1_9_120 : okE true 9 1 2 0 = true := by kernel_rfl
theorem e1_9_231 : okE true 9 2 3 1 = true := by kernel_rfl
theorem e1_10_100 : okE true 10 1 0 0 = true := by kernel_rfl
theorem e1_10_220 : okE true 10 2 2 0 = true := by kernel_rfl
theorem e1_11_004 : okE true 11 0 0 4 = true := by kernel_rfl
theorem e1_11_202 : okE true 11 2 0 2 = true := by kernel_rfl
theorem e1_12_000 : okE true 12 0 0 0 = true := by kernel_rfl
theorem e1_12_120 : okE true 12 1 2 0 = true := by kernel_rfl
theorem e1_12_231 : okE true 12 2 3 1 = true := by kernel_rfl
theorem e1_13_100 : okE true 13 1 0 0 = true := by kernel_rfl
theorem e1_13_220 : okE true 13 2 2 0 = true := by kernel_rfl
theorem e1_14_002 : okE true 14 0 0 2 = true := by kernel_rfl
theorem e1_14_200 : okE true 14 2 0 0 = true := by kernel_rfl
theorem e1_14_231 : okE true 14 2 3 1 = true := by kernel_rfl
theorem e1_15_100 : okE true 15 1 0 0 = true := by kernel_rfl
theorem e1_15_211 : okE true 15 2 1 1 = true := by kernel_rfl
theorem e0_0_000 : okE false 0 0 0 0 = true := by kernel_rfl
theorem e0_0_230 : okE false 0 2 3 0 = true := by kernel_rfl
theorem e0_1_202 : okE false 1 2 0 2 = true := by kernel_rfl
theorem e0_2_130 : okE false 2 1 3 0 = true := by kernel_rfl
theorem e0_3_100 : okE false 3 1 0 0 = true := by kernel_rfl
theorem e0_3_211 : okE false 3 2 1 1 = true := by kernel_rfl
theorem e0_4_130 : okE false 4 1 3 0 = true := by kernel_rfl
theorem e0_5_100 : okE false 5 1 0 0 = true := by kernel_rfl
theorem e0_5_220 : okE false 5 2 2 0 = true := by kernel_rfl
theorem e0_6_130 : okE false 6 1 3 0 = true := by kernel_rfl
theorem e0_6_230 : okE false 6 2 3 0 = true := by kernel_rfl
theorem e0_7_202 : okE false 7 2 0 2 = true := by kernel_rfl
theorem e0_8_000 : okE false 8 0 0 0 = true := by kernel_rfl
theorem e0_8_230 : okE false 8 2 3 0 = true := by kernel_rfl
theorem e0_9_200 : okE false 9 2 0 0 = true := by kernel_rfl
theorem e0_10_000 : okE false 10 0 0 0 = true := by kernel_rfl
theorem e0_10_212 : okE false 10 2 1 2 = true := by kernel_rfl
theorem e0_11_120 : okE false 11 1 2 0 = true := by kernel_rfl
theorem e0_11_220 : okE false 11 2 2 0 = true := by kernel_rfl
theorem e0_12_130 : okE false 12 1 3 0 = true := by kernel_rfl
theorem e0_12_232 : okE false 12 2 3 2 = true := by kernel_rfl
theorem e0_13_202 : okE false 13 2 0 2 = true := by kernel_rfl
theorem e0_14_000 : okE false 14 0 0 0 = true := by kernel_rfl
theorem e0_14_212 : okE false 14 2 1 2 = true := by kernel_rfl
theorem e0_15_100 : okE false 15 1 0 0 = true := by kernel_rfl
theorem e0_15_211 : okE false 15 2 1 1 = true := by kernel_rfl
end Go.Proofs.Ytjbhcmppjmmmiaa
