/- Epochs: rounds, part 5. -/
import Derived.Test.YtjbhcmppjmmmiaaW
namespace Go.Proofs.Ytjbhcmppjmmmiaa
open Go.Sx Go
set_option maxRecDepth 100000
theorem e1_0_004 : okE true 0 0 0 4 = true := by kernel_rfl
theorem e1_0_220 : okE true 0 2 2 0 = true := by kernel_rfl
theorem e1_1_100 : okE true 1 1 0 0 = true := by kernel_rfl
theorem e1_1_220 : okE true 1 2 2 0 = true := by kernel_rfl
theorem e1_2_100 : okE true 2 1 0 0 = true := by kernel_rfl
theorem e1_2_220 : okE true 2 2 2 0 = true := by kernel_rfl
theorem e1_3_100 : okE true 3 1 0 0 = true := by kernel_rfl
theorem e1_3_211 : okE true 3 2 1 1 = true := by kernel_rfl
theorem e1_4_004 : okE true 4 0 0 4 = true := by kernel_rfl
theorem e1_4_220 : okE true 4 2 2 0 = true := by kernel_rfl
theorem e1_5_004 : okE true 5 0 0 4 = true := by kernel_rfl
theorem e1_5_202 : okE true 5 2 0 2 = true := by kernel_rfl
theorem e1_6_002 : okE true 6 0 0 2 = true := by kernel_rfl
theorem e1_6_200 : okE true 6 2 0 0 = true := by kernel_rfl
theorem e1_7_000 : okE true 7 0 0 0 = true := by kernel_rfl
theorem e1_7_120 : okE true 7 1 2 0 = true := by kernel_rfl
theorem e1_7_220 : okE true 7 2 2 0 = true := by kernel_rfl
theorem e1_8_004 : okE true 8 0 0 4 = true := by kernel_rfl
theorem e1_8_220 : okE true 8 2 2 0 = true := by kernel_rfl
theorem e1_9_004 : okE true 9 0 0 4 = true := by kernel_rfl
theorem e1_9_202 : okE true 9 2 0 2 = true := by kernel_rfl
theorem e1_10_002 : okE true 10 0 0 2 = true := by kernel_rfl
theorem e1_10_200 : okE true 10 2 0 0 = true := by kernel_rfl
theorem e1_11_000 : okE true 11 0 0 0 = true := by kernel_rfl
theorem e1_11_120 : okE true 11 1 2 0 = true := by kernel_rfl
theorem e1_11_220 : okE true 11 2 2 0 = true := by kernel_rfl
theorem e1_12_004 : okE true 12 0 0 4 = true := by kernel_rfl
theorem e1_12_220 : okE true 12 2 2 0 = true := by kernel_rfl
theorem e1_13_002 : okE true 13 0 0 2 = true := by kernel_rfl
theorem e1_13_200 : okE true 13 2 0 0 = true := by kernel_rfl
theorem e1_13_231 : okE true 13 2 3 1 = true := by kernel_rfl
theorem e1_14_100 : okE true 14 1 0 0 = true := by kernel_rfl
theorem e1_14_220 : okE true 14 2 2 0 = true := by kernel_rfl
theorem e1_15_002 : okE true 15 0 0 2 = true := by kernel_rfl
theorem e1_15_200 : okE true 15 2 0 0 = true := by kernel_rfl
theorem e1_15_222 : okE true 15 2 2 2 = true := by kernel_rfl
theorem e0_0_130 : okE false 0 1 3 0 = true := by kernel_rfl
theorem e0_1_120 : okE false 1 1 2 0 = true := by kernel_rfl
theorem e0_2_000 : okE false 2 0 0 0 = true := by kernel_rfl
theorem e0_2_212 : okE false 2 2 1 2 = true := by kernel_rfl
theorem e0_3_200 : okE false 3 2 0 0 = true := by kernel_rfl
theorem e0_4_000 : okE false 4 0 0 0 = true := by kernel_rfl
theorem e0_4_221 : okE false 4 2 2 1 = true := by kernel_rfl
theorem e0_5_200 : okE false 5 2 0 0 = true := by kernel_rfl
theorem e0_6_000 : okE false 6 0 0 0 = true := by kernel_rfl
theorem e0_6_212 : okE false 6 2 1 2 = true := by kernel_rfl
theorem e0_7_120 : okE false 7 1 2 0 = true := by kernel_rfl
theorem e0_7_220 : okE false 7 2 2 0 = true := by kernel_rfl
theorem e0_8_130 : okE false 8 1 3 0 = true := by kernel_rfl
theorem e0_9_100 : okE false 9 1 0 0 = true := by kernel_rfl
theorem e0_9_220 : okE false 9 2 2 0 = true := by kernel_rfl
theorem e0_10_130 : okE false 10 1 3 0 = true := by kernel_rfl
theorem e0_10_232 : okE false 10 2 3 2 = true := by kernel_rfl
theorem e0_11_202 : okE false 11 2 0 2 = true := by kernel_rfl
theorem e0_12_000 : okE false 12 0 0 0 = true := by kernel_rfl
theorem e0_12_221 : okE false 12 2 2 1 = true := by kernel_rfl
theorem e0_13_120 : okE false 13 1 2 0 = true := by kernel_rfl
theorem e0_13_222 : okE false 13 2 2 2 = true := by kernel_rfl
theorem e0_14_130 : okE false 14 1 3 0 = true := by kernel_rfl
theorem e0_14_230 : okE false 14 2 3 0 = true := by kernel_rfl
theorem e0_15_200 : okE false 15 2 0 0 = true := by kernel_rfl
theorem e0_15_222 : okE false 15 2 2 2 = true := by kernel_rfl
end Go.Proofs.Ytjbhcmppjmmmiaa
