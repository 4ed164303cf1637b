/- Epochs: rounds, part 7. -/
import Derived.Test.YtjbhcmppjmmmiaaW
namespace Go.Proofs.Ytjbhcmppjmmmiaa
open Go.Sx Go
set_option maxRecDepth 100000
theorem e1_0_100 : okE true 0 1 0 0 = true := by kernel_rfl
theorem e1_1_000 : okE true 1 0 0 0 = true := by kernel_rfl
theorem e1_1_120 : okE true 1 1 2 0 = true := by kernel_rfl
theorem e1_2_000 : okE true 2 0 0 0 = true := by kernel_rfl
theorem e1_2_120 : okE true 2 1 2 0 = true := by kernel_rfl
theorem e1_3_000 : okE true 3 0 0 0 = true := by kernel_rfl
theorem e1_3_120 : okE true 3 1 2 0 = true := by kernel_rfl
theorem e1_3_220 : okE true 3 2 2 0 = true := by kernel_rfl
theorem e1_4_100 : okE true 4 1 0 0 = true := by kernel_rfl
theorem e1_4_222 : okE true 4 2 2 2 = true := by kernel_rfl
theorem e1_5_100 : okE true 5 1 0 0 = true := by kernel_rfl
theorem e1_5_220 : okE true 5 2 2 0 = true := by kernel_rfl
theorem e1_6_004 : okE true 6 0 0 4 = true := by kernel_rfl
theorem e1_6_211 : okE true 6 2 1 1 = true := by kernel_rfl
theorem e1_7_002 : okE true 7 0 0 2 = true := by kernel_rfl
theorem e1_7_200 : okE true 7 2 0 0 = true := by kernel_rfl
theorem e1_7_222 : okE true 7 2 2 2 = true := by kernel_rfl
theorem e1_8_100 : okE true 8 1 0 0 = true := by kernel_rfl
theorem e1_8_231 : okE true 8 2 3 1 = true := by kernel_rfl
theorem e1_9_100 : okE true 9 1 0 0 = true := by kernel_rfl
theorem e1_9_220 : okE true 9 2 2 0 = true := by kernel_rfl
theorem e1_10_004 : okE true 10 0 0 4 = true := by kernel_rfl
theorem e1_10_211 : okE true 10 2 1 1 = true := by kernel_rfl
theorem e1_11_002 : okE true 11 0 0 2 = true := by kernel_rfl
theorem e1_11_200 : okE true 11 2 0 0 = true := by kernel_rfl
theorem e1_11_231 : okE true 11 2 3 1 = true := by kernel_rfl
theorem e1_12_100 : okE true 12 1 0 0 = true := by kernel_rfl
theorem e1_12_222 : okE true 12 2 2 2 = true := by kernel_rfl
theorem e1_13_004 : okE true 13 0 0 4 = true := by kernel_rfl
theorem e1_13_202 : okE true 13 2 0 2 = true := by kernel_rfl
theorem e1_14_000 : okE true 14 0 0 0 = true := by kernel_rfl
theorem e1_14_120 : okE true 14 1 2 0 = true := by kernel_rfl
theorem e1_14_222 : okE true 14 2 2 2 = true := by kernel_rfl
theorem e1_15_004 : okE true 15 0 0 4 = true := by kernel_rfl
theorem e1_15_202 : okE true 15 2 0 2 = true := by kernel_rfl
theorem e1_15_231 : okE true 15 2 3 1 = true := by kernel_rfl
theorem e0_0_210 : okE false 0 2 1 0 = true := by kernel_rfl
theorem e0_1_200 : okE false 1 2 0 0 = true := by kernel_rfl
theorem e0_2_110 : okE false 2 1 1 0 = true := by kernel_rfl
theorem e0_2_230 : okE false 2 2 3 0 = true := by kernel_rfl
theorem e0_3_202 : okE false 3 2 0 2 = true := by kernel_rfl
theorem e0_4_110 : okE false 4 1 1 0 = true := by kernel_rfl
theorem e0_4_230 : okE false 4 2 3 0 = true := by kernel_rfl
theorem e0_5_202 : okE false 5 2 0 2 = true := by kernel_rfl
theorem e0_6_110 : okE false 6 1 1 0 = true := by kernel_rfl
theorem e0_6_221 : okE false 6 2 2 1 = true := by kernel_rfl
theorem e0_7_200 : okE false 7 2 0 0 = true := by kernel_rfl
theorem e0_7_222 : okE false 7 2 2 2 = true := by kernel_rfl
theorem e0_8_210 : okE false 8 2 1 0 = true := by kernel_rfl
theorem e0_9_120 : okE false 9 1 2 0 = true := by kernel_rfl
theorem e0_9_231 : okE false 9 2 3 1 = true := by kernel_rfl
theorem e0_10_210 : okE false 10 2 1 0 = true := by kernel_rfl
theorem e0_11_100 : okE false 11 1 0 0 = true := by kernel_rfl
theorem e0_11_211 : okE false 11 2 1 1 = true := by kernel_rfl
theorem e0_12_110 : okE false 12 1 1 0 = true := by kernel_rfl
theorem e0_12_230 : okE false 12 2 3 0 = true := by kernel_rfl
theorem e0_13_200 : okE false 13 2 0 0 = true := by kernel_rfl
theorem e0_13_231 : okE false 13 2 3 1 = true := by kernel_rfl
theorem e0_14_210 : okE false 14 2 1 0 = true := by kernel_rfl
theorem e0_14_232 : okE false 14 2 3 2 = true := by kernel_rfl
theorem e0_15_202 : okE false 15 2 0 2 = true := by kernel_rfl
theorem e0_15_231 : okE false 15 2 3 1 = true := by kernel_rfl
end Go.Proofs.Ytjbhcmppjmmmiaa
