/- Epochs: rounds, part 3. -/
import Derived.Test.YtjbhcmppjmmmiaaW
namespace Go.Proofs.Ytjbhcmppjmmmiaa
open Go.Sx Go
set_option maxRecDepth 100000
theorem e1_0_002 : okE true 0 0 0 2 = true := by kernel_rfl
theorem e1_0_200 : okE true 0 2 0 0 = true := by kernel_rfl
theorem e1_1_004 : okE true 1 0 0 4 = true := by kernel_rfl
theorem e1_1_202 : okE true 1 2 0 2 = true := by kernel_rfl
theorem e1_2_004 : okE true 2 0 0 4 = true := by kernel_rfl
theorem e1_2_211 : okE true 2 2 1 1 = true := by kernel_rfl
theorem e1_3_004 : okE true 3 0 0 4 = true := by kernel_rfl
theorem e1_3_202 : okE true 3 2 0 2 = true := by kernel_rfl
theorem e1_4_002 : okE true 4 0 0 2 = true := by kernel_rfl
theorem e1_4_200 : okE true 4 2 0 0 = true := by kernel_rfl
theorem e1_5_002 : okE true 5 0 0 2 = true := by kernel_rfl
theorem e1_5_200 : okE true 5 2 0 0 = true := by kernel_rfl
theorem e1_6_000 : okE true 6 0 0 0 = true := by kernel_rfl
theorem e1_6_120 : okE true 6 1 2 0 = true := by kernel_rfl
theorem e1_6_222 : okE true 6 2 2 2 = true := by kernel_rfl
theorem e1_7_100 : okE true 7 1 0 0 = true := by kernel_rfl
theorem e1_7_211 : okE true 7 2 1 1 = true := by kernel_rfl
theorem e1_8_002 : okE true 8 0 0 2 = true := by kernel_rfl
theorem e1_8_200 : okE true 8 2 0 0 = true := by kernel_rfl
theorem e1_9_002 : okE true 9 0 0 2 = true := by kernel_rfl
theorem e1_9_200 : okE true 9 2 0 0 = true := by kernel_rfl
theorem e1_10_000 : okE true 10 0 0 0 = true := by kernel_rfl
theorem e1_10_120 : okE true 10 1 2 0 = true := by kernel_rfl
theorem e1_10_231 : okE true 10 2 3 1 = true := by kernel_rfl
theorem e1_11_100 : okE true 11 1 0 0 = true := by kernel_rfl
theorem e1_11_211 : okE true 11 2 1 1 = true := by kernel_rfl
theorem e1_12_002 : okE true 12 0 0 2 = true := by kernel_rfl
theorem e1_12_200 : okE true 12 2 0 0 = true := by kernel_rfl
theorem e1_13_000 : okE true 13 0 0 0 = true := by kernel_rfl
theorem e1_13_120 : okE true 13 1 2 0 = true := by kernel_rfl
theorem e1_13_222 : okE true 13 2 2 2 = true := by kernel_rfl
theorem e1_14_004 : okE true 14 0 0 4 = true := by kernel_rfl
theorem e1_14_211 : okE true 14 2 1 1 = true := by kernel_rfl
theorem e1_15_000 : okE true 15 0 0 0 = true := by kernel_rfl
theorem e1_15_120 : okE true 15 1 2 0 = true := by kernel_rfl
theorem e1_15_220 : okE true 15 2 2 0 = true := by kernel_rfl
theorem e0_0_110 : okE false 0 1 1 0 = true := by kernel_rfl
theorem e0_1_100 : okE false 1 1 0 0 = true := by kernel_rfl
theorem e0_1_220 : okE false 1 2 2 0 = true := by kernel_rfl
theorem e0_2_210 : okE false 2 2 1 0 = true := by kernel_rfl
theorem e0_3_120 : okE false 3 1 2 0 = true := by kernel_rfl
theorem e0_3_220 : okE false 3 2 2 0 = true := by kernel_rfl
theorem e0_4_210 : okE false 4 2 1 0 = true := by kernel_rfl
theorem e0_5_120 : okE false 5 1 2 0 = true := by kernel_rfl
theorem e0_5_222 : okE false 5 2 2 2 = true := by kernel_rfl
theorem e0_6_210 : okE false 6 2 1 0 = true := by kernel_rfl
theorem e0_7_100 : okE false 7 1 0 0 = true := by kernel_rfl
theorem e0_7_211 : okE false 7 2 1 1 = true := by kernel_rfl
theorem e0_8_110 : okE false 8 1 1 0 = true := by kernel_rfl
theorem e0_8_232 : okE false 8 2 3 2 = true := by kernel_rfl
theorem e0_9_202 : okE false 9 2 0 2 = true := by kernel_rfl
theorem e0_10_110 : okE false 10 1 1 0 = true := by kernel_rfl
theorem e0_10_230 : okE false 10 2 3 0 = true := by kernel_rfl
theorem e0_11_200 : okE false 11 2 0 0 = true := by kernel_rfl
theorem e0_11_231 : okE false 11 2 3 1 = true := by kernel_rfl
theorem e0_12_210 : okE false 12 2 1 0 = true := by kernel_rfl
theorem e0_13_100 : okE false 13 1 0 0 = true := by kernel_rfl
theorem e0_13_220 : okE false 13 2 2 0 = true := by kernel_rfl
theorem e0_14_110 : okE false 14 1 1 0 = true := by kernel_rfl
theorem e0_14_221 : okE false 14 2 2 1 = true := by kernel_rfl
theorem e0_15_120 : okE false 15 1 2 0 = true := by kernel_rfl
theorem e0_15_220 : okE false 15 2 2 0 = true := by kernel_rfl
end Go.Proofs.Ytjbhcmppjmmmiaa
