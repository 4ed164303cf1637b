/- ModelSums, by the cases of a round. -/
import Derived.Test.YtpgnpdejefpdbaaV
namespace Go.Proofs.Ytpgnpdejefpdbaa
open Go.Sx Go
set_option maxRecDepth 100000
theorem u_0_1 : uOk [false, false, false, false] 1 = true := by kernel_rfl
theorem u_0_9 : uOk [false, false, false, false] 9 = true := by kernel_rfl
theorem u_0_17 : uOk [false, false, false, false] 17 = true := by kernel_rfl
theorem u_0_25 : uOk [false, false, false, false] 25 = true := by kernel_rfl
theorem u_1_5 : uOk [false, false, false, true] 5 = true := by kernel_rfl
theorem u_1_13 : uOk [false, false, false, true] 13 = true := by kernel_rfl
theorem u_1_21 : uOk [false, false, false, true] 21 = true := by kernel_rfl
theorem u_2_1 : uOk [false, false, true, false] 1 = true := by kernel_rfl
theorem u_2_9 : uOk [false, false, true, false] 9 = true := by kernel_rfl
theorem u_2_17 : uOk [false, false, true, false] 17 = true := by kernel_rfl
theorem u_2_25 : uOk [false, false, true, false] 25 = true := by kernel_rfl
theorem u_3_5 : uOk [false, false, true, true] 5 = true := by kernel_rfl
theorem u_3_13 : uOk [false, false, true, true] 13 = true := by kernel_rfl
theorem u_3_21 : uOk [false, false, true, true] 21 = true := by kernel_rfl
theorem u_4_1 : uOk [false, true, false, false] 1 = true := by kernel_rfl
theorem u_4_9 : uOk [false, true, false, false] 9 = true := by kernel_rfl
theorem u_4_17 : uOk [false, true, false, false] 17 = true := by kernel_rfl
theorem u_4_25 : uOk [false, true, false, false] 25 = true := by kernel_rfl
theorem u_5_5 : uOk [false, true, false, true] 5 = true := by kernel_rfl
theorem u_5_13 : uOk [false, true, false, true] 13 = true := by kernel_rfl
theorem u_5_21 : uOk [false, true, false, true] 21 = true := by kernel_rfl
theorem u_6_1 : uOk [false, true, true, false] 1 = true := by kernel_rfl
theorem u_6_9 : uOk [false, true, true, false] 9 = true := by kernel_rfl
theorem u_6_17 : uOk [false, true, true, false] 17 = true := by kernel_rfl
theorem u_6_25 : uOk [false, true, true, false] 25 = true := by kernel_rfl
theorem u_7_5 : uOk [false, true, true, true] 5 = true := by kernel_rfl
theorem u_7_13 : uOk [false, true, true, true] 13 = true := by kernel_rfl
theorem u_7_21 : uOk [false, true, true, true] 21 = true := by kernel_rfl
theorem u_8_1 : uOk [true, false, false, false] 1 = true := by kernel_rfl
theorem u_8_9 : uOk [true, false, false, false] 9 = true := by kernel_rfl
theorem u_8_17 : uOk [true, false, false, false] 17 = true := by kernel_rfl
theorem u_8_25 : uOk [true, false, false, false] 25 = true := by kernel_rfl
theorem u_9_5 : uOk [true, false, false, true] 5 = true := by kernel_rfl
theorem u_9_13 : uOk [true, false, false, true] 13 = true := by kernel_rfl
theorem u_9_21 : uOk [true, false, false, true] 21 = true := by kernel_rfl
theorem u_10_1 : uOk [true, false, true, false] 1 = true := by kernel_rfl
theorem u_10_9 : uOk [true, false, true, false] 9 = true := by kernel_rfl
theorem u_10_17 : uOk [true, false, true, false] 17 = true := by kernel_rfl
theorem u_10_25 : uOk [true, false, true, false] 25 = true := by kernel_rfl
theorem u_11_5 : uOk [true, false, true, true] 5 = true := by kernel_rfl
theorem u_11_13 : uOk [true, false, true, true] 13 = true := by kernel_rfl
theorem u_11_21 : uOk [true, false, true, true] 21 = true := by kernel_rfl
theorem u_12_1 : uOk [true, true, false, false] 1 = true := by kernel_rfl
theorem u_12_9 : uOk [true, true, false, false] 9 = true := by kernel_rfl
theorem u_12_17 : uOk [true, true, false, false] 17 = true := by kernel_rfl
theorem u_12_25 : uOk [true, true, false, false] 25 = true := by kernel_rfl
theorem u_13_5 : uOk [true, true, false, true] 5 = true := by kernel_rfl
theorem u_13_13 : uOk [true, true, false, true] 13 = true := by kernel_rfl
theorem u_13_21 : uOk [true, true, false, true] 21 = true := by kernel_rfl
theorem u_14_1 : uOk [true, true, true, false] 1 = true := by kernel_rfl
theorem u_14_9 : uOk [true, true, true, false] 9 = true := by kernel_rfl
theorem u_14_17 : uOk [true, true, true, false] 17 = true := by kernel_rfl
theorem u_14_25 : uOk [true, true, true, false] 25 = true := by kernel_rfl
theorem u_15_5 : uOk [true, true, true, true] 5 = true := by kernel_rfl
theorem u_15_13 : uOk [true, true, true, true] 13 = true := by kernel_rfl
theorem u_15_21 : uOk [true, true, true, true] 21 = true := by kernel_rfl
end Go.Proofs.Ytpgnpdejefpdbaa
