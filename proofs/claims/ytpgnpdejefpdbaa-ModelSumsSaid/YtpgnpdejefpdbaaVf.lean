/- ModelSums, by the cases of a round. -/
import Derived.Test.YtpgnpdejefpdbaaV
namespace Go.Proofs.Ytpgnpdejefpdbaa
open Go.Sx Go
set_option maxRecDepth 100000
theorem u_0_5 : uOk [false, false, false, false] 5 = true := by kernel_rfl
theorem u_0_13 : uOk [false, false, false, false] 13 = true := by kernel_rfl
theorem u_0_21 : uOk [false, false, false, false] 21 = true := by kernel_rfl
theorem u_1_1 : uOk [false, false, false, true] 1 = true := by kernel_rfl
theorem u_1_9 : uOk [false, false, false, true] 9 = true := by kernel_rfl
theorem u_1_17 : uOk [false, false, false, true] 17 = true := by kernel_rfl
theorem u_1_25 : uOk [false, false, false, true] 25 = true := by kernel_rfl
theorem u_2_5 : uOk [false, false, true, false] 5 = true := by kernel_rfl
theorem u_2_13 : uOk [false, false, true, false] 13 = true := by kernel_rfl
theorem u_2_21 : uOk [false, false, true, false] 21 = true := by kernel_rfl
theorem u_3_1 : uOk [false, false, true, true] 1 = true := by kernel_rfl
theorem u_3_9 : uOk [false, false, true, true] 9 = true := by kernel_rfl
theorem u_3_17 : uOk [false, false, true, true] 17 = true := by kernel_rfl
theorem u_3_25 : uOk [false, false, true, true] 25 = true := by kernel_rfl
theorem u_4_5 : uOk [false, true, false, false] 5 = true := by kernel_rfl
theorem u_4_13 : uOk [false, true, false, false] 13 = true := by kernel_rfl
theorem u_4_21 : uOk [false, true, false, false] 21 = true := by kernel_rfl
theorem u_5_1 : uOk [false, true, false, true] 1 = true := by kernel_rfl
theorem u_5_9 : uOk [false, true, false, true] 9 = true := by kernel_rfl
theorem u_5_17 : uOk [false, true, false, true] 17 = true := by kernel_rfl
theorem u_5_25 : uOk [false, true, false, true] 25 = true := by kernel_rfl
theorem u_6_5 : uOk [false, true, true, false] 5 = true := by kernel_rfl
theorem u_6_13 : uOk [false, true, true, false] 13 = true := by kernel_rfl
theorem u_6_21 : uOk [false, true, true, false] 21 = true := by kernel_rfl
theorem u_7_1 : uOk [false, true, true, true] 1 = true := by kernel_rfl
theorem u_7_9 : uOk [false, true, true, true] 9 = true := by kernel_rfl
theorem u_7_17 : uOk [false, true, true, true] 17 = true := by kernel_rfl
theorem u_7_25 : uOk [false, true, true, true] 25 = true := by kernel_rfl
theorem u_8_5 : uOk [true, false, false, false] 5 = true := by kernel_rfl
theorem u_8_13 : uOk [true, false, false, false] 13 = true := by kernel_rfl
theorem u_8_21 : uOk [true, false, false, false] 21 = true := by kernel_rfl
theorem u_9_1 : uOk [true, false, false, true] 1 = true := by kernel_rfl
theorem u_9_9 : uOk [true, false, false, true] 9 = true := by kernel_rfl
theorem u_9_17 : uOk [true, false, false, true] 17 = true := by kernel_rfl
theorem u_9_25 : uOk [true, false, false, true] 25 = true := by kernel_rfl
theorem u_10_5 : uOk [true, false, true, false] 5 = true := by kernel_rfl
theorem u_10_13 : uOk [true, false, true, false] 13 = true := by kernel_rfl
theorem u_10_21 : uOk [true, false, true, false] 21 = true := by kernel_rfl
theorem u_11_1 : uOk [true, false, true, true] 1 = true := by kernel_rfl
theorem u_11_9 : uOk [true, false, true, true] 9 = true := by kernel_rfl
theorem u_11_17 : uOk [true, false, true, true] 17 = true := by kernel_rfl
theorem u_11_25 : uOk [true, false, true, true] 25 = true := by kernel_rfl
theorem u_12_5 : uOk [true, true, false, false] 5 = true := by kernel_rfl
theorem u_12_13 : uOk [true, true, false, false] 13 = true := by kernel_rfl
theorem u_12_21 : uOk [true, true, false, false] 21 = true := by kernel_rfl
theorem u_13_1 : uOk [true, true, false, true] 1 = true := by kernel_rfl
theorem u_13_9 : uOk [true, true, false, true] 9 = true := by kernel_rfl
theorem u_13_17 : uOk [true, true, false, true] 17 = true := by kernel_rfl
theorem u_13_25 : uOk [true, true, false, true] 25 = true := by kernel_rfl
theorem u_14_5 : uOk [true, true, true, false] 5 = true := by kernel_rfl
theorem u_14_13 : uOk [true, true, true, false] 13 = true := by kernel_rfl
theorem u_14_21 : uOk [true, true, true, false] 21 = true := by kernel_rfl
theorem u_15_1 : uOk [true, true, true, true] 1 = true := by kernel_rfl
theorem u_15_9 : uOk [true, true, true, true] 9 = true := by kernel_rfl
theorem u_15_17 : uOk [true, true, true, true] 17 = true := by kernel_rfl
theorem u_15_25 : uOk [true, true, true, true] 25 = true := by kernel_rfl
end Go.Proofs.Ytpgnpdejefpdbaa
