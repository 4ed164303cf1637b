/- ModelSums, by the cases of a round. -/
import Derived.Test.YtpgnpdejefpdbaaV
namespace Go.Proofs.Ytpgnpdejefpdbaa
open Go.Sx Go
set_option maxRecDepth 100000
theorem u_0_7 : uOk [false, false, false, false] 7 = true := by kernel_rfl
theorem u_0_15 : uOk [false, false, false, false] 15 = true := by kernel_rfl
theorem u_0_23 : uOk [false, false, false, false] 23 = true := by kernel_rfl
theorem u_1_3 : uOk [false, false, false, true] 3 = true := by kernel_rfl
theorem u_1_11 : uOk [false, false, false, true] 11 = true := by kernel_rfl
theorem u_1_19 : uOk [false, false, false, true] 19 = true := by kernel_rfl
theorem u_1_27 : uOk [false, false, false, true] 27 = true := by kernel_rfl
theorem u_2_7 : uOk [false, false, true, false] 7 = true := by kernel_rfl
theorem u_2_15 : uOk [false, false, true, false] 15 = true := by kernel_rfl
theorem u_2_23 : uOk [false, false, true, false] 23 = true := by kernel_rfl
theorem u_3_3 : uOk [false, false, true, true] 3 = true := by kernel_rfl
theorem u_3_11 : uOk [false, false, true, true] 11 = true := by kernel_rfl
theorem u_3_19 : uOk [false, false, true, true] 19 = true := by kernel_rfl
theorem u_3_27 : uOk [false, false, true, true] 27 = true := by kernel_rfl
theorem u_4_7 : uOk [false, true, false, false] 7 = true := by kernel_rfl
theorem u_4_15 : uOk [false, true, false, false] 15 = true := by kernel_rfl
theorem u_4_23 : uOk [false, true, false, false] 23 = true := by kernel_rfl
theorem u_5_3 : uOk [false, true, false, true] 3 = true := by kernel_rfl
theorem u_5_11 : uOk [false, true, false, true] 11 = true := by kernel_rfl
theorem u_5_19 : uOk [false, true, false, true] 19 = true := by kernel_rfl
theorem u_5_27 : uOk [false, true, false, true] 27 = true := by kernel_rfl
theorem u_6_7 : uOk [false, true, true, false] 7 = true := by kernel_rfl
theorem u_6_15 : uOk [false, true, true, false] 15 = true := by kernel_rfl
theorem u_6_23 : uOk [false, true, true, false] 23 = true := by kernel_rfl
theorem u_7_3 : uOk [false, true, true, true] 3 = true := by kernel_rfl
theorem u_7_11 : uOk [false, true, true, true] 11 = true := by kernel_rfl
theorem u_7_19 : uOk [false, true, true, true] 19 = true := by kernel_rfl
theorem u_7_27 : uOk [false, true, true, true] 27 = true := by kernel_rfl
theorem u_8_7 : uOk [true, false, false, false] 7 = true := by kernel_rfl
theorem u_8_15 : uOk [true, false, false, false] 15 = true := by kernel_rfl
theorem u_8_23 : uOk [true, false, false, false] 23 = true := by kernel_rfl
theorem u_9_3 : uOk [true, false, false, true] 3 = true := by kernel_rfl
theorem u_9_11 : uOk [true, false, false, true] 11 = true := by kernel_rfl
theorem u_9_19 : uOk [true, false, false, true] 19 = true := by kernel_rfl
theorem u_9_27 : uOk [true, false, false, true] 27 = true := by kernel_rfl
theorem u_10_7 : uOk [true, false, true, false] 7 = true := by kernel_rfl
theorem u_10_15 : uOk [true, false, true, false] 15 = true := by kernel_rfl
theorem u_10_23 : uOk [true, false, true, false] 23 = true := by kernel_rfl
theorem u_11_3 : uOk [true, false, true, true] 3 = true := by kernel_rfl
theorem u_11_11 : uOk [true, false, true, true] 11 = true := by kernel_rfl
theorem u_11_19 : uOk [true, false, true, true] 19 = true := by kernel_rfl
theorem u_11_27 : uOk [true, false, true, true] 27 = true := by kernel_rfl
theorem u_12_7 : uOk [true, true, false, false] 7 = true := by kernel_rfl
theorem u_12_15 : uOk [true, true, false, false] 15 = true := by kernel_rfl
theorem u_12_23 : uOk [true, true, false, false] 23 = true := by kernel_rfl
theorem u_13_3 : uOk [true, true, false, true] 3 = true := by kernel_rfl
theorem u_13_11 : uOk [true, true, false, true] 11 = true := by kernel_rfl
theorem u_13_19 : uOk [true, true, false, true] 19 = true := by kernel_rfl
theorem u_13_27 : uOk [true, true, false, true] 27 = true := by kernel_rfl
theorem u_14_7 : uOk [true, true, true, false] 7 = true := by kernel_rfl
theorem u_14_15 : uOk [true, true, true, false] 15 = true := by kernel_rfl
theorem u_14_23 : uOk [true, true, true, false] 23 = true := by kernel_rfl
theorem u_15_3 : uOk [true, true, true, true] 3 = true := by kernel_rfl
theorem u_15_11 : uOk [true, true, true, true] 11 = true := by kernel_rfl
theorem u_15_19 : uOk [true, true, true, true] 19 = true := by kernel_rfl
theorem u_15_27 : uOk [true, true, true, true] 27 = true := by kernel_rfl
end Go.Proofs.Ytpgnpdejefpdbaa
