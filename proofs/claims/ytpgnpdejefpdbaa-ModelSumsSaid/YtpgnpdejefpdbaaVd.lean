/- ModelSums, by the cases of a round. -/
import Derived.Test.YtpgnpdejefpdbaaV
namespace Go.Proofs.Ytpgnpdejefpdbaa
open Go.Sx Go
set_option maxRecDepth 100000
theorem u_0_3 : uOk [false, false, false, false] 3 = true := by kernel_rfl
theorem u_0_11 : uOk [false, false, false, false] 11 = true := by kernel_rfl
theorem u_0_19 : uOk [false, false, false, false] 19 = true := by kernel_rfl
theorem u_0_27 : uOk [false, false, false, false] 27 = true := by kernel_rfl
theorem u_1_7 : uOk [false, false, false, true] 7 = true := by kernel_rfl
theorem u_1_15 : uOk [false, false, false, true] 15 = true := by kernel_rfl
theorem u_1_23 : uOk [false, false, false, true] 23 = true := by kernel_rfl
theorem u_2_3 : uOk [false, false, true, false] 3 = true := by kernel_rfl
theorem u_2_11 : uOk [false, false, true, false] 11 = true := by kernel_rfl
theorem u_2_19 : uOk [false, false, true, false] 19 = true := by kernel_rfl
theorem u_2_27 : uOk [false, false, true, false] 27 = true := by kernel_rfl
theorem u_3_7 : uOk [false, false, true, true] 7 = true := by kernel_rfl
theorem u_3_15 : uOk [false, false, true, true] 15 = true := by kernel_rfl
theorem u_3_23 : uOk [false, false, true, true] 23 = true := by kernel_rfl
theorem u_4_3 : uOk [false, true, false, false] 3 = true := by kernel_rfl
theorem u_4_11 : uOk [false, true, false, false] 11 = true := by kernel_rfl
theorem u_4_19 : uOk [false, true, false, false] 19 = true := by kernel_rfl
theorem u_4_27 : uOk [false, true, false, false] 27 = true := by kernel_rfl
theorem u_5_7 : uOk [false, true, false, true] 7 = true := by kernel_rfl
theorem u_5_15 : uOk [false, true, false, true] 15 = true := by kernel_rfl
theorem u_5_23 : uOk [false, true, false, true] 23 = true := by kernel_rfl
theorem u_6_3 : uOk [false, true, true, false] 3 = true := by kernel_rfl
theorem u_6_11 : uOk [false, true, true, false] 11 = true := by kernel_rfl
theorem u_6_19 : uOk [false, true, true, false] 19 = true := by kernel_rfl
theorem u_6_27 : uOk [false, true, true, false] 27 = true := by kernel_rfl
theorem u_7_7 : uOk [false, true, true, true] 7 = true := by kernel_rfl
theorem u_7_15 : uOk [false, true, true, true] 15 = true := by kernel_rfl
theorem u_7_23 : uOk [false, true, true, true] 23 = true := by kernel_rfl
theorem u_8_3 : uOk [true, false, false, false] 3 = true := by kernel_rfl
theorem u_8_11 : uOk [true, false, false, false] 11 = true := by kernel_rfl
theorem u_8_19 : uOk [true, false, false, false] 19 = true := by kernel_rfl
theorem u_8_27 : uOk [true, false, false, false] 27 = true := by kernel_rfl
theorem u_9_7 : uOk [true, false, false, true] 7 = true := by kernel_rfl
theorem u_9_15 : uOk [true, false, false, true] 15 = true := by kernel_rfl
theorem u_9_23 : uOk [true, false, false, true] 23 = true := by kernel_rfl
theorem u_10_3 : uOk [true, false, true, false] 3 = true := by kernel_rfl
theorem u_10_11 : uOk [true, false, true, false] 11 = true := by kernel_rfl
theorem u_10_19 : uOk [true, false, true, false] 19 = true := by kernel_rfl
theorem u_10_27 : uOk [true, false, true, false] 27 = true := by kernel_rfl
theorem u_11_7 : uOk [true, false, true, true] 7 = true := by kernel_rfl
theorem u_11_15 : uOk [true, false, true, true] 15 = true := by kernel_rfl
theorem u_11_23 : uOk [true, false, true, true] 23 = true := by kernel_rfl
theorem u_12_3 : uOk [true, true, false, false] 3 = true := by kernel_rfl
theorem u_12_11 : uOk [true, true, false, false] 11 = true := by kernel_rfl
theorem u_12_19 : uOk [true, true, false, false] 19 = true := by kernel_rfl
theorem u_12_27 : uOk [true, true, false, false] 27 = true := by kernel_rfl
theorem u_13_7 : uOk [true, true, false, true] 7 = true := by kernel_rfl
theorem u_13_15 : uOk [true, true, false, true] 15 = true := by kernel_rfl
theorem u_13_23 : uOk [true, true, false, true] 23 = true := by kernel_rfl
theorem u_14_3 : uOk [true, true, true, false] 3 = true := by kernel_rfl
theorem u_14_11 : uOk [true, true, true, false] 11 = true := by kernel_rfl
theorem u_14_19 : uOk [true, true, true, false] 19 = true := by kernel_rfl
theorem u_14_27 : uOk [true, true, true, false] 27 = true := by kernel_rfl
theorem u_15_7 : uOk [true, true, true, true] 7 = true := by kernel_rfl
theorem u_15_15 : uOk [true, true, true, true] 15 = true := by kernel_rfl
theorem u_15_23 : uOk [true, true, true, true] 23 = true := by kernel_rfl
end Go.Proofs.Ytpgnpdejefpdbaa
