/- ModelSums, by the cases of a round. -/
import Derived.Test.YtpgnpdejefpdbaaV
namespace Go.Proofs.Ytpgnpdejefpdbaa
open Go.Sx Go
set_option maxRecDepth 100000
theorem u_0_6 : uOk [false, false, false, false] 6 = true := by kernel_rfl
theorem u_0_14 : uOk [false, false, false, false] 14 = true := by kernel_rfl
theorem u_0_22 : uOk [false, false, false, false] 22 = true := by kernel_rfl
theorem u_1_2 : uOk [false, false, false, true] 2 = true := by kernel_rfl
theorem u_1_10 : uOk [false, false, false, true] 10 = true := by kernel_rfl
theorem u_1_18 : uOk [false, false, false, true] 18 = true := by kernel_rfl
theorem u_1_26 : uOk [false, false, false, true] 26 = true := by kernel_rfl
theorem u_2_6 : uOk [false, false, true, false] 6 = true := by kernel_rfl
theorem u_2_14 : uOk [false, false, true, false] 14 = true := by kernel_rfl
theorem u_2_22 : uOk [false, false, true, false] 22 = true := by kernel_rfl
theorem u_3_2 : uOk [false, false, true, true] 2 = true := by kernel_rfl
theorem u_3_10 : uOk [false, false, true, true] 10 = true := by kernel_rfl
theorem u_3_18 : uOk [false, false, true, true] 18 = true := by kernel_rfl
theorem u_3_26 : uOk [false, false, true, true] 26 = true := by kernel_rfl
theorem u_4_6 : uOk [false, true, false, false] 6 = true := by kernel_rfl
theorem u_4_14 : uOk [false, true, false, false] 14 = true := by kernel_rfl
theorem u_4_22 : uOk [false, true, false, false] 22 = true := by kernel_rfl
theorem u_5_2 : uOk [false, true, false, true] 2 = true := by kernel_rfl
theorem u_5_10 : uOk [false, true, false, true] 10 = true := by kernel_rfl
theorem u_5_18 : uOk [false, true, false, true] 18 = true := by kernel_rfl
theorem u_5_26 : uOk [false, true, false, true] 26 = true := by kernel_rfl
theorem u_6_6 : uOk [false, true, true, false] 6 = true := by kernel_rfl
theorem u_6_14 : uOk [false, true, true, false] 14 = true := by kernel_rfl
theorem u_6_22 : uOk [false, true, true, false] 22 = true := by kernel_rfl
theorem u_7_2 : uOk [false, true, true, true] 2 = true := by kernel_rfl
theorem u_7_10 : uOk [false, true, true, true] 10 = true := by kernel_rfl
theorem u_7_18 : uOk [false, true, true, true] 18 = true := by kernel_rfl
theorem u_7_26 : uOk [false, true, true, true] 26 = true := by kernel_rfl
theorem u_8_6 : uOk [true, false, false, false] 6 = true := by kernel_rfl
theorem u_8_14 : uOk [true, false, false, false] 14 = true := by kernel_rfl
theorem u_8_22 : uOk [true, false, false, false] 22 = true := by kernel_rfl
theorem u_9_2 : uOk [true, false, false, true] 2 = true := by kernel_rfl
theorem u_9_10 : uOk [true, false, false, true] 10 = true := by kernel_rfl
theorem u_9_18 : uOk [true, false, false, true] 18 = true := by kernel_rfl
theorem u_9_26 : uOk [true, false, false, true] 26 = true := by kernel_rfl
theorem u_10_6 : uOk [true, false, true, false] 6 = true := by kernel_rfl
theorem u_10_14 : uOk [true, false, true, false] 14 = true := by kernel_rfl
theorem u_10_22 : uOk [true, false, true, false] 22 = true := by kernel_rfl
theorem u_11_2 : uOk [true, false, true, true] 2 = true := by kernel_rfl
theorem u_11_10 : uOk [true, false, true, true] 10 = true := by kernel_rfl
theorem u_11_18 : uOk [true, false, true, true] 18 = true := by kernel_rfl
theorem u_11_26 : uOk [true, false, true, true] 26 = true := by kernel_rfl
theorem u_12_6 : uOk [true, true, false, false] 6 = true := by kernel_rfl
theorem u_12_14 : uOk [true, true, false, false] 14 = true := by kernel_rfl
theorem u_12_22 : uOk [true, true, false, false] 22 = true := by kernel_rfl
theorem u_13_2 : uOk [true, true, false, true] 2 = true := by kernel_rfl
theorem u_13_10 : uOk [true, true, false, true] 10 = true := by kernel_rfl
theorem u_13_18 : uOk [true, true, false, true] 18 = true := by kernel_rfl
theorem u_13_26 : uOk [true, true, false, true] 26 = true := by kernel_rfl
theorem u_14_6 : uOk [true, true, true, false] 6 = true := by kernel_rfl
theorem u_14_14 : uOk [true, true, true, false] 14 = true := by kernel_rfl
theorem u_14_22 : uOk [true, true, true, false] 22 = true := by kernel_rfl
theorem u_15_2 : uOk [true, true, true, true] 2 = true := by kernel_rfl
theorem u_15_10 : uOk [true, true, true, true] 10 = true := by kernel_rfl
theorem u_15_18 : uOk [true, true, true, true] 18 = true := by kernel_rfl
theorem u_15_26 : uOk [true, true, true, true] 26 = true := by kernel_rfl
end Go.Proofs.Ytpgnpdejefpdbaa
