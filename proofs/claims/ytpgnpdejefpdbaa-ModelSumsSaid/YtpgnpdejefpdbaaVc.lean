/- ModelSums, by the cases of a round. -/
import Derived.Test.YtpgnpdejefpdbaaV
namespace Go.Proofs.Ytpgnpdejefpdbaa
open Go.Sx Go
set_option maxRecDepth 100000
theorem u_0_2 : uOk [false, false, false, false] 2 = true := by kernel_rfl
theorem u_0_10 : uOk [false, false, false, false] 10 = true := by kernel_rfl
theorem u_0_18 : uOk [false, false, false, false] 18 = true := by kernel_rfl
theorem u_0_26 : uOk [false, false, false, false] 26 = true := by kernel_rfl
theorem u_1_6 : uOk [false, false, false, true] 6 = true := by kernel_rfl
theorem u_1_14 : uOk [false, false, false, true] 14 = true := by kernel_rfl
theorem u_1_22 : uOk [false, false, false, true] 22 = true := by kernel_rfl
theorem u_2_2 : uOk [false, false, true, false] 2 = true := by kernel_rfl
theorem u_2_10 : uOk [false, false, true, false] 10 = true := by kernel_rfl
theorem u_2_18 : uOk [false, false, true, false] 18 = true := by kernel_rfl
theorem u_2_26 : uOk [false, false, true, false] 26 = true := by kernel_rfl
theorem u_3_6 : uOk [false, false, true, true] 6 = true := by kernel_rfl
theorem u_3_14 : uOk [false, false, true, true] 14 = true := by kernel_rfl
theorem u_3_22 : uOk [false, false, true, true] 22 = true := by kernel_rfl
theorem u_4_2 : uOk [false, true, false, false] 2 = true := by kernel_rfl
theorem u_4_10 : uOk [false, true, false, false] 10 = true := by kernel_rfl
theorem u_4_18 : uOk [false, true, false, false] 18 = true := by kernel_rfl
theorem u_4_26 : uOk [false, true, false, false] 26 = true := by kernel_rfl
theorem u_5_6 : uOk [false, true, false, true] 6 = true := by kernel_rfl
theorem u_5_14 : uOk [false, true, false, true] 14 = true := by kernel_rfl
theorem u_5_22 : uOk [false, true, false, true] 22 = true := by kernel_rfl
theorem u_6_2 : uOk [false, true, true, false] 2 = true := by kernel_rfl
theorem u_6_10 : uOk [false, true, true, false] 10 = true := by kernel_rfl
theorem u_6_18 : uOk [false, true, true, false] 18 = true := by kernel_rfl
theorem u_6_26 : uOk [false, true, true, false] 26 = true := by kernel_rfl
theorem u_7_6 : uOk [false, true, true, true] 6 = true := by kernel_rfl
theorem u_7_14 : uOk [false, true, true, true] 14 = true := by kernel_rfl
theorem u_7_22 : uOk [false, true, true, true] 22 = true := by kernel_rfl
theorem u_8_2 : uOk [true, false, false, false] 2 = true := by kernel_rfl
theorem u_8_10 : uOk [true, false, false, false] 10 = true := by kernel_rfl
theorem u_8_18 : uOk [true, false, false, false] 18 = true := by kernel_rfl
theorem u_8_26 : uOk [true, false, false, false] 26 = true := by kernel_rfl
theorem u_9_6 : uOk [true, false, false, true] 6 = true := by kernel_rfl
theorem u_9_14 : uOk [true, false, false, true] 14 = true := by kernel_rfl
theorem u_9_22 : uOk [true, false, false, true] 22 = true := by kernel_rfl
theorem u_10_2 : uOk [true, false, true, false] 2 = true := by kernel_rfl
theorem u_10_10 : uOk [true, false, true, false] 10 = true := by kernel_rfl
theorem u_10_18 : uOk [true, false, true, false] 18 = true := by kernel_rfl
theorem u_10_26 : uOk [true, false, true, false] 26 = true := by kernel_rfl
theorem u_11_6 : uOk [true, false, true, true] 6 = true := by kernel_rfl
theorem u_11_14 : uOk [true, false, true, true] 14 = true := by kernel_rfl
theorem u_11_22 : uOk [true, false, true, true] 22 = true := by kernel_rfl
theorem u_12_2 : uOk [true, true, false, false] 2 = true := by kernel_rfl
theorem u_12_10 : uOk [true, true, false, false] 10 = true := by kernel_rfl
theorem u_12_18 : uOk [true, true, false, false] 18 = true := by kernel_rfl
theorem u_12_26 : uOk [true, true, false, false] 26 = true := by kernel_rfl
theorem u_13_6 : uOk [true, true, false, true] 6 = true := by kernel_rfl
theorem u_13_14 : uOk [true, true, false, true] 14 = true := by kernel_rfl
theorem u_13_22 : uOk [true, true, false, true] 22 = true := by kernel_rfl
theorem u_14_2 : uOk [true, true, true, false] 2 = true := by kernel_rfl
theorem u_14_10 : uOk [true, true, true, false] 10 = true := by kernel_rfl
theorem u_14_18 : uOk [true, true, true, false] 18 = true := by kernel_rfl
theorem u_14_26 : uOk [true, true, true, false] 26 = true := by kernel_rfl
theorem u_15_6 : uOk [true, true, true, true] 6 = true := by kernel_rfl
theorem u_15_14 : uOk [true, true, true, true] 14 = true := by kernel_rfl
theorem u_15_22 : uOk [true, true, true, true] 22 = true := by kernel_rfl
end Go.Proofs.Ytpgnpdejefpdbaa
