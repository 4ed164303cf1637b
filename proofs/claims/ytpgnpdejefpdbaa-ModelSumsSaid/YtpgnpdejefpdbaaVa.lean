/- ModelSums, by the cases of a round. -/
import Derived.Test.YtpgnpdejefpdbaaV
namespace Go.Proofs.Ytpgnpdejefpdbaa
open Go.Sx Go
set_option maxRecDepth 100000
theorem u_0_0 : uOk [false, false, false, false] 0 = true := by kernel_rfl
theorem u_0_8 : uOk [false, false, false, false] 8 = true := by kernel_rfl
theorem u_0_16 : uOk [false, false, false, false] 16 = true := by kernel_rfl
theorem u_0_24 : uOk [false, false, false, false] 24 = true := by kernel_rfl
theorem u_1_4 : uOk [false, false, false, true] 4 = true := by kernel_rfl
theorem u_1_12 : uOk [false, false, false, true] 12 = true := by kernel_rfl
theorem u_1_20 : uOk [false, false, false, true] 20 = true := by kernel_rfl
theorem u_2_0 : uOk [false, false, true, false] 0 = true := by kernel_rfl
theorem u_2_8 : uOk [false, false, true, false] 8 = true := by kernel_rfl
theorem u_2_16 : uOk [false, false, true, false] 16 = true := by kernel_rfl
theorem u_2_24 : uOk [false, false, true, false] 24 = true := by kernel_rfl
theorem u_3_4 : uOk [false, false, true, true] 4 = true := by kernel_rfl
theorem u_3_12 : uOk [false, false, true, true] 12 = true := by kernel_rfl
theorem u_3_20 : uOk [false, false, true, true] 20 = true := by kernel_rfl
theorem u_4_0 : uOk [false, true, false, false] 0 = true := by kernel_rfl
theorem u_4_8 : uOk [false, true, false, false] 8 = true := by kernel_rfl
theorem u_4_16 : uOk [false, true, false, false] 16 = true := by kernel_rfl
theorem u_4_24 : uOk [false, true, false, false] 24 = true := by kernel_rfl
theorem u_5_4 : uOk [false, true, false, true] 4 = true := by kernel_rfl
theorem u_5_12 : uOk [false, true, false, true] 12 = true := by kernel_rfl
theorem u_5_20 : uOk [false, true, false, true] 20 = true := by kernel_rfl
theorem u_6_0 : uOk [false, true, true, false] 0 = true := by kernel_rfl
theorem u_6_8 : uOk [false, true, true, false] 8 = true := by kernel_rfl
theorem u_6_16 : uOk [false, true, true, false] 16 = true := by kernel_rfl
theorem u_6_24 : uOk [false, true, true, false] 24 = true := by kernel_rfl
theorem u_7_4 : uOk [false, true, true, true] 4 = true := by kernel_rfl
theorem u_7_12 : uOk [false, true, true, true] 12 = true := by kernel_rfl
theorem u_7_20 : uOk [false, true, true, true] 20 = true := by kernel_rfl
theorem u_8_0 : uOk [true, false, false, false] 0 = true := by kernel_rfl
theorem u_8_8 : uOk [true, false, false, false] 8 = true := by kernel_rfl
theorem u_8_16 : uOk [true, false, false, false] 16 = true := by kernel_rfl
theorem u_8_24 : uOk [true, false, false, false] 24 = true := by kernel_rfl
theorem u_9_4 : uOk [true, false, false, true] 4 = true := by kernel_rfl
theorem u_9_12 : uOk [true, false, false, true] 12 = true := by kernel_rfl
theorem u_9_20 : uOk [true, false, false, true] 20 = true := by kernel_rfl
theorem u_10_0 : uOk [true, false, true, false] 0 = true := by kernel_rfl
theorem u_10_8 : uOk [true, false, true, false] 8 = true := by kernel_rfl
theorem u_10_16 : uOk [true, false, true, false] 16 = true := by kernel_rfl
theorem u_10_24 : uOk [true, false, true, false] 24 = true := by kernel_rfl
theorem u_11_4 : uOk [true, false, true, true] 4 = true := by kernel_rfl
theorem u_11_12 : uOk [true, false, true, true] 12 = true := by kernel_rfl
theorem u_11_20 : uOk [true, false, true, true] 20 = true := by kernel_rfl
theorem u_12_0 : uOk [true, true, false, false] 0 = true := by kernel_rfl
theorem u_12_8 : uOk [true, true, false, false] 8 = true := by kernel_rfl
theorem u_12_16 : uOk [true, true, false, false] 16 = true := by kernel_rfl
theorem u_12_24 : uOk [true, true, false, false] 24 = true := by kernel_rfl
theorem u_13_4 : uOk [true, true, false, true] 4 = true := by kernel_rfl
theorem u_13_12 : uOk [true, true, false, true] 12 = true := by kernel_rfl
theorem u_13_20 : uOk [true, true, false, true] 20 = true := by kernel_rfl
theorem u_14_0 : uOk [true, true, true, false] 0 = true := by kernel_rfl
theorem u_14_8 : uOk [true, true, true, false] 8 = true := by kernel_rfl
theorem u_14_16 : uOk [true, true, true, false] 16 = true := by kernel_rfl
theorem u_14_24 : uOk [true, true, true, false] 24 = true := by kernel_rfl
theorem u_15_4 : uOk [true, true, true, true] 4 = true := by kernel_rfl
theorem u_15_12 : uOk [true, true, true, true] 12 = true := by kernel_rfl
theorem u_15_20 : uOk [true, true, true, true] 20 = true := by kernel_rfl
theorem sum_run : okSum = true := by kernel_rfl
theorem sum_nil : okSumN = true := by kernel_rfl
end Go.Proofs.Ytpgnpdejefpdbaa
