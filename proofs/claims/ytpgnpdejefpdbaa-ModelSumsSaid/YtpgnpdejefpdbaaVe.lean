/- ModelSums, by the cases of a round. -/
import Derived.Test.YtpgnpdejefpdbaaV
namespace Go.Proofs.Ytpgnpdejefpdbaa
open Go.Sx Go
set_option maxRecDepth 100000
theorem u_0_4 : uOk [false, false, false, false] 4 = true := by kernel_rfl
theorem u_0_12 : uOk [false, false, false, false] 12 = true := by kernel_rfl
theorem u_0_20 : uOk [false, false, false, false] 20 = true := by kernel_rfl
theorem u_1_0 : uOk [false, false, false, true] 0 = true := by kernel_rfl
theorem u_1_8 : uOk [false, false, false, true] 8 = true := by kernel_rfl
theorem u_1_16 : uOk [false, false, false, true] 16 = true := by kernel_rfl
theorem u_1_24 : uOk [false, false, false, true] 24 = true := by kernel_rfl
theorem u_2_4 : uOk [false, false, true, false] 4 = true := by kernel_rfl
theorem u_2_12 : uOk [false, false, true, false] 12 = true := by kernel_rfl
theorem u_2_20 : uOk [false, false, true, false] 20 = true := by kernel_rfl
theorem u_3_0 : uOk [false, false, true, true] 0 = true := by kernel_rfl
theorem u_3_8 : uOk [false, false, true, true] 8 = true := by kernel_rfl
theorem u_3_16 : uOk [false, false, true, true] 16 = true := by kernel_rfl
theorem u_3_24 : uOk [false, false, true, true] 24 = true := by kernel_rfl
theorem u_4_4 : uOk [false, true, false, false] 4 = true := by kernel_rfl
theorem u_4_12 : uOk [false, true, false, false] 12 = true := by kernel_rfl
theorem u_4_20 : uOk [false, true, false, false] 20 = true := by kernel_rfl
theorem u_5_0 : uOk [false, true, false, true] 0 = true := by kernel_rfl
theorem u_5_8 : uOk [false, true, false, true] 8 = true := by kernel_rfl
theorem u_5_16 : uOk [false, true, false, true] 16 = true := by kernel_rfl
theorem u_5_24 : uOk [false, true, false, true] 24 = true := by kernel_rfl
theorem u_6_4 : uOk [false, true, true, false] 4 = true := by kernel_rfl
theorem u_6_12 : uOk [false, true, true, false] 12 = true := by kernel_rfl
theorem u_6_20 : uOk [false, true, true, false] 20 = true := by kernel_rfl
theorem u_7_0 : uOk [false, true, true, true] 0 = true := by kernel_rfl
theorem u_7_8 : uOk [false, true, true, true] 8 = true := by kernel_rfl
theorem u_7_16 : uOk [false, true, true, true] 16 = true := by kernel_rfl
theorem u_7_24 : uOk [false, true, true, true] 24 = true := by kernel_rfl
theorem u_8_4 : uOk [true, false, false, false] 4 = true := by kernel_rfl
theorem u_8_12 : uOk [true, false, false, false] 12 = true := by kernel_rfl
theorem u_8_20 : uOk [true, false, false, false] 20 = true := by kernel_rfl
theorem u_9_0 : uOk [true, false, false, true] 0 = true := by kernel_rfl
theorem u_9_8 : uOk [true, false, false, true] 8 = true := by kernel_rfl
theorem u_9_16 : uOk [true, false, false, true] 16 = true := by kernel_rfl
theorem u_9_24 : uOk [true, false, false, true] 24 = true := by kernel_rfl
theorem u_10_4 : uOk [true, false, true, false] 4 = true := by kernel_rfl
theorem u_10_12 : uOk [true, false, true, false] 12 = true := by kernel_rfl
theorem u_10_20 : uOk [true, false, true, false] 20 = true := by kernel_rfl
theorem u_11_0 : uOk [true, false, true, true] 0 = true := by kernel_rfl
theorem u_11_8 : uOk [true, false, true, true] 8 = true := by kernel_rfl
theorem u_11_16 : uOk [true, false, true, true] 16 = true := by kernel_rfl
theorem u_11_24 : uOk [true, false, true, true] 24 = true := by kernel_rfl
theorem u_12_4 : uOk [true, true, false, false] 4 = true := by kernel_rfl
theorem u_12_12 : uOk [true, true, false, false] 12 = true := by kernel_rfl
theorem u_12_20 : uOk [true, true, false, false] 20 = true := by kernel_rfl
theorem u_13_0 : uOk [true, true, false, true] 0 = true := by kernel_rfl
theorem u_13_8 : uOk [true, true, false, true] 8 = true := by kernel_rfl
theorem u_13_16 : uOk [true, true, false, true] 16 = true := by kernel_rfl
theorem u_13_24 : uOk [true, true, false, true] 24 = true := by kernel_rfl
theorem u_14_4 : uOk [true, true, true, false] 4 = true := by kernel_rfl
theorem u_14_12 : uOk [true, true, true, false] 12 = true := by kernel_rfl
theorem u_14_20 : uOk [true, true, true, false] 20 = true := by kernel_rfl
theorem u_15_0 : uOk [true, true, true, true] 0 = true := by kernel_rfl
theorem u_15_8 : uOk [true, true, true, true] 8 = true := by kernel_rfl
theorem u_15_16 : uOk [true, true, true, true] 16 = true := by kernel_rfl
theorem u_15_24 : uOk [true, true, true, true] 24 = true := by kernel_rfl
end Go.Proofs.Ytpgnpdejefpdbaa
