/- what is looked at once of each operation. -/
import Derived.Test.YtnfmmiomomgabaaP
namespace Go.Proofs.Ytnfmmiomomgabaa
open Go.Sx Go
set_option maxRecDepth 100000
theorem c_7_4_0_0 : chkOp 4 12 7 4 0 0 = true := by kernel_rfl
theorem r_7_4_0_0 : chkRow 7 4 0 0 = true := by kernel_rfl
theorem c_7_3_0_0 : chkOp 4 12 7 3 0 0 = true := by kernel_rfl
theorem r_7_3_0_0 : chkRow 7 3 0 0 = true := by kernel_rfl
theorem c_6_3_0_1 : chkOp 4 12 6 3 0 1 = true := by kernel_rfl
theorem r_6_3_0_1 : chkRow 6 3 0 1 = true := by kernel_rfl
theorem c_7_2_0_0 : chkOp 4 12 7 2 0 0 = true := by kernel_rfl
theorem r_7_2_0_0 : chkRow 7 2 0 0 = true := by kernel_rfl
theorem c_6_2_0_0 : chkOp 4 12 6 2 0 0 = true := by kernel_rfl
theorem r_6_2_0_0 : chkRow 6 2 0 0 = true := by kernel_rfl
theorem c_8_4_0_0 : chkOp 4 12 8 4 0 0 = true := by kernel_rfl
theorem r_8_4_0_0 : chkRow 8 4 0 0 = true := by kernel_rfl
theorem c_10_4_3_0 : chkOp 4 12 10 4 3 0 = true := by kernel_rfl
theorem r_10_4_3_0 : chkRow 10 4 3 0 = true := by kernel_rfl
theorem c_10_4_1_0 : chkOp 4 12 10 4 1 0 = true := by kernel_rfl
theorem r_10_4_1_0 : chkRow 10 4 1 0 = true := by kernel_rfl
theorem c_6_1_0_1 : chkOp 4 12 6 1 0 1 = true := by kernel_rfl
theorem r_6_1_0_1 : chkRow 6 1 0 1 = true := by kernel_rfl
theorem c_7_0_0_0 : chkOp 4 12 7 0 0 0 = true := by kernel_rfl
theorem r_7_0_0_0 : chkRow 7 0 0 0 = true := by kernel_rfl
theorem c_6_0_0_0 : chkOp 4 12 6 0 0 0 = true := by kernel_rfl
theorem r_6_0_0_0 : chkRow 6 0 0 0 = true := by kernel_rfl
theorem c_10_3_4_0 : chkOp 4 12 10 3 4 0 = true := by kernel_rfl
theorem r_10_3_4_0 : chkRow 10 3 4 0 = true := by kernel_rfl
theorem c_10_3_2_0 : chkOp 4 12 10 3 2 0 = true := by kernel_rfl
theorem r_10_3_2_0 : chkRow 10 3 2 0 = true := by kernel_rfl
theorem c_10_3_0_0 : chkOp 4 12 10 3 0 0 = true := by kernel_rfl
theorem r_10_3_0_0 : chkRow 10 3 0 0 = true := by kernel_rfl
theorem cb_4_3_2 (x : Int) : chkOp 0 4 4 3 2 x = true := by kernel_rfl
theorem rb_4_3_2 (x : Int) : chkRow 4 3 2 x = true := by kernel_rfl
theorem cb_4_3_0 (x : Int) : chkOp 0 4 4 3 0 x = true := by kernel_rfl
theorem rb_4_3_0 (x : Int) : chkRow 4 3 0 x = true := by kernel_rfl
theorem cb_4_2_2 (x : Int) : chkOp 0 4 4 2 2 x = true := by kernel_rfl
theorem rb_4_2_2 (x : Int) : chkRow 4 2 2 x = true := by kernel_rfl
theorem cb_4_2_0 (x : Int) : chkOp 0 4 4 2 0 x = true := by kernel_rfl
theorem rb_4_2_0 (x : Int) : chkRow 4 2 0 x = true := by kernel_rfl
theorem cb_4_1_2 (x : Int) : chkOp 0 4 4 1 2 x = true := by kernel_rfl
theorem rb_4_1_2 (x : Int) : chkRow 4 1 2 x = true := by kernel_rfl
theorem cb_4_1_0 (x : Int) : chkOp 0 4 4 1 0 x = true := by kernel_rfl
theorem rb_4_1_0 (x : Int) : chkRow 4 1 0 x = true := by kernel_rfl
theorem cb_4_0_2 (x : Int) : chkOp 0 4 4 0 2 x = true := by kernel_rfl
theorem rb_4_0_2 (x : Int) : chkRow 4 0 2 x = true := by kernel_rfl
theorem cb_4_0_0 (x : Int) : chkOp 0 4 4 0 0 x = true := by kernel_rfl
theorem rb_4_0_0 (x : Int) : chkRow 4 0 0 x = true := by kernel_rfl
theorem cb_3_2_0 (x : Int) : chkOp 0 4 3 2 0 x = true := by kernel_rfl
theorem rb_3_2_0 (x : Int) : chkRow 3 2 0 x = true := by kernel_rfl
theorem cb_3_0_0 (x : Int) : chkOp 0 4 3 0 0 x = true := by kernel_rfl
theorem rb_3_0_0 (x : Int) : chkRow 3 0 0 x = true := by kernel_rfl
theorem cb_2_2_0 (x : Int) : chkOp 0 4 2 2 0 x = true := by kernel_rfl
theorem rb_2_2_0 (x : Int) : chkRow 2 2 0 x = true := by kernel_rfl
theorem cb_2_0_0 (x : Int) : chkOp 0 4 2 0 0 x = true := by kernel_rfl
theorem rb_2_0_0 (x : Int) : chkRow 2 0 0 x = true := by kernel_rfl
theorem cb_1_2_0 : chkOp 0 4 1 2 0 0 = true := by kernel_rfl
theorem rb_1_2_0 : chkRow 1 2 0 0 = true := by kernel_rfl
theorem cb_1_0_0 : chkOp 0 4 1 0 0 0 = true := by kernel_rfl
theorem rb_1_0_0 : chkRow 1 0 0 0 = true := by kernel_rfl
theorem cb_0_2_0 (x : Int) : chkOp 0 4 0 2 0 x = true := by kernel_rfl
theorem rb_0_2_0 (x : Int) : chkRow 0 2 0 x = true := by kernel_rfl
theorem cb_0_0_0 (x : Int) : chkOp 0 4 0 0 0 x = true := by kernel_rfl
theorem rb_0_0_0 (x : Int) : chkRow 0 0 0 x = true := by kernel_rfl
theorem c_10_2_4_0 : chkOp 4 12 10 2 4 0 = true := by kernel_rfl
theorem r_10_2_4_0 : chkRow 10 2 4 0 = true := by kernel_rfl
theorem c_10_2_2_0 : chkOp 4 12 10 2 2 0 = true := by kernel_rfl
theorem r_10_2_2_0 : chkRow 10 2 2 0 = true := by kernel_rfl
theorem c_10_2_0_0 : chkOp 4 12 10 2 0 0 = true := by kernel_rfl
theorem r_10_2_0_0 : chkRow 10 2 0 0 = true := by kernel_rfl
theorem c_10_1_4_0 : chkOp 4 12 10 1 4 0 = true := by kernel_rfl
theorem r_10_1_4_0 : chkRow 10 1 4 0 = true := by kernel_rfl
theorem c_10_1_2_0 : chkOp 4 12 10 1 2 0 = true := by kernel_rfl
theorem r_10_1_2_0 : chkRow 10 1 2 0 = true := by kernel_rfl
theorem c_10_1_0_0 : chkOp 4 12 10 1 0 0 = true := by kernel_rfl
theorem r_10_1_0_0 : chkRow 10 1 0 0 = true := by kernel_rfl
theorem c_10_0_4_0 : chkOp 4 12 10 0 4 0 = true := by kernel_rfl
theorem r_10_0_4_0 : chkRow 10 0 4 0 = true := by kernel_rfl
theorem c_10_0_2_0 : chkOp 4 12 10 0 2 0 = true := by kernel_rfl
theorem r_10_0_2_0 : chkRow 10 0 2 0 = true := by kernel_rfl
theorem c_10_0_0_0 : chkOp 4 12 10 0 0 0 = true := by kernel_rfl
theorem r_10_0_0_0 : chkRow 10 0 0 0 = true := by kernel_rfl
end Go.Proofs.Ytnfmmiomomgabaa
