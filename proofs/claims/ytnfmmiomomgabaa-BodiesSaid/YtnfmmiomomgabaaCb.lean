/- what is looked at once of each operation. -/
import Derived.Test.YtnfmmiomomgabaaP
namespace Go.Proofs.Ytnfmmiomomgabaa
open Go.Sx Go
set_option maxRecDepth 100000
theorem c_6_4_0_1 : chkOp 4 12 6 4 0 1 = true := by kernel_rfl
theorem r_6_4_0_1 : chkRow 6 4 0 1 = true := by kernel_rfl
theorem c_6_4_0_0 : chkOp 4 12 6 4 0 0 = true := by kernel_rfl
theorem r_6_4_0_0 : chkRow 6 4 0 0 = true := by kernel_rfl
theorem c_6_3_0_0 : chkOp 4 12 6 3 0 0 = true := by kernel_rfl
theorem r_6_3_0_0 : chkRow 6 3 0 0 = true := by kernel_rfl
theorem c_6_2_0_1 : chkOp 4 12 6 2 0 1 = true := by kernel_rfl
theorem r_6_2_0_1 : chkRow 6 2 0 1 = true := by kernel_rfl
theorem c_7_1_0_0 : chkOp 4 12 7 1 0 0 = true := by kernel_rfl
theorem r_7_1_0_0 : chkRow 7 1 0 0 = true := by kernel_rfl
theorem c_10_4_4_0 : chkOp 4 12 10 4 4 0 = true := by kernel_rfl
theorem r_10_4_4_0 : chkRow 10 4 4 0 = true := by kernel_rfl
theorem c_10_4_2_0 : chkOp 4 12 10 4 2 0 = true := by kernel_rfl
theorem r_10_4_2_0 : chkRow 10 4 2 0 = true := by kernel_rfl
theorem c_10_4_0_0 : chkOp 4 12 10 4 0 0 = true := by kernel_rfl
theorem r_10_4_0_0 : chkRow 10 4 0 0 = true := by kernel_rfl
theorem c_6_1_0_0 : chkOp 4 12 6 1 0 0 = true := by kernel_rfl
theorem r_6_1_0_0 : chkRow 6 1 0 0 = true := by kernel_rfl
theorem c_6_0_0_1 : chkOp 4 12 6 0 0 1 = true := by kernel_rfl
theorem r_6_0_0_1 : chkRow 6 0 0 1 = true := by kernel_rfl
theorem c_8_3_0_0 : chkOp 4 12 8 3 0 0 = true := by kernel_rfl
theorem r_8_3_0_0 : chkRow 8 3 0 0 = true := by kernel_rfl
theorem c_10_3_3_0 : chkOp 4 12 10 3 3 0 = true := by kernel_rfl
theorem r_10_3_3_0 : chkRow 10 3 3 0 = true := by kernel_rfl
theorem c_10_3_1_0 : chkOp 4 12 10 3 1 0 = true := by kernel_rfl
theorem r_10_3_1_0 : chkRow 10 3 1 0 = true := by kernel_rfl
theorem cb_5_0_0 : chkOp 0 4 5 0 0 0 = true := by kernel_rfl
theorem rb_5_0_0 : chkRow 5 0 0 0 = true := by kernel_rfl
theorem cb_4_3_3 (x : Int) : chkOp 0 4 4 3 3 x = true := by kernel_rfl
theorem rb_4_3_3 (x : Int) : chkRow 4 3 3 x = true := by kernel_rfl
theorem cb_4_3_1 (x : Int) : chkOp 0 4 4 3 1 x = true := by kernel_rfl
theorem rb_4_3_1 (x : Int) : chkRow 4 3 1 x = true := by kernel_rfl
theorem cb_4_2_3 (x : Int) : chkOp 0 4 4 2 3 x = true := by kernel_rfl
theorem rb_4_2_3 (x : Int) : chkRow 4 2 3 x = true := by kernel_rfl
theorem cb_4_2_1 (x : Int) : chkOp 0 4 4 2 1 x = true := by kernel_rfl
theorem rb_4_2_1 (x : Int) : chkRow 4 2 1 x = true := by kernel_rfl
theorem cb_4_1_3 (x : Int) : chkOp 0 4 4 1 3 x = true := by kernel_rfl
theorem rb_4_1_3 (x : Int) : chkRow 4 1 3 x = true := by kernel_rfl
theorem cb_4_1_1 (x : Int) : chkOp 0 4 4 1 1 x = true := by kernel_rfl
theorem rb_4_1_1 (x : Int) : chkRow 4 1 1 x = true := by kernel_rfl
theorem cb_4_0_3 (x : Int) : chkOp 0 4 4 0 3 x = true := by kernel_rfl
theorem rb_4_0_3 (x : Int) : chkRow 4 0 3 x = true := by kernel_rfl
theorem cb_4_0_1 (x : Int) : chkOp 0 4 4 0 1 x = true := by kernel_rfl
theorem rb_4_0_1 (x : Int) : chkRow 4 0 1 x = true := by kernel_rfl
theorem cb_3_3_0 (x : Int) : chkOp 0 4 3 3 0 x = true := by kernel_rfl
theorem rb_3_3_0 (x : Int) : chkRow 3 3 0 x = true := by kernel_rfl
theorem cb_3_1_0 (x : Int) : chkOp 0 4 3 1 0 x = true := by kernel_rfl
theorem rb_3_1_0 (x : Int) : chkRow 3 1 0 x = true := by kernel_rfl
theorem cb_2_3_0 (x : Int) : chkOp 0 4 2 3 0 x = true := by kernel_rfl
theorem rb_2_3_0 (x : Int) : chkRow 2 3 0 x = true := by kernel_rfl
theorem cb_2_1_0 (x : Int) : chkOp 0 4 2 1 0 x = true := by kernel_rfl
theorem rb_2_1_0 (x : Int) : chkRow 2 1 0 x = true := by kernel_rfl
theorem cb_1_3_0 : chkOp 0 4 1 3 0 0 = true := by kernel_rfl
theorem rb_1_3_0 : chkRow 1 3 0 0 = true := by kernel_rfl
theorem cb_1_1_0 : chkOp 0 4 1 1 0 0 = true := by kernel_rfl
theorem rb_1_1_0 : chkRow 1 1 0 0 = true := by kernel_rfl
theorem cb_0_3_0 (x : Int) : chkOp 0 4 0 3 0 x = true := by kernel_rfl
theorem rb_0_3_0 (x : Int) : chkRow 0 3 0 x = true := by kernel_rfl
theorem cb_0_1_0 (x : Int) : chkOp 0 4 0 1 0 x = true := by kernel_rfl
theorem rb_0_1_0 (x : Int) : chkRow 0 1 0 x = true := by kernel_rfl
theorem c_8_2_0_0 : chkOp 4 12 8 2 0 0 = true := by kernel_rfl
theorem r_8_2_0_0 : chkRow 8 2 0 0 = true := by kernel_rfl
theorem c_10_2_3_0 : chkOp 4 12 10 2 3 0 = true := by kernel_rfl
theorem r_10_2_3_0 : chkRow 10 2 3 0 = true := by kernel_rfl
theorem c_10_2_1_0 : chkOp 4 12 10 2 1 0 = true := by kernel_rfl
theorem r_10_2_1_0 : chkRow 10 2 1 0 = true := by kernel_rfl
theorem c_8_1_0_0 : chkOp 4 12 8 1 0 0 = true := by kernel_rfl
theorem r_8_1_0_0 : chkRow 8 1 0 0 = true := by kernel_rfl
theorem c_10_1_3_0 : chkOp 4 12 10 1 3 0 = true := by kernel_rfl
theorem r_10_1_3_0 : chkRow 10 1 3 0 = true := by kernel_rfl
theorem c_10_1_1_0 : chkOp 4 12 10 1 1 0 = true := by kernel_rfl
theorem r_10_1_1_0 : chkRow 10 1 1 0 = true := by kernel_rfl
theorem c_8_0_0_0 : chkOp 4 12 8 0 0 0 = true := by kernel_rfl
theorem r_8_0_0_0 : chkRow 8 0 0 0 = true := by kernel_rfl
theorem c_10_0_3_0 : chkOp 4 12 10 0 3 0 = true := by kernel_rfl
theorem r_10_0_3_0 : chkRow 10 0 3 0 = true := by kernel_rfl
theorem c_10_0_1_0 : chkOp 4 12 10 0 1 0 = true := by kernel_rfl
theorem r_10_0_1_0 : chkRow 10 0 1 0 = true := by kernel_rfl
theorem c_9_0_0_0 : chkOp 4 12 9 0 0 0 = true := by kernel_rfl
theorem r_9_0_0_0 : chkRow 9 0 0 0 = true := by kernel_rfl
end Go.Proofs.Ytnfmmiomomgabaa
