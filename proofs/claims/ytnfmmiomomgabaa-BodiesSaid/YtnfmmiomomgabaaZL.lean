/- what the reference's operation comes to, upon any view. -/
import Derived.Test.YtnfmmiomomgabaaP
import Derived.Test.YtnfmmiomomgabaaCL
import Derived.Test.YtnfmmiomomgabaaZa
import Derived.Test.YtnfmmiomomgabaaZb
import Derived.Test.YtnfmmiomomgabaaZc
import Derived.Test.YtnfmmiomomgabaaZd
import Derived.Test.YtnfmmiomomgabaaZe
import Derived.Test.YtnfmmiomomgabaaZf
import Derived.Test.YtnfmmiomomgabaaZg
import Derived.Test.YtnfmmiomomgabaaZh
namespace Go.Proofs.Ytnfmmiomomgabaa
open Go.Sx Go
set_option maxRecDepth 100000
theorem s22_6_0_0_0 (hm : mayZ 6 0 0 0 = 1) : SemOp 24 false 6 0 0 0 := sem22 t22_ok hm r_6_0_0_0 (cov_K (l := []) (t := d22_6_0_0_0) (by kernel_rfl)) (all_idx (n := 1) (d := []) (by kernel_rfl) (fun i hi => match i, hi with | 0, _ => y22_6_0_0_0_0 | i + 1, h => absurd h (by omega)))
theorem s22_6_0_0_1 (hm : mayZ 6 0 0 1 = 1) : SemOp 24 false 6 0 0 1 := sem22 t22_ok hm r_6_0_0_1 (cov_K (l := []) (t := d22_6_0_0_1) (by kernel_rfl)) (all_idx (n := 1) (d := []) (by kernel_rfl) (fun i hi => match i, hi with | 0, _ => y22_6_0_0_1_0 | i + 1, h => absurd h (by omega)))
theorem s22_6_1_0_0 (hm : mayZ 6 1 0 0 = 1) : SemOp 24 false 6 1 0 0 := sem22 t22_ok hm r_6_1_0_0 (cov_K (l := []) (t := d22_6_1_0_0) (by kernel_rfl)) (all_idx (n := 1) (d := []) (by kernel_rfl) (fun i hi => match i, hi with | 0, _ => y22_6_1_0_0_0 | i + 1, h => absurd h (by omega)))
theorem s22_6_1_0_1 (hm : mayZ 6 1 0 1 = 1) : SemOp 24 false 6 1 0 1 := sem22 t22_ok hm r_6_1_0_1 (cov_K (l := []) (t := d22_6_1_0_1) (by kernel_rfl)) (all_idx (n := 1) (d := []) (by kernel_rfl) (fun i hi => match i, hi with | 0, _ => y22_6_1_0_1_0 | i + 1, h => absurd h (by omega)))
theorem s22_6_2_0_0 (hm : mayZ 6 2 0 0 = 1) : SemOp 24 false 6 2 0 0 := sem22 t22_ok hm r_6_2_0_0 (cov_K (l := []) (t := d22_6_2_0_0) (by kernel_rfl)) (all_idx (n := 1) (d := []) (by kernel_rfl) (fun i hi => match i, hi with | 0, _ => y22_6_2_0_0_0 | i + 1, h => absurd h (by omega)))
theorem s22_6_2_0_1 (hm : mayZ 6 2 0 1 = 1) : SemOp 24 false 6 2 0 1 := sem22 t22_ok hm r_6_2_0_1 (cov_K (l := []) (t := d22_6_2_0_1) (by kernel_rfl)) (all_idx (n := 1) (d := []) (by kernel_rfl) (fun i hi => match i, hi with | 0, _ => y22_6_2_0_1_0 | i + 1, h => absurd h (by omega)))
theorem s22_6_3_0_0 (hm : mayZ 6 3 0 0 = 1) : SemOp 24 false 6 3 0 0 := sem22 t22_ok hm r_6_3_0_0 (cov_K (l := [(-1, 1)]) (t := d22_6_3_0_0) (by kernel_rfl)) (all_idx (n := 3) (d := []) (by kernel_rfl) (fun i hi => match i, hi with | 0, _ => y22_6_3_0_0_0 | 1, _ => y22_6_3_0_0_1 | 2, _ => y22_6_3_0_0_2 | i + 3, h => absurd h (by omega)))
theorem s22_6_3_0_1 (hm : mayZ 6 3 0 1 = 1) : SemOp 24 false 6 3 0 1 := sem22 t22_ok hm r_6_3_0_1 (cov_K (l := [(-1, 1)]) (t := d22_6_3_0_1) (by kernel_rfl)) (all_idx (n := 3) (d := []) (by kernel_rfl) (fun i hi => match i, hi with | 0, _ => y22_6_3_0_1_0 | 1, _ => y22_6_3_0_1_1 | 2, _ => y22_6_3_0_1_2 | i + 3, h => absurd h (by omega)))
theorem s22_6_4_0_0 (hm : mayZ 6 4 0 0 = 1) : SemOp 24 false 6 4 0 0 := sem22 t22_ok hm r_6_4_0_0 (cov_K (l := [(-1, 1), (-1, 0), (0, 1)]) (t := d22_6_4_0_0) (by kernel_rfl)) (all_idx (n := 7) (d := []) (by kernel_rfl) (fun i hi => match i, hi with | 0, _ => y22_6_4_0_0_0 | 1, _ => y22_6_4_0_0_1 | 2, _ => y22_6_4_0_0_2 | 3, _ => y22_6_4_0_0_3 | 4, _ => y22_6_4_0_0_4 | 5, _ => y22_6_4_0_0_5 | 6, _ => y22_6_4_0_0_6 | i + 7, h => absurd h (by omega)))
theorem s22_6_4_0_1 (hm : mayZ 6 4 0 1 = 1) : SemOp 24 false 6 4 0 1 := sem22 t22_ok hm r_6_4_0_1 (cov_K (l := [(-1, 1), (-1, 0), (0, 1)]) (t := d22_6_4_0_1) (by kernel_rfl)) (all_idx (n := 7) (d := []) (by kernel_rfl) (fun i hi => match i, hi with | 0, _ => y22_6_4_0_1_0 | 1, _ => y22_6_4_0_1_1 | 2, _ => y22_6_4_0_1_2 | 3, _ => y22_6_4_0_1_3 | 4, _ => y22_6_4_0_1_4 | 5, _ => y22_6_4_0_1_5 | 6, _ => y22_6_4_0_1_6 | i + 7, h => absurd h (by omega)))
theorem s22_7_0_0_0 (hm : mayZ 7 0 0 0 = 1) : SemOp 24 false 7 0 0 0 := sem22 t22_ok hm r_7_0_0_0 (cov_K (l := []) (t := d22_7_0_0_0) (by kernel_rfl)) (all_idx (n := 1) (d := []) (by kernel_rfl) (fun i hi => match i, hi with | 0, _ => y22_7_0_0_0_0 | i + 1, h => absurd h (by omega)))
theorem s22_7_1_0_0 (hm : mayZ 7 1 0 0 = 1) : SemOp 24 false 7 1 0 0 := sem22 t22_ok hm r_7_1_0_0 (cov_K (l := []) (t := d22_7_1_0_0) (by kernel_rfl)) (all_idx (n := 1) (d := []) (by kernel_rfl) (fun i hi => match i, hi with | 0, _ => y22_7_1_0_0_0 | i + 1, h => absurd h (by omega)))
theorem s22_7_2_0_0 (hm : mayZ 7 2 0 0 = 1) : SemOp 24 false 7 2 0 0 := sem22 t22_ok hm r_7_2_0_0 (cov_K (l := []) (t := d22_7_2_0_0) (by kernel_rfl)) (all_idx (n := 1) (d := []) (by kernel_rfl) (fun i hi => match i, hi with | 0, _ => y22_7_2_0_0_0 | i + 1, h => absurd h (by omega)))
theorem s22_7_3_0_0 (hm : mayZ 7 3 0 0 = 1) : SemOp 24 false 7 3 0 0 := sem22 t22_ok hm r_7_3_0_0 (cov_K (l := [(-1, 1)]) (t := d22_7_3_0_0) (by kernel_rfl)) (all_idx (n := 3) (d := []) (by kernel_rfl) (fun i hi => match i, hi with | 0, _ => y22_7_3_0_0_0 | 1, _ => y22_7_3_0_0_1 | 2, _ => y22_7_3_0_0_2 | i + 3, h => absurd h (by omega)))
theorem s22_7_4_0_0 (hm : mayZ 7 4 0 0 = 1) : SemOp 24 false 7 4 0 0 := sem22 t22_ok hm r_7_4_0_0 (cov_K (l := [(-1, 1), (-1, 0), (0, 1)]) (t := d22_7_4_0_0) (by kernel_rfl)) (all_idx (n := 7) (d := []) (by kernel_rfl) (fun i hi => match i, hi with | 0, _ => y22_7_4_0_0_0 | 1, _ => y22_7_4_0_0_1 | 2, _ => y22_7_4_0_0_2 | 3, _ => y22_7_4_0_0_3 | 4, _ => y22_7_4_0_0_4 | 5, _ => y22_7_4_0_0_5 | 6, _ => y22_7_4_0_0_6 | i + 7, h => absurd h (by omega)))
theorem s22_8_0_0_0 (hm : mayZ 8 0 0 0 = 1) : SemOp 24 false 8 0 0 0 := sem22 t22_ok hm r_8_0_0_0 (cov_K (l := []) (t := d22_8_0_0_0) (by kernel_rfl)) (all_idx (n := 1) (d := []) (by kernel_rfl) (fun i hi => match i, hi with | 0, _ => y22_8_0_0_0_0 | i + 1, h => absurd h (by omega)))
theorem s22_8_1_0_0 (hm : mayZ 8 1 0 0 = 1) : SemOp 24 false 8 1 0 0 := sem22 t22_ok hm r_8_1_0_0 (cov_K (l := []) (t := d22_8_1_0_0) (by kernel_rfl)) (all_idx (n := 1) (d := []) (by kernel_rfl) (fun i hi => match i, hi with | 0, _ => y22_8_1_0_0_0 | i + 1, h => absurd h (by omega)))
theorem s22_8_2_0_0 (hm : mayZ 8 2 0 0 = 1) : SemOp 24 false 8 2 0 0 := sem22 t22_ok hm r_8_2_0_0 (cov_K (l := []) (t := d22_8_2_0_0) (by kernel_rfl)) (all_idx (n := 1) (d := []) (by kernel_rfl) (fun i hi => match i, hi with | 0, _ => y22_8_2_0_0_0 | i + 1, h => absurd h (by omega)))
theorem s22_8_3_0_0 (hm : mayZ 8 3 0 0 = 1) : SemOp 24 false 8 3 0 0 := sem22 t22_ok hm r_8_3_0_0 (cov_K (l := [(-1, 1)]) (t := d22_8_3_0_0) (by kernel_rfl)) (all_idx (n := 3) (d := []) (by kernel_rfl) (fun i hi => match i, hi with | 0, _ => y22_8_3_0_0_0 | 1, _ => y22_8_3_0_0_1 | 2, _ => y22_8_3_0_0_2 | i + 3, h => absurd h (by omega)))
theorem s22_8_4_0_0 (hm : mayZ 8 4 0 0 = 1) : SemOp 24 false 8 4 0 0 := sem22 t22_ok hm r_8_4_0_0 (cov_K (l := [(-1, 1), (-1, 0), (0, 1)]) (t := d22_8_4_0_0) (by kernel_rfl)) (all_idx (n := 7) (d := []) (by kernel_rfl) (fun i hi => match i, hi with | 0, _ => y22_8_4_0_0_0 | 1, _ => y22_8_4_0_0_1 | 2, _ => y22_8_4_0_0_2 | 3, _ => y22_8_4_0_0_3 | 4, _ => y22_8_4_0_0_4 | 5, _ => y22_8_4_0_0_5 | 6, _ => y22_8_4_0_0_6 | i + 7, h => absurd h (by omega)))
theorem s22_9_0_0_0 (hm : mayZ 9 0 0 0 = 1) : SemOp 24 false 9 0 0 0 := sem22 t22_ok hm r_9_0_0_0 (cov_K (l := []) (t := d22_9_0_0_0) (by kernel_rfl)) (all_idx (n := 1) (d := []) (by kernel_rfl) (fun i hi => match i, hi with | 0, _ => y22_9_0_0_0_0 | i + 1, h => absurd h (by omega)))
theorem s22_10_0_0_0 (hm : mayZ 10 0 0 0 = 1) : SemOp 24 false 10 0 0 0 := sem22 t22_ok hm r_10_0_0_0 (cov_K (l := []) (t := d22_10_0_0_0) (by kernel_rfl)) (all_idx (n := 1) (d := []) (by kernel_rfl) (fun i hi => match i, hi with | 0, _ => y22_10_0_0_0_0 | i + 1, h => absurd h (by omega)))
theorem s22_10_0_1_0 (hm : mayZ 10 0 1 0 = 1) : SemOp 24 false 10 0 1 0 := sem22 t22_ok hm r_10_0_1_0 (cov_K (l := []) (t := d22_10_0_1_0) (by kernel_rfl)) (all_idx (n := 1) (d := []) (by kernel_rfl) (fun i hi => match i, hi with | 0, _ => y22_10_0_1_0_0 | i + 1, h => absurd h (by omega)))
theorem s22_10_0_2_0 (hm : mayZ 10 0 2 0 = 1) : SemOp 24 false 10 0 2 0 := sem22 t22_ok hm r_10_0_2_0 (cov_K (l := []) (t := d22_10_0_2_0) (by kernel_rfl)) (all_idx (n := 1) (d := []) (by kernel_rfl) (fun i hi => match i, hi with | 0, _ => y22_10_0_2_0_0 | i + 1, h => absurd h (by omega)))
theorem s22_10_0_3_0 (hm : mayZ 10 0 3 0 = 1) : SemOp 24 false 10 0 3 0 := sem22 t22_ok hm r_10_0_3_0 (cov_K (l := [(-1, 0)]) (t := d22_10_0_3_0) (by kernel_rfl)) (all_idx (n := 2) (d := []) (by kernel_rfl) (fun i hi => match i, hi with | 0, _ => y22_10_0_3_0_0 | 1, _ => y22_10_0_3_0_1 | i + 2, h => absurd h (by omega)))
theorem s22_10_0_4_0 (hm : mayZ 10 0 4 0 = 1) : SemOp 24 false 10 0 4 0 := sem22 t22_ok hm r_10_0_4_0 (cov_K (l := [(-1, 0)]) (t := d22_10_0_4_0) (by kernel_rfl)) (all_idx (n := 2) (d := []) (by kernel_rfl) (fun i hi => match i, hi with | 0, _ => y22_10_0_4_0_0 | 1, _ => y22_10_0_4_0_1 | i + 2, h => absurd h (by omega)))
theorem s22_10_1_0_0 (hm : mayZ 10 1 0 0 = 1) : SemOp 24 false 10 1 0 0 := sem22 t22_ok hm r_10_1_0_0 (cov_K (l := []) (t := d22_10_1_0_0) (by kernel_rfl)) (all_idx (n := 1) (d := []) (by kernel_rfl) (fun i hi => match i, hi with | 0, _ => y22_10_1_0_0_0 | i + 1, h => absurd h (by omega)))
theorem s22_10_1_1_0 (hm : mayZ 10 1 1 0 = 1) : SemOp 24 false 10 1 1 0 := sem22 t22_ok hm r_10_1_1_0 (cov_K (l := []) (t := d22_10_1_1_0) (by kernel_rfl)) (all_idx (n := 1) (d := []) (by kernel_rfl) (fun i hi => match i, hi with | 0, _ => y22_10_1_1_0_0 | i + 1, h => absurd h (by omega)))
theorem s22_10_1_2_0 (hm : mayZ 10 1 2 0 = 1) : SemOp 24 false 10 1 2 0 := sem22 t22_ok hm r_10_1_2_0 (cov_K (l := []) (t := d22_10_1_2_0) (by kernel_rfl)) (all_idx (n := 1) (d := []) (by kernel_rfl) (fun i hi => match i, hi with | 0, _ => y22_10_1_2_0_0 | i + 1, h => absurd h (by omega)))
theorem s22_10_1_3_0 (hm : mayZ 10 1 3 0 = 1) : SemOp 24 false 10 1 3 0 := sem22 t22_ok hm r_10_1_3_0 (cov_K (l := [(-1, 1)]) (t := d22_10_1_3_0) (by kernel_rfl)) (all_idx (n := 2) (d := []) (by kernel_rfl) (fun i hi => match i, hi with | 0, _ => y22_10_1_3_0_0 | 1, _ => y22_10_1_3_0_1 | i + 2, h => absurd h (by omega)))
theorem s22_10_1_4_0 (hm : mayZ 10 1 4 0 = 1) : SemOp 24 false 10 1 4 0 := sem22 t22_ok hm r_10_1_4_0 (cov_K (l := [(-1, 1)]) (t := d22_10_1_4_0) (by kernel_rfl)) (all_idx (n := 2) (d := []) (by kernel_rfl) (fun i hi => match i, hi with | 0, _ => y22_10_1_4_0_0 | 1, _ => y22_10_1_4_0_1 | i + 2, h => absurd h (by omega)))
theorem s22_10_2_0_0 (hm : mayZ 10 2 0 0 = 1) : SemOp 24 false 10 2 0 0 := sem22 t22_ok hm r_10_2_0_0 (cov_K (l := []) (t := d22_10_2_0_0) (by kernel_rfl)) (all_idx (n := 1) (d := []) (by kernel_rfl) (fun i hi => match i, hi with | 0, _ => y22_10_2_0_0_0 | i + 1, h => absurd h (by omega)))
theorem s22_10_2_1_0 (hm : mayZ 10 2 1 0 = 1) : SemOp 24 false 10 2 1 0 := sem22 t22_ok hm r_10_2_1_0 (cov_K (l := []) (t := d22_10_2_1_0) (by kernel_rfl)) (all_idx (n := 1) (d := []) (by kernel_rfl) (fun i hi => match i, hi with | 0, _ => y22_10_2_1_0_0 | i + 1, h => absurd h (by omega)))
theorem s22_10_2_2_0 (hm : mayZ 10 2 2 0 = 1) : SemOp 24 false 10 2 2 0 := sem22 t22_ok hm r_10_2_2_0 (cov_K (l := []) (t := d22_10_2_2_0) (by kernel_rfl)) (all_idx (n := 1) (d := []) (by kernel_rfl) (fun i hi => match i, hi with | 0, _ => y22_10_2_2_0_0 | i + 1, h => absurd h (by omega)))
theorem s22_10_2_3_0 (hm : mayZ 10 2 3 0 = 1) : SemOp 24 false 10 2 3 0 := sem22 t22_ok hm r_10_2_3_0 (cov_K (l := [(-1, 1)]) (t := d22_10_2_3_0) (by kernel_rfl)) (all_idx (n := 3) (d := []) (by kernel_rfl) (fun i hi => match i, hi with | 0, _ => y22_10_2_3_0_0 | 1, _ => y22_10_2_3_0_1 | 2, _ => y22_10_2_3_0_2 | i + 3, h => absurd h (by omega)))
theorem s22_10_2_4_0 (hm : mayZ 10 2 4 0 = 1) : SemOp 24 false 10 2 4 0 := sem22 t22_ok hm r_10_2_4_0 (cov_K (l := [(-1, 1)]) (t := d22_10_2_4_0) (by kernel_rfl)) (all_idx (n := 3) (d := []) (by kernel_rfl) (fun i hi => match i, hi with | 0, _ => y22_10_2_4_0_0 | 1, _ => y22_10_2_4_0_1 | 2, _ => y22_10_2_4_0_2 | i + 3, h => absurd h (by omega)))
theorem s22_10_3_0_0 (hm : mayZ 10 3 0 0 = 1) : SemOp 24 false 10 3 0 0 := sem22 t22_ok hm r_10_3_0_0 (cov_K (l := [(-1, 1)]) (t := d22_10_3_0_0) (by kernel_rfl)) (all_idx (n := 3) (d := []) (by kernel_rfl) (fun i hi => match i, hi with | 0, _ => y22_10_3_0_0_0 | 1, _ => y22_10_3_0_0_1 | 2, _ => y22_10_3_0_0_2 | i + 3, h => absurd h (by omega)))
theorem s22_10_3_1_0 (hm : mayZ 10 3 1 0 = 1) : SemOp 24 false 10 3 1 0 := sem22 t22_ok hm r_10_3_1_0 (cov_K (l := [(-1, 1)]) (t := d22_10_3_1_0) (by kernel_rfl)) (all_idx (n := 3) (d := []) (by kernel_rfl) (fun i hi => match i, hi with | 0, _ => y22_10_3_1_0_0 | 1, _ => y22_10_3_1_0_1 | 2, _ => y22_10_3_1_0_2 | i + 3, h => absurd h (by omega)))
theorem s22_10_3_2_0 (hm : mayZ 10 3 2 0 = 1) : SemOp 24 false 10 3 2 0 := sem22 t22_ok hm r_10_3_2_0 (cov_K (l := [(-1, 1)]) (t := d22_10_3_2_0) (by kernel_rfl)) (all_idx (n := 3) (d := []) (by kernel_rfl) (fun i hi => match i, hi with | 0, _ => y22_10_3_2_0_0 | 1, _ => y22_10_3_2_0_1 | 2, _ => y22_10_3_2_0_2 | i + 3, h => absurd h (by omega)))
theorem s22_10_3_3_0 (hm : mayZ 10 3 3 0 = 1) : SemOp 24 false 10 3 3 0 := sem22 t22_ok hm r_10_3_3_0 (cov_K (l := [(-1, 1)]) (t := d22_10_3_3_0) (by kernel_rfl)) (all_idx (n := 3) (d := []) (by kernel_rfl) (fun i hi => match i, hi with | 0, _ => y22_10_3_3_0_0 | 1, _ => y22_10_3_3_0_1 | 2, _ => y22_10_3_3_0_2 | i + 3, h => absurd h (by omega)))
theorem s22_10_3_4_0 (hm : mayZ 10 3 4 0 = 1) : SemOp 24 false 10 3 4 0 := sem22 t22_ok hm r_10_3_4_0 (cov_K (l := [(-1, 1)]) (t := d22_10_3_4_0) (by kernel_rfl)) (all_idx (n := 3) (d := []) (by kernel_rfl) (fun i hi => match i, hi with | 0, _ => y22_10_3_4_0_0 | 1, _ => y22_10_3_4_0_1 | 2, _ => y22_10_3_4_0_2 | i + 3, h => absurd h (by omega)))
theorem s22_10_4_0_0 (hm : mayZ 10 4 0 0 = 1) : SemOp 24 false 10 4 0 0 := sem22 t22_ok hm r_10_4_0_0 (cov_K (l := [(-1, 1), (-1, 0), (0, 1)]) (t := d22_10_4_0_0) (by kernel_rfl)) (all_idx (n := 7) (d := []) (by kernel_rfl) (fun i hi => match i, hi with | 0, _ => y22_10_4_0_0_0 | 1, _ => y22_10_4_0_0_1 | 2, _ => y22_10_4_0_0_2 | 3, _ => y22_10_4_0_0_3 | 4, _ => y22_10_4_0_0_4 | 5, _ => y22_10_4_0_0_5 | 6, _ => y22_10_4_0_0_6 | i + 7, h => absurd h (by omega)))
theorem s22_10_4_1_0 (hm : mayZ 10 4 1 0 = 1) : SemOp 24 false 10 4 1 0 := sem22 t22_ok hm r_10_4_1_0 (cov_K (l := [(-1, 1), (-1, 0), (0, 1)]) (t := d22_10_4_1_0) (by kernel_rfl)) (all_idx (n := 7) (d := []) (by kernel_rfl) (fun i hi => match i, hi with | 0, _ => y22_10_4_1_0_0 | 1, _ => y22_10_4_1_0_1 | 2, _ => y22_10_4_1_0_2 | 3, _ => y22_10_4_1_0_3 | 4, _ => y22_10_4_1_0_4 | 5, _ => y22_10_4_1_0_5 | 6, _ => y22_10_4_1_0_6 | i + 7, h => absurd h (by omega)))
theorem s22_10_4_2_0 (hm : mayZ 10 4 2 0 = 1) : SemOp 24 false 10 4 2 0 := sem22 t22_ok hm r_10_4_2_0 (cov_K (l := [(-1, 1), (-1, 0), (0, 1)]) (t := d22_10_4_2_0) (by kernel_rfl)) (all_idx (n := 7) (d := []) (by kernel_rfl) (fun i hi => match i, hi with | 0, _ => y22_10_4_2_0_0 | 1, _ => y22_10_4_2_0_1 | 2, _ => y22_10_4_2_0_2 | 3, _ => y22_10_4_2_0_3 | 4, _ => y22_10_4_2_0_4 | 5, _ => y22_10_4_2_0_5 | 6, _ => y22_10_4_2_0_6 | i + 7, h => absurd h (by omega)))
theorem s22_10_4_3_0 (hm : mayZ 10 4 3 0 = 1) : SemOp 24 false 10 4 3 0 := sem22 t22_ok hm r_10_4_3_0 (cov_K (l := [(-1, 1), (-1, 0), (0, 1)]) (t := d22_10_4_3_0) (by kernel_rfl)) (all_idx (n := 7) (d := []) (by kernel_rfl) (fun i hi => match i, hi with | 0, _ => y22_10_4_3_0_0 | 1, _ => y22_10_4_3_0_1 | 2, _ => y22_10_4_3_0_2 | 3, _ => y22_10_4_3_0_3 | 4, _ => y22_10_4_3_0_4 | 5, _ => y22_10_4_3_0_5 | 6, _ => y22_10_4_3_0_6 | i + 7, h => absurd h (by omega)))
theorem s22_10_4_4_0 (hm : mayZ 10 4 4 0 = 1) : SemOp 24 false 10 4 4 0 := sem22 t22_ok hm r_10_4_4_0 (cov_K (l := [(-1, 1), (-1, 0), (0, 1)]) (t := d22_10_4_4_0) (by kernel_rfl)) (all_idx (n := 7) (d := []) (by kernel_rfl) (fun i hi => match i, hi with | 0, _ => y22_10_4_4_0_0 | 1, _ => y22_10_4_4_0_1 | 2, _ => y22_10_4_4_0_2 | 3, _ => y22_10_4_4_0_3 | 4, _ => y22_10_4_4_0_4 | 5, _ => y22_10_4_4_0_5 | 6, _ => y22_10_4_4_0_6 | i + 7, h => absurd h (by omega)))
theorem s22_0_0_0 (x : Int) (hm : mayZ 0 0 0 x = 1) : SemOp 24 false 0 0 0 x := sem22 t22_ok hm (rb_0_0_0 x) cov_0 (one_f (b22_0_0_0 x))
theorem s22_0_1_0 (x : Int) (hm : mayZ 0 1 0 x = 1) : SemOp 24 false 0 1 0 x := sem22 t22_ok hm (rb_0_1_0 x) cov_0 (one_f (b22_0_1_0 x))
theorem s22_0_2_0 (x : Int) (hm : mayZ 0 2 0 x = 1) : SemOp 24 false 0 2 0 x := sem22 t22_ok hm (rb_0_2_0 x) cov_0 (one_f (b22_0_2_0 x))
theorem s22_0_3_0 (x : Int) (hm : mayZ 0 3 0 x = 1) : SemOp 24 false 0 3 0 x := sem22 t22_ok hm (rb_0_3_0 x) cov_0 (one_f (b22_0_3_0 x))
theorem s22_1_0_0 (hm : mayZ 1 0 0 0 = 1) : SemOp 24 false 1 0 0 0 := sem22 t22_ok hm (rb_1_0_0) cov_0 (one_f (b22_1_0_0))
theorem s22_1_1_0 (hm : mayZ 1 1 0 0 = 1) : SemOp 24 false 1 1 0 0 := sem22 t22_ok hm (rb_1_1_0) cov_0 (one_f (b22_1_1_0))
theorem s22_1_2_0 (hm : mayZ 1 2 0 0 = 1) : SemOp 24 false 1 2 0 0 := sem22 t22_ok hm (rb_1_2_0) cov_0 (one_f (b22_1_2_0))
theorem s22_1_3_0 (hm : mayZ 1 3 0 0 = 1) : SemOp 24 false 1 3 0 0 := sem22 t22_ok hm (rb_1_3_0) cov_0 (one_f (b22_1_3_0))
theorem s22_2_0_0 (x : Int) (hm : mayZ 2 0 0 x = 1) : SemOp 24 false 2 0 0 x := sem22 t22_ok hm (rb_2_0_0 x) cov_0 (one_f (b22_2_0_0 x))
theorem s22_2_1_0 (x : Int) (hm : mayZ 2 1 0 x = 1) : SemOp 24 false 2 1 0 x := sem22 t22_ok hm (rb_2_1_0 x) cov_0 (one_f (b22_2_1_0 x))
theorem s22_2_2_0 (x : Int) (hm : mayZ 2 2 0 x = 1) : SemOp 24 false 2 2 0 x := sem22 t22_ok hm (rb_2_2_0 x) cov_0 (one_f (b22_2_2_0 x))
theorem s22_2_3_0 (x : Int) (hm : mayZ 2 3 0 x = 1) : SemOp 24 false 2 3 0 x := sem22 t22_ok hm (rb_2_3_0 x) cov_0 (one_f (b22_2_3_0 x))
theorem s22_3_0_0 (x : Int) (hm : mayZ 3 0 0 x = 1) : SemOp 24 false 3 0 0 x := sem22 t22_ok hm (rb_3_0_0 x) cov_0 (one_f (b22_3_0_0 x))
theorem s22_3_1_0 (x : Int) (hm : mayZ 3 1 0 x = 1) : SemOp 24 false 3 1 0 x := sem22 t22_ok hm (rb_3_1_0 x) cov_0 (one_f (b22_3_1_0 x))
theorem s22_3_2_0 (x : Int) (hm : mayZ 3 2 0 x = 1) : SemOp 24 false 3 2 0 x := sem22 t22_ok hm (rb_3_2_0 x) cov_0 (one_f (b22_3_2_0 x))
theorem s22_3_3_0 (x : Int) (hm : mayZ 3 3 0 x = 1) : SemOp 24 false 3 3 0 x := sem22 t22_ok hm (rb_3_3_0 x) cov_0 (one_f (b22_3_3_0 x))
theorem s22_4_0_0 (x : Int) (hm : mayZ 4 0 0 x = 1) : SemOp 24 false 4 0 0 x := sem22 t22_ok hm (rb_4_0_0 x) cov_0 (one_f (b22_4_0_0 x))
theorem s22_4_0_1 (x : Int) (hm : mayZ 4 0 1 x = 1) : SemOp 24 false 4 0 1 x := sem22 t22_ok hm (rb_4_0_1 x) cov_0 (one_f (b22_4_0_1 x))
theorem s22_4_0_2 (x : Int) (hm : mayZ 4 0 2 x = 1) : SemOp 24 false 4 0 2 x := sem22 t22_ok hm (rb_4_0_2 x) cov_0 (one_f (b22_4_0_2 x))
theorem s22_4_0_3 (x : Int) (hm : mayZ 4 0 3 x = 1) : SemOp 24 false 4 0 3 x := sem22 t22_ok hm (rb_4_0_3 x) cov_0 (one_f (b22_4_0_3 x))
theorem s22_4_1_0 (x : Int) (hm : mayZ 4 1 0 x = 1) : SemOp 24 false 4 1 0 x := sem22 t22_ok hm (rb_4_1_0 x) cov_0 (one_f (b22_4_1_0 x))
theorem s22_4_1_1 (x : Int) (hm : mayZ 4 1 1 x = 1) : SemOp 24 false 4 1 1 x := sem22 t22_ok hm (rb_4_1_1 x) cov_0 (one_f (b22_4_1_1 x))
theorem s22_4_1_2 (x : Int) (hm : mayZ 4 1 2 x = 1) : SemOp 24 false 4 1 2 x := sem22 t22_ok hm (rb_4_1_2 x) cov_0 (one_f (b22_4_1_2 x))
theorem s22_4_1_3 (x : Int) (hm : mayZ 4 1 3 x = 1) : SemOp 24 false 4 1 3 x := sem22 t22_ok hm (rb_4_1_3 x) cov_0 (one_f (b22_4_1_3 x))
theorem s22_4_2_0 (x : Int) (hm : mayZ 4 2 0 x = 1) : SemOp 24 false 4 2 0 x := sem22 t22_ok hm (rb_4_2_0 x) cov_0 (one_f (b22_4_2_0 x))
theorem s22_4_2_1 (x : Int) (hm : mayZ 4 2 1 x = 1) : SemOp 24 false 4 2 1 x := sem22 t22_ok hm (rb_4_2_1 x) cov_0 (one_f (b22_4_2_1 x))
theorem s22_4_2_2 (x : Int) (hm : mayZ 4 2 2 x = 1) : SemOp 24 false 4 2 2 x := sem22 t22_ok hm (rb_4_2_2 x) cov_0 (one_f (b22_4_2_2 x))
theorem s22_4_2_3 (x : Int) (hm : mayZ 4 2 3 x = 1) : SemOp 24 false 4 2 3 x := sem22 t22_ok hm (rb_4_2_3 x) cov_0 (one_f (b22_4_2_3 x))
theorem s22_4_3_0 (x : Int) (hm : mayZ 4 3 0 x = 1) : SemOp 24 false 4 3 0 x := sem22 t22_ok hm (rb_4_3_0 x) cov_0 (one_f (b22_4_3_0 x))
theorem s22_4_3_1 (x : Int) (hm : mayZ 4 3 1 x = 1) : SemOp 24 false 4 3 1 x := sem22 t22_ok hm (rb_4_3_1 x) cov_0 (one_f (b22_4_3_1 x))
theorem s22_4_3_2 (x : Int) (hm : mayZ 4 3 2 x = 1) : SemOp 24 false 4 3 2 x := sem22 t22_ok hm (rb_4_3_2 x) cov_0 (one_f (b22_4_3_2 x))
theorem s22_4_3_3 (x : Int) (hm : mayZ 4 3 3 x = 1) : SemOp 24 false 4 3 3 x := sem22 t22_ok hm (rb_4_3_3 x) cov_0 (one_f (b22_4_3_3 x))
theorem s22_5_0_0 (hm : mayZ 5 0 0 0 = 1) : SemOp 24 false 5 0 0 0 := sem22 t22_ok hm rb_5_0_0 cov_S (all_idx (n := 81) (d := []) (by kernel_rfl) (fun i hi => match i, hi with | 0, _ => b22_5_0_0_0 | 1, _ => b22_5_0_0_1 | 2, _ => b22_5_0_0_2 | 3, _ => b22_5_0_0_3 | 4, _ => b22_5_0_0_4 | 5, _ => b22_5_0_0_5 | 6, _ => b22_5_0_0_6 | 7, _ => b22_5_0_0_7 | 8, _ => b22_5_0_0_8 | 9, _ => b22_5_0_0_9 | 10, _ => b22_5_0_0_10 | 11, _ => b22_5_0_0_11 | 12, _ => b22_5_0_0_12 | 13, _ => b22_5_0_0_13 | 14, _ => b22_5_0_0_14 | 15, _ => b22_5_0_0_15 | 16, _ => b22_5_0_0_16 | 17, _ => b22_5_0_0_17 | 18, _ => b22_5_0_0_18 | 19, _ => b22_5_0_0_19 | 20, _ => b22_5_0_0_20 | 21, _ => b22_5_0_0_21 | 22, _ => b22_5_0_0_22 | 23, _ => b22_5_0_0_23 | 24, _ => b22_5_0_0_24 | 25, _ => b22_5_0_0_25 | 26, _ => b22_5_0_0_26 | 27, _ => b22_5_0_0_27 | 28, _ => b22_5_0_0_28 | 29, _ => b22_5_0_0_29 | 30, _ => b22_5_0_0_30 | 31, _ => b22_5_0_0_31 | 32, _ => b22_5_0_0_32 | 33, _ => b22_5_0_0_33 | 34, _ => b22_5_0_0_34 | 35, _ => b22_5_0_0_35 | 36, _ => b22_5_0_0_36 | 37, _ => b22_5_0_0_37 | 38, _ => b22_5_0_0_38 | 39, _ => b22_5_0_0_39 | 40, _ => b22_5_0_0_40 | 41, _ => b22_5_0_0_41 | 42, _ => b22_5_0_0_42 | 43, _ => b22_5_0_0_43 | 44, _ => b22_5_0_0_44 | 45, _ => b22_5_0_0_45 | 46, _ => b22_5_0_0_46 | 47, _ => b22_5_0_0_47 | 48, _ => b22_5_0_0_48 | 49, _ => b22_5_0_0_49 | 50, _ => b22_5_0_0_50 | 51, _ => b22_5_0_0_51 | 52, _ => b22_5_0_0_52 | 53, _ => b22_5_0_0_53 | 54, _ => b22_5_0_0_54 | 55, _ => b22_5_0_0_55 | 56, _ => b22_5_0_0_56 | 57, _ => b22_5_0_0_57 | 58, _ => b22_5_0_0_58 | 59, _ => b22_5_0_0_59 | 60, _ => b22_5_0_0_60 | 61, _ => b22_5_0_0_61 | 62, _ => b22_5_0_0_62 | 63, _ => b22_5_0_0_63 | 64, _ => b22_5_0_0_64 | 65, _ => b22_5_0_0_65 | 66, _ => b22_5_0_0_66 | 67, _ => b22_5_0_0_67 | 68, _ => b22_5_0_0_68 | 69, _ => b22_5_0_0_69 | 70, _ => b22_5_0_0_70 | 71, _ => b22_5_0_0_71 | 72, _ => b22_5_0_0_72 | 73, _ => b22_5_0_0_73 | 74, _ => b22_5_0_0_74 | 75, _ => b22_5_0_0_75 | 76, _ => b22_5_0_0_76 | 77, _ => b22_5_0_0_77 | 78, _ => b22_5_0_0_78 | 79, _ => b22_5_0_0_79 | 80, _ => b22_5_0_0_80 | i + 81, h => absurd h (by omega)))
theorem hsem22 : ∀ k a b x, mayZ k a b x = 1 → 6 ≤ k → k ≤ hi64 → SemOp 24 false k a b x ∧ chkOp 4 12 k a b x = true := by
 intro k a b x hm h1 _
 rcases may_S hm h1 with ⟨rfl, ha, rfl, hx⟩ | ⟨rfl, ha, rfl, rfl⟩ | ⟨rfl, ha, rfl, rfl⟩ | ⟨rfl, rfl, rfl, rfl⟩ | ⟨rfl, ha, hb, rfl⟩
 ·rcases ha with rfl | rfl | rfl | rfl | rfl <;> rcases hx with rfl | rfl
  ·exact ⟨s22_6_0_0_0 hm, c_6_0_0_0⟩
  ·exact ⟨s22_6_0_0_1 hm, c_6_0_0_1⟩
  ·exact ⟨s22_6_1_0_0 hm, c_6_1_0_0⟩
  ·exact ⟨s22_6_1_0_1 hm, c_6_1_0_1⟩
  ·exact ⟨s22_6_2_0_0 hm, c_6_2_0_0⟩
  ·exact ⟨s22_6_2_0_1 hm, c_6_2_0_1⟩
  ·exact ⟨s22_6_3_0_0 hm, c_6_3_0_0⟩
  ·exact ⟨s22_6_3_0_1 hm, c_6_3_0_1⟩
  ·exact ⟨s22_6_4_0_0 hm, c_6_4_0_0⟩
  ·exact ⟨s22_6_4_0_1 hm, c_6_4_0_1⟩
 ·rcases ha with rfl | rfl | rfl | rfl | rfl
  ·exact ⟨s22_7_0_0_0 hm, c_7_0_0_0⟩
  ·exact ⟨s22_7_1_0_0 hm, c_7_1_0_0⟩
  ·exact ⟨s22_7_2_0_0 hm, c_7_2_0_0⟩
  ·exact ⟨s22_7_3_0_0 hm, c_7_3_0_0⟩
  ·exact ⟨s22_7_4_0_0 hm, c_7_4_0_0⟩
 ·rcases ha with rfl | rfl | rfl | rfl | rfl
  ·exact ⟨s22_8_0_0_0 hm, c_8_0_0_0⟩
  ·exact ⟨s22_8_1_0_0 hm, c_8_1_0_0⟩
  ·exact ⟨s22_8_2_0_0 hm, c_8_2_0_0⟩
  ·exact ⟨s22_8_3_0_0 hm, c_8_3_0_0⟩
  ·exact ⟨s22_8_4_0_0 hm, c_8_4_0_0⟩
 ·exact ⟨s22_9_0_0_0 hm, c_9_0_0_0⟩
 ·rcases ha with rfl | rfl | rfl | rfl | rfl <;> rcases hb with rfl | rfl | rfl | rfl | rfl
  ·exact ⟨s22_10_0_0_0 hm, c_10_0_0_0⟩
  ·exact ⟨s22_10_0_1_0 hm, c_10_0_1_0⟩
  ·exact ⟨s22_10_0_2_0 hm, c_10_0_2_0⟩
  ·exact ⟨s22_10_0_3_0 hm, c_10_0_3_0⟩
  ·exact ⟨s22_10_0_4_0 hm, c_10_0_4_0⟩
  ·exact ⟨s22_10_1_0_0 hm, c_10_1_0_0⟩
  ·exact ⟨s22_10_1_1_0 hm, c_10_1_1_0⟩
  ·exact ⟨s22_10_1_2_0 hm, c_10_1_2_0⟩
  ·exact ⟨s22_10_1_3_0 hm, c_10_1_3_0⟩
  ·exact ⟨s22_10_1_4_0 hm, c_10_1_4_0⟩
  ·exact ⟨s22_10_2_0_0 hm, c_10_2_0_0⟩
  ·exact ⟨s22_10_2_1_0 hm, c_10_2_1_0⟩
  ·exact ⟨s22_10_2_2_0 hm, c_10_2_2_0⟩
  ·exact ⟨s22_10_2_3_0 hm, c_10_2_3_0⟩
  ·exact ⟨s22_10_2_4_0 hm, c_10_2_4_0⟩
  ·exact ⟨s22_10_3_0_0 hm, c_10_3_0_0⟩
  ·exact ⟨s22_10_3_1_0 hm, c_10_3_1_0⟩
  ·exact ⟨s22_10_3_2_0 hm, c_10_3_2_0⟩
  ·exact ⟨s22_10_3_3_0 hm, c_10_3_3_0⟩
  ·exact ⟨s22_10_3_4_0 hm, c_10_3_4_0⟩
  ·exact ⟨s22_10_4_0_0 hm, c_10_4_0_0⟩
  ·exact ⟨s22_10_4_1_0 hm, c_10_4_1_0⟩
  ·exact ⟨s22_10_4_2_0 hm, c_10_4_2_0⟩
  ·exact ⟨s22_10_4_3_0 hm, c_10_4_3_0⟩
  ·exact ⟨s22_10_4_4_0 hm, c_10_4_4_0⟩
theorem hsemB22 : ∀ k a b x, mayZ k a b x = 1 → lo64 ≤ k → k ≤ 5 → SemOp 24 false k a b x ∧ chkOp 0 4 k a b x = true := by
 intro k a b x hm _ h2
 rcases may_B hm h2 with ⟨hk, ha, rfl⟩ | ⟨rfl, ha, rfl, rfl⟩ | ⟨rfl, ha, hb⟩ | ⟨rfl, rfl, rfl, rfl⟩
 ·rcases hk with rfl | rfl | rfl <;> rcases ha with rfl | rfl | rfl | rfl
  ·exact ⟨s22_0_0_0 x hm, cb_0_0_0 x⟩
  ·exact ⟨s22_0_1_0 x hm, cb_0_1_0 x⟩
  ·exact ⟨s22_0_2_0 x hm, cb_0_2_0 x⟩
  ·exact ⟨s22_0_3_0 x hm, cb_0_3_0 x⟩
  ·exact ⟨s22_2_0_0 x hm, cb_2_0_0 x⟩
  ·exact ⟨s22_2_1_0 x hm, cb_2_1_0 x⟩
  ·exact ⟨s22_2_2_0 x hm, cb_2_2_0 x⟩
  ·exact ⟨s22_2_3_0 x hm, cb_2_3_0 x⟩
  ·exact ⟨s22_3_0_0 x hm, cb_3_0_0 x⟩
  ·exact ⟨s22_3_1_0 x hm, cb_3_1_0 x⟩
  ·exact ⟨s22_3_2_0 x hm, cb_3_2_0 x⟩
  ·exact ⟨s22_3_3_0 x hm, cb_3_3_0 x⟩
 ·rcases ha with rfl | rfl | rfl | rfl
  ·exact ⟨s22_1_0_0 hm, cb_1_0_0⟩
  ·exact ⟨s22_1_1_0 hm, cb_1_1_0⟩
  ·exact ⟨s22_1_2_0 hm, cb_1_2_0⟩
  ·exact ⟨s22_1_3_0 hm, cb_1_3_0⟩
 ·rcases ha with rfl | rfl | rfl | rfl <;> rcases hb with rfl | rfl | rfl | rfl
  ·exact ⟨s22_4_0_0 x hm, cb_4_0_0 x⟩
  ·exact ⟨s22_4_0_1 x hm, cb_4_0_1 x⟩
  ·exact ⟨s22_4_0_2 x hm, cb_4_0_2 x⟩
  ·exact ⟨s22_4_0_3 x hm, cb_4_0_3 x⟩
  ·exact ⟨s22_4_1_0 x hm, cb_4_1_0 x⟩
  ·exact ⟨s22_4_1_1 x hm, cb_4_1_1 x⟩
  ·exact ⟨s22_4_1_2 x hm, cb_4_1_2 x⟩
  ·exact ⟨s22_4_1_3 x hm, cb_4_1_3 x⟩
  ·exact ⟨s22_4_2_0 x hm, cb_4_2_0 x⟩
  ·exact ⟨s22_4_2_1 x hm, cb_4_2_1 x⟩
  ·exact ⟨s22_4_2_2 x hm, cb_4_2_2 x⟩
  ·exact ⟨s22_4_2_3 x hm, cb_4_2_3 x⟩
  ·exact ⟨s22_4_3_0 x hm, cb_4_3_0 x⟩
  ·exact ⟨s22_4_3_1 x hm, cb_4_3_1 x⟩
  ·exact ⟨s22_4_3_2 x hm, cb_4_3_2 x⟩
  ·exact ⟨s22_4_3_3 x hm, cb_4_3_3 x⟩
 ·exact ⟨s22_5_0_0 hm, cb_5_0_0⟩
noncomputable def m24S : List SV → X SV := semX false 4 12 6 hi64
theorem m24S_ok : SpecOk G0 Try.prog 24 m24S := semX_ok (by decide) hsem22
noncomputable def m24B : List SV → X SV := semX false 0 4 lo64 5
theorem m24B_ok : SpecOk G0 Try.prog 24 m24B := semX_ok (by decide) hsemB22
end Go.Proofs.Ytnfmmiomomgabaa
