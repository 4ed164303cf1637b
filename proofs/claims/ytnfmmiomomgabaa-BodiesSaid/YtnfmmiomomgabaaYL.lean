/- what the program's operation comes to, upon any view. -/
import Derived.Test.YtnfmmiomomgabaaP
import Derived.Test.YtnfmmiomomgabaaCL
import Derived.Test.YtnfmmiomomgabaaYa
import Derived.Test.YtnfmmiomomgabaaYb
import Derived.Test.YtnfmmiomomgabaaYc
import Derived.Test.YtnfmmiomomgabaaYd
import Derived.Test.YtnfmmiomomgabaaYe
import Derived.Test.YtnfmmiomomgabaaYf
import Derived.Test.YtnfmmiomomgabaaYg
import Derived.Test.YtnfmmiomomgabaaYh
namespace Go.Proofs.Ytnfmmiomomgabaa
open Go.Sx Go
set_option maxRecDepth 100000
theorem s8_6_0_0_0 (hm : mayZ 6 0 0 0 = 1) : SemOp 29 true 6 0 0 0 := sem8 t8_ok hm r_6_0_0_0 (cov_K (l := []) (t := d8_6_0_0_0) (by kernel_rfl)) (all_idx (n := 1) (d := []) (by kernel_rfl) (fun i hi => match i, hi with | 0, _ => y8_6_0_0_0_0 | i + 1, h => absurd h (by omega)))
theorem s8_6_0_0_1 (hm : mayZ 6 0 0 1 = 1) : SemOp 29 true 6 0 0 1 := sem8 t8_ok hm r_6_0_0_1 (cov_K (l := []) (t := d8_6_0_0_1) (by kernel_rfl)) (all_idx (n := 1) (d := []) (by kernel_rfl) (fun i hi => match i, hi with | 0, _ => y8_6_0_0_1_0 | i + 1, h => absurd h (by omega)))
theorem s8_6_1_0_0 (hm : mayZ 6 1 0 0 = 1) : SemOp 29 true 6 1 0 0 := sem8 t8_ok hm r_6_1_0_0 (cov_K (l := []) (t := d8_6_1_0_0) (by kernel_rfl)) (all_idx (n := 1) (d := []) (by kernel_rfl) (fun i hi => match i, hi with | 0, _ => y8_6_1_0_0_0 | i + 1, h => absurd h (by omega)))
theorem s8_6_1_0_1 (hm : mayZ 6 1 0 1 = 1) : SemOp 29 true 6 1 0 1 := sem8 t8_ok hm r_6_1_0_1 (cov_K (l := []) (t := d8_6_1_0_1) (by kernel_rfl)) (all_idx (n := 1) (d := []) (by kernel_rfl) (fun i hi => match i, hi with | 0, _ => y8_6_1_0_1_0 | i + 1, h => absurd h (by omega)))
theorem s8_6_2_0_0 (hm : mayZ 6 2 0 0 = 1) : SemOp 29 true 6 2 0 0 := sem8 t8_ok hm r_6_2_0_0 (cov_K (l := []) (t := d8_6_2_0_0) (by kernel_rfl)) (all_idx (n := 1) (d := []) (by kernel_rfl) (fun i hi => match i, hi with | 0, _ => y8_6_2_0_0_0 | i + 1, h => absurd h (by omega)))
theorem s8_6_2_0_1 (hm : mayZ 6 2 0 1 = 1) : SemOp 29 true 6 2 0 1 := sem8 t8_ok hm r_6_2_0_1 (cov_K (l := []) (t := d8_6_2_0_1) (by kernel_rfl)) (all_idx (n := 1) (d := []) (by kernel_rfl) (fun i hi => match i, hi with | 0, _ => y8_6_2_0_1_0 | i + 1, h => absurd h (by omega)))
theorem s8_6_3_0_0 (hm : mayZ 6 3 0 0 = 1) : SemOp 29 true 6 3 0 0 := sem8 t8_ok hm r_6_3_0_0 (cov_K (l := [(-1, 1)]) (t := d8_6_3_0_0) (by kernel_rfl)) (all_idx (n := 2) (d := []) (by kernel_rfl) (fun i hi => match i, hi with | 0, _ => y8_6_3_0_0_0 | 1, _ => y8_6_3_0_0_1 | i + 2, h => absurd h (by omega)))
theorem s8_6_3_0_1 (hm : mayZ 6 3 0 1 = 1) : SemOp 29 true 6 3 0 1 := sem8 t8_ok hm r_6_3_0_1 (cov_K (l := [(-1, 1)]) (t := d8_6_3_0_1) (by kernel_rfl)) (all_idx (n := 2) (d := []) (by kernel_rfl) (fun i hi => match i, hi with | 0, _ => y8_6_3_0_1_0 | 1, _ => y8_6_3_0_1_1 | i + 2, h => absurd h (by omega)))
theorem s8_6_4_0_0 (hm : mayZ 6 4 0 0 = 1) : SemOp 29 true 6 4 0 0 := sem8 t8_ok hm r_6_4_0_0 (cov_K (l := [(-1, 1), (0, 1)]) (t := d8_6_4_0_0) (by kernel_rfl)) (all_idx (n := 4) (d := []) (by kernel_rfl) (fun i hi => match i, hi with | 0, _ => y8_6_4_0_0_0 | 1, _ => y8_6_4_0_0_1 | 2, _ => y8_6_4_0_0_2 | 3, _ => y8_6_4_0_0_3 | i + 4, h => absurd h (by omega)))
theorem s8_6_4_0_1 (hm : mayZ 6 4 0 1 = 1) : SemOp 29 true 6 4 0 1 := sem8 t8_ok hm r_6_4_0_1 (cov_K (l := [(-1, 1), (0, 1)]) (t := d8_6_4_0_1) (by kernel_rfl)) (all_idx (n := 4) (d := []) (by kernel_rfl) (fun i hi => match i, hi with | 0, _ => y8_6_4_0_1_0 | 1, _ => y8_6_4_0_1_1 | 2, _ => y8_6_4_0_1_2 | 3, _ => y8_6_4_0_1_3 | i + 4, h => absurd h (by omega)))
theorem s8_7_0_0_0 (hm : mayZ 7 0 0 0 = 1) : SemOp 29 true 7 0 0 0 := sem8 t8_ok hm r_7_0_0_0 (cov_K (l := []) (t := d8_7_0_0_0) (by kernel_rfl)) (all_idx (n := 1) (d := []) (by kernel_rfl) (fun i hi => match i, hi with | 0, _ => y8_7_0_0_0_0 | i + 1, h => absurd h (by omega)))
theorem s8_7_1_0_0 (hm : mayZ 7 1 0 0 = 1) : SemOp 29 true 7 1 0 0 := sem8 t8_ok hm r_7_1_0_0 (cov_K (l := []) (t := d8_7_1_0_0) (by kernel_rfl)) (all_idx (n := 1) (d := []) (by kernel_rfl) (fun i hi => match i, hi with | 0, _ => y8_7_1_0_0_0 | i + 1, h => absurd h (by omega)))
theorem s8_7_2_0_0 (hm : mayZ 7 2 0 0 = 1) : SemOp 29 true 7 2 0 0 := sem8 t8_ok hm r_7_2_0_0 (cov_K (l := []) (t := d8_7_2_0_0) (by kernel_rfl)) (all_idx (n := 1) (d := []) (by kernel_rfl) (fun i hi => match i, hi with | 0, _ => y8_7_2_0_0_0 | i + 1, h => absurd h (by omega)))
theorem s8_7_3_0_0 (hm : mayZ 7 3 0 0 = 1) : SemOp 29 true 7 3 0 0 := sem8 t8_ok hm r_7_3_0_0 (cov_K (l := [(-1, 1)]) (t := d8_7_3_0_0) (by kernel_rfl)) (all_idx (n := 2) (d := []) (by kernel_rfl) (fun i hi => match i, hi with | 0, _ => y8_7_3_0_0_0 | 1, _ => y8_7_3_0_0_1 | i + 2, h => absurd h (by omega)))
theorem s8_7_4_0_0 (hm : mayZ 7 4 0 0 = 1) : SemOp 29 true 7 4 0 0 := sem8 t8_ok hm r_7_4_0_0 (cov_K (l := [(-1, 1), (0, 1)]) (t := d8_7_4_0_0) (by kernel_rfl)) (all_idx (n := 4) (d := []) (by kernel_rfl) (fun i hi => match i, hi with | 0, _ => y8_7_4_0_0_0 | 1, _ => y8_7_4_0_0_1 | 2, _ => y8_7_4_0_0_2 | 3, _ => y8_7_4_0_0_3 | i + 4, h => absurd h (by omega)))
theorem s8_8_0_0_0 (hm : mayZ 8 0 0 0 = 1) : SemOp 29 true 8 0 0 0 := sem8 t8_ok hm r_8_0_0_0 (cov_K (l := []) (t := d8_8_0_0_0) (by kernel_rfl)) (all_idx (n := 1) (d := []) (by kernel_rfl) (fun i hi => match i, hi with | 0, _ => y8_8_0_0_0_0 | i + 1, h => absurd h (by omega)))
theorem s8_8_1_0_0 (hm : mayZ 8 1 0 0 = 1) : SemOp 29 true 8 1 0 0 := sem8 t8_ok hm r_8_1_0_0 (cov_K (l := []) (t := d8_8_1_0_0) (by kernel_rfl)) (all_idx (n := 1) (d := []) (by kernel_rfl) (fun i hi => match i, hi with | 0, _ => y8_8_1_0_0_0 | i + 1, h => absurd h (by omega)))
theorem s8_8_2_0_0 (hm : mayZ 8 2 0 0 = 1) : SemOp 29 true 8 2 0 0 := sem8 t8_ok hm r_8_2_0_0 (cov_K (l := []) (t := d8_8_2_0_0) (by kernel_rfl)) (all_idx (n := 1) (d := []) (by kernel_rfl) (fun i hi => match i, hi with | 0, _ => y8_8_2_0_0_0 | i + 1, h => absurd h (by omega)))
theorem s8_8_3_0_0 (hm : mayZ 8 3 0 0 = 1) : SemOp 29 true 8 3 0 0 := sem8 t8_ok hm r_8_3_0_0 (cov_K (l := [(-1, 1)]) (t := d8_8_3_0_0) (by kernel_rfl)) (all_idx (n := 2) (d := []) (by kernel_rfl) (fun i hi => match i, hi with | 0, _ => y8_8_3_0_0_0 | 1, _ => y8_8_3_0_0_1 | i + 2, h => absurd h (by omega)))
theorem s8_8_4_0_0 (hm : mayZ 8 4 0 0 = 1) : SemOp 29 true 8 4 0 0 := sem8 t8_ok hm r_8_4_0_0 (cov_K (l := [(-1, 1)]) (t := d8_8_4_0_0) (by kernel_rfl)) (all_idx (n := 3) (d := []) (by kernel_rfl) (fun i hi => match i, hi with | 0, _ => y8_8_4_0_0_0 | 1, _ => y8_8_4_0_0_1 | 2, _ => y8_8_4_0_0_2 | i + 3, h => absurd h (by omega)))
theorem s8_9_0_0_0 (hm : mayZ 9 0 0 0 = 1) : SemOp 29 true 9 0 0 0 := sem8 t8_ok hm r_9_0_0_0 (cov_K (l := []) (t := d8_9_0_0_0) (by kernel_rfl)) (all_idx (n := 1) (d := []) (by kernel_rfl) (fun i hi => match i, hi with | 0, _ => y8_9_0_0_0_0 | i + 1, h => absurd h (by omega)))
theorem s8_10_0_0_0 (hm : mayZ 10 0 0 0 = 1) : SemOp 29 true 10 0 0 0 := sem8 t8_ok hm r_10_0_0_0 (cov_K (l := []) (t := d8_10_0_0_0) (by kernel_rfl)) (all_idx (n := 1) (d := []) (by kernel_rfl) (fun i hi => match i, hi with | 0, _ => y8_10_0_0_0_0 | i + 1, h => absurd h (by omega)))
theorem s8_10_0_1_0 (hm : mayZ 10 0 1 0 = 1) : SemOp 29 true 10 0 1 0 := sem8 t8_ok hm r_10_0_1_0 (cov_K (l := []) (t := d8_10_0_1_0) (by kernel_rfl)) (all_idx (n := 1) (d := []) (by kernel_rfl) (fun i hi => match i, hi with | 0, _ => y8_10_0_1_0_0 | i + 1, h => absurd h (by omega)))
theorem s8_10_0_2_0 (hm : mayZ 10 0 2 0 = 1) : SemOp 29 true 10 0 2 0 := sem8 t8_ok hm r_10_0_2_0 (cov_K (l := []) (t := d8_10_0_2_0) (by kernel_rfl)) (all_idx (n := 1) (d := []) (by kernel_rfl) (fun i hi => match i, hi with | 0, _ => y8_10_0_2_0_0 | i + 1, h => absurd h (by omega)))
theorem s8_10_0_3_0 (hm : mayZ 10 0 3 0 = 1) : SemOp 29 true 10 0 3 0 := sem8 t8_ok hm r_10_0_3_0 (cov_K (l := []) (t := d8_10_0_3_0) (by kernel_rfl)) (all_idx (n := 1) (d := []) (by kernel_rfl) (fun i hi => match i, hi with | 0, _ => y8_10_0_3_0_0 | i + 1, h => absurd h (by omega)))
theorem s8_10_0_4_0 (hm : mayZ 10 0 4 0 = 1) : SemOp 29 true 10 0 4 0 := sem8 t8_ok hm r_10_0_4_0 (cov_K (l := []) (t := d8_10_0_4_0) (by kernel_rfl)) (all_idx (n := 1) (d := []) (by kernel_rfl) (fun i hi => match i, hi with | 0, _ => y8_10_0_4_0_0 | i + 1, h => absurd h (by omega)))
theorem s8_10_1_0_0 (hm : mayZ 10 1 0 0 = 1) : SemOp 29 true 10 1 0 0 := sem8 t8_ok hm r_10_1_0_0 (cov_K (l := []) (t := d8_10_1_0_0) (by kernel_rfl)) (all_idx (n := 1) (d := []) (by kernel_rfl) (fun i hi => match i, hi with | 0, _ => y8_10_1_0_0_0 | i + 1, h => absurd h (by omega)))
theorem s8_10_1_1_0 (hm : mayZ 10 1 1 0 = 1) : SemOp 29 true 10 1 1 0 := sem8 t8_ok hm r_10_1_1_0 (cov_K (l := []) (t := d8_10_1_1_0) (by kernel_rfl)) (all_idx (n := 1) (d := []) (by kernel_rfl) (fun i hi => match i, hi with | 0, _ => y8_10_1_1_0_0 | i + 1, h => absurd h (by omega)))
theorem s8_10_1_2_0 (hm : mayZ 10 1 2 0 = 1) : SemOp 29 true 10 1 2 0 := sem8 t8_ok hm r_10_1_2_0 (cov_K (l := []) (t := d8_10_1_2_0) (by kernel_rfl)) (all_idx (n := 1) (d := []) (by kernel_rfl) (fun i hi => match i, hi with | 0, _ => y8_10_1_2_0_0 | i + 1, h => absurd h (by omega)))
theorem s8_10_1_3_0 (hm : mayZ 10 1 3 0 = 1) : SemOp 29 true 10 1 3 0 := sem8 t8_ok hm r_10_1_3_0 (cov_K (l := []) (t := d8_10_1_3_0) (by kernel_rfl)) (all_idx (n := 1) (d := []) (by kernel_rfl) (fun i hi => match i, hi with | 0, _ => y8_10_1_3_0_0 | i + 1, h => absurd h (by omega)))
theorem s8_10_1_4_0 (hm : mayZ 10 1 4 0 = 1) : SemOp 29 true 10 1 4 0 := sem8 t8_ok hm r_10_1_4_0 (cov_K (l := []) (t := d8_10_1_4_0) (by kernel_rfl)) (all_idx (n := 1) (d := []) (by kernel_rfl) (fun i hi => match i, hi with | 0, _ => y8_10_1_4_0_0 | i + 1, h => absurd h (by omega)))
theorem s8_10_2_0_0 (hm : mayZ 10 2 0 0 = 1) : SemOp 29 true 10 2 0 0 := sem8 t8_ok hm r_10_2_0_0 (cov_K (l := []) (t := d8_10_2_0_0) (by kernel_rfl)) (all_idx (n := 1) (d := []) (by kernel_rfl) (fun i hi => match i, hi with | 0, _ => y8_10_2_0_0_0 | i + 1, h => absurd h (by omega)))
theorem s8_10_2_1_0 (hm : mayZ 10 2 1 0 = 1) : SemOp 29 true 10 2 1 0 := sem8 t8_ok hm r_10_2_1_0 (cov_K (l := []) (t := d8_10_2_1_0) (by kernel_rfl)) (all_idx (n := 1) (d := []) (by kernel_rfl) (fun i hi => match i, hi with | 0, _ => y8_10_2_1_0_0 | i + 1, h => absurd h (by omega)))
theorem s8_10_2_2_0 (hm : mayZ 10 2 2 0 = 1) : SemOp 29 true 10 2 2 0 := sem8 t8_ok hm r_10_2_2_0 (cov_K (l := []) (t := d8_10_2_2_0) (by kernel_rfl)) (all_idx (n := 1) (d := []) (by kernel_rfl) (fun i hi => match i, hi with | 0, _ => y8_10_2_2_0_0 | i + 1, h => absurd h (by omega)))
theorem s8_10_2_3_0 (hm : mayZ 10 2 3 0 = 1) : SemOp 29 true 10 2 3 0 := sem8 t8_ok hm r_10_2_3_0 (cov_K (l := [(-1, 1)]) (t := d8_10_2_3_0) (by kernel_rfl)) (all_idx (n := 2) (d := []) (by kernel_rfl) (fun i hi => match i, hi with | 0, _ => y8_10_2_3_0_0 | 1, _ => y8_10_2_3_0_1 | i + 2, h => absurd h (by omega)))
theorem s8_10_2_4_0 (hm : mayZ 10 2 4 0 = 1) : SemOp 29 true 10 2 4 0 := sem8 t8_ok hm r_10_2_4_0 (cov_K (l := [(-1, 1)]) (t := d8_10_2_4_0) (by kernel_rfl)) (all_idx (n := 2) (d := []) (by kernel_rfl) (fun i hi => match i, hi with | 0, _ => y8_10_2_4_0_0 | 1, _ => y8_10_2_4_0_1 | i + 2, h => absurd h (by omega)))
theorem s8_10_3_0_0 (hm : mayZ 10 3 0 0 = 1) : SemOp 29 true 10 3 0 0 := sem8 t8_ok hm r_10_3_0_0 (cov_K (l := [(-1, 1)]) (t := d8_10_3_0_0) (by kernel_rfl)) (all_idx (n := 2) (d := []) (by kernel_rfl) (fun i hi => match i, hi with | 0, _ => y8_10_3_0_0_0 | 1, _ => y8_10_3_0_0_1 | i + 2, h => absurd h (by omega)))
theorem s8_10_3_1_0 (hm : mayZ 10 3 1 0 = 1) : SemOp 29 true 10 3 1 0 := sem8 t8_ok hm r_10_3_1_0 (cov_K (l := [(-1, 1)]) (t := d8_10_3_1_0) (by kernel_rfl)) (all_idx (n := 2) (d := []) (by kernel_rfl) (fun i hi => match i, hi with | 0, _ => y8_10_3_1_0_0 | 1, _ => y8_10_3_1_0_1 | i + 2, h => absurd h (by omega)))
theorem s8_10_3_2_0 (hm : mayZ 10 3 2 0 = 1) : SemOp 29 true 10 3 2 0 := sem8 t8_ok hm r_10_3_2_0 (cov_K (l := [(-1, 1)]) (t := d8_10_3_2_0) (by kernel_rfl)) (all_idx (n := 2) (d := []) (by kernel_rfl) (fun i hi => match i, hi with | 0, _ => y8_10_3_2_0_0 | 1, _ => y8_10_3_2_0_1 | i + 2, h => absurd h (by omega)))
theorem s8_10_3_3_0 (hm : mayZ 10 3 3 0 = 1) : SemOp 29 true 10 3 3 0 := sem8 t8_ok hm r_10_3_3_0 (cov_K (l := [(-1, 1)]) (t := d8_10_3_3_0) (by kernel_rfl)) (all_idx (n := 2) (d := []) (by kernel_rfl) (fun i hi => match i, hi with | 0, _ => y8_10_3_3_0_0 | 1, _ => y8_10_3_3_0_1 | i + 2, h => absurd h (by omega)))
theorem s8_10_3_4_0 (hm : mayZ 10 3 4 0 = 1) : SemOp 29 true 10 3 4 0 := sem8 t8_ok hm r_10_3_4_0 (cov_K (l := [(-1, 1)]) (t := d8_10_3_4_0) (by kernel_rfl)) (all_idx (n := 2) (d := []) (by kernel_rfl) (fun i hi => match i, hi with | 0, _ => y8_10_3_4_0_0 | 1, _ => y8_10_3_4_0_1 | i + 2, h => absurd h (by omega)))
theorem s8_10_4_0_0 (hm : mayZ 10 4 0 0 = 1) : SemOp 29 true 10 4 0 0 := sem8 t8_ok hm r_10_4_0_0 (cov_K (l := [(-1, 1)]) (t := d8_10_4_0_0) (by kernel_rfl)) (all_idx (n := 3) (d := []) (by kernel_rfl) (fun i hi => match i, hi with | 0, _ => y8_10_4_0_0_0 | 1, _ => y8_10_4_0_0_1 | 2, _ => y8_10_4_0_0_2 | i + 3, h => absurd h (by omega)))
theorem s8_10_4_1_0 (hm : mayZ 10 4 1 0 = 1) : SemOp 29 true 10 4 1 0 := sem8 t8_ok hm r_10_4_1_0 (cov_K (l := [(-1, 1)]) (t := d8_10_4_1_0) (by kernel_rfl)) (all_idx (n := 3) (d := []) (by kernel_rfl) (fun i hi => match i, hi with | 0, _ => y8_10_4_1_0_0 | 1, _ => y8_10_4_1_0_1 | 2, _ => y8_10_4_1_0_2 | i + 3, h => absurd h (by omega)))
theorem s8_10_4_2_0 (hm : mayZ 10 4 2 0 = 1) : SemOp 29 true 10 4 2 0 := sem8 t8_ok hm r_10_4_2_0 (cov_K (l := [(-1, 1)]) (t := d8_10_4_2_0) (by kernel_rfl)) (all_idx (n := 3) (d := []) (by kernel_rfl) (fun i hi => match i, hi with | 0, _ => y8_10_4_2_0_0 | 1, _ => y8_10_4_2_0_1 | 2, _ => y8_10_4_2_0_2 | i + 3, h => absurd h (by omega)))
theorem s8_10_4_3_0 (hm : mayZ 10 4 3 0 = 1) : SemOp 29 true 10 4 3 0 := sem8 t8_ok hm r_10_4_3_0 (cov_K (l := [(-1, 1)]) (t := d8_10_4_3_0) (by kernel_rfl)) (all_idx (n := 3) (d := []) (by kernel_rfl) (fun i hi => match i, hi with | 0, _ => y8_10_4_3_0_0 | 1, _ => y8_10_4_3_0_1 | 2, _ => y8_10_4_3_0_2 | i + 3, h => absurd h (by omega)))
theorem s8_10_4_4_0 (hm : mayZ 10 4 4 0 = 1) : SemOp 29 true 10 4 4 0 := sem8 t8_ok hm r_10_4_4_0 (cov_K (l := [(-1, 1)]) (t := d8_10_4_4_0) (by kernel_rfl)) (all_idx (n := 3) (d := []) (by kernel_rfl) (fun i hi => match i, hi with | 0, _ => y8_10_4_4_0_0 | 1, _ => y8_10_4_4_0_1 | 2, _ => y8_10_4_4_0_2 | i + 3, h => absurd h (by omega)))
theorem s8_0_0_0 (x : Int) (hm : mayZ 0 0 0 x = 1) : SemOp 28 true 0 0 0 x := semB tB_ok hm (rb_0_0_0 x) cov_0 (one_f (b8_0_0_0 x))
theorem s8_0_1_0 (x : Int) (hm : mayZ 0 1 0 x = 1) : SemOp 28 true 0 1 0 x := semB tB_ok hm (rb_0_1_0 x) cov_0 (one_f (b8_0_1_0 x))
theorem s8_0_2_0 (x : Int) (hm : mayZ 0 2 0 x = 1) : SemOp 28 true 0 2 0 x := semB tB_ok hm (rb_0_2_0 x) cov_0 (one_f (b8_0_2_0 x))
theorem s8_0_3_0 (x : Int) (hm : mayZ 0 3 0 x = 1) : SemOp 28 true 0 3 0 x := semB tB_ok hm (rb_0_3_0 x) cov_0 (one_f (b8_0_3_0 x))
theorem s8_1_0_0 (hm : mayZ 1 0 0 0 = 1) : SemOp 28 true 1 0 0 0 := semB tB_ok hm (rb_1_0_0) cov_0 (one_f (b8_1_0_0))
theorem s8_1_1_0 (hm : mayZ 1 1 0 0 = 1) : SemOp 28 true 1 1 0 0 := semB tB_ok hm (rb_1_1_0) cov_0 (one_f (b8_1_1_0))
theorem s8_1_2_0 (hm : mayZ 1 2 0 0 = 1) : SemOp 28 true 1 2 0 0 := semB tB_ok hm (rb_1_2_0) cov_0 (one_f (b8_1_2_0))
theorem s8_1_3_0 (hm : mayZ 1 3 0 0 = 1) : SemOp 28 true 1 3 0 0 := semB tB_ok hm (rb_1_3_0) cov_0 (one_f (b8_1_3_0))
theorem s8_2_0_0 (x : Int) (hm : mayZ 2 0 0 x = 1) : SemOp 28 true 2 0 0 x := semB tB_ok hm (rb_2_0_0 x) cov_0 (one_f (b8_2_0_0 x))
theorem s8_2_1_0 (x : Int) (hm : mayZ 2 1 0 x = 1) : SemOp 28 true 2 1 0 x := semB tB_ok hm (rb_2_1_0 x) cov_0 (one_f (b8_2_1_0 x))
theorem s8_2_2_0 (x : Int) (hm : mayZ 2 2 0 x = 1) : SemOp 28 true 2 2 0 x := semB tB_ok hm (rb_2_2_0 x) cov_0 (one_f (b8_2_2_0 x))
theorem s8_2_3_0 (x : Int) (hm : mayZ 2 3 0 x = 1) : SemOp 28 true 2 3 0 x := semB tB_ok hm (rb_2_3_0 x) cov_0 (one_f (b8_2_3_0 x))
theorem s8_3_0_0 (x : Int) (hm : mayZ 3 0 0 x = 1) : SemOp 28 true 3 0 0 x := semB tB_ok hm (rb_3_0_0 x) cov_0 (one_f (b8_3_0_0 x))
theorem s8_3_1_0 (x : Int) (hm : mayZ 3 1 0 x = 1) : SemOp 28 true 3 1 0 x := semB tB_ok hm (rb_3_1_0 x) cov_0 (one_f (b8_3_1_0 x))
theorem s8_3_2_0 (x : Int) (hm : mayZ 3 2 0 x = 1) : SemOp 28 true 3 2 0 x := semB tB_ok hm (rb_3_2_0 x) cov_0 (one_f (b8_3_2_0 x))
theorem s8_3_3_0 (x : Int) (hm : mayZ 3 3 0 x = 1) : SemOp 28 true 3 3 0 x := semB tB_ok hm (rb_3_3_0 x) cov_0 (one_f (b8_3_3_0 x))
theorem s8_4_0_0 (x : Int) (hm : mayZ 4 0 0 x = 1) : SemOp 28 true 4 0 0 x := semB tB_ok hm (rb_4_0_0 x) cov_0 (one_f (b8_4_0_0 x))
theorem s8_4_0_1 (x : Int) (hm : mayZ 4 0 1 x = 1) : SemOp 28 true 4 0 1 x := semB tB_ok hm (rb_4_0_1 x) cov_0 (one_f (b8_4_0_1 x))
theorem s8_4_0_2 (x : Int) (hm : mayZ 4 0 2 x = 1) : SemOp 28 true 4 0 2 x := semB tB_ok hm (rb_4_0_2 x) cov_0 (one_f (b8_4_0_2 x))
theorem s8_4_0_3 (x : Int) (hm : mayZ 4 0 3 x = 1) : SemOp 28 true 4 0 3 x := semB tB_ok hm (rb_4_0_3 x) cov_0 (one_f (b8_4_0_3 x))
theorem s8_4_1_0 (x : Int) (hm : mayZ 4 1 0 x = 1) : SemOp 28 true 4 1 0 x := semB tB_ok hm (rb_4_1_0 x) cov_0 (one_f (b8_4_1_0 x))
theorem s8_4_1_1 (x : Int) (hm : mayZ 4 1 1 x = 1) : SemOp 28 true 4 1 1 x := semB tB_ok hm (rb_4_1_1 x) cov_0 (one_f (b8_4_1_1 x))
theorem s8_4_1_2 (x : Int) (hm : mayZ 4 1 2 x = 1) : SemOp 28 true 4 1 2 x := semB tB_ok hm (rb_4_1_2 x) cov_0 (one_f (b8_4_1_2 x))
theorem s8_4_1_3 (x : Int) (hm : mayZ 4 1 3 x = 1) : SemOp 28 true 4 1 3 x := semB tB_ok hm (rb_4_1_3 x) cov_0 (one_f (b8_4_1_3 x))
theorem s8_4_2_0 (x : Int) (hm : mayZ 4 2 0 x = 1) : SemOp 28 true 4 2 0 x := semB tB_ok hm (rb_4_2_0 x) cov_0 (one_f (b8_4_2_0 x))
theorem s8_4_2_1 (x : Int) (hm : mayZ 4 2 1 x = 1) : SemOp 28 true 4 2 1 x := semB tB_ok hm (rb_4_2_1 x) cov_0 (one_f (b8_4_2_1 x))
theorem s8_4_2_2 (x : Int) (hm : mayZ 4 2 2 x = 1) : SemOp 28 true 4 2 2 x := semB tB_ok hm (rb_4_2_2 x) cov_0 (one_f (b8_4_2_2 x))
theorem s8_4_2_3 (x : Int) (hm : mayZ 4 2 3 x = 1) : SemOp 28 true 4 2 3 x := semB tB_ok hm (rb_4_2_3 x) cov_0 (one_f (b8_4_2_3 x))
theorem s8_4_3_0 (x : Int) (hm : mayZ 4 3 0 x = 1) : SemOp 28 true 4 3 0 x := semB tB_ok hm (rb_4_3_0 x) cov_0 (one_f (b8_4_3_0 x))
theorem s8_4_3_1 (x : Int) (hm : mayZ 4 3 1 x = 1) : SemOp 28 true 4 3 1 x := semB tB_ok hm (rb_4_3_1 x) cov_0 (one_f (b8_4_3_1 x))
theorem s8_4_3_2 (x : Int) (hm : mayZ 4 3 2 x = 1) : SemOp 28 true 4 3 2 x := semB tB_ok hm (rb_4_3_2 x) cov_0 (one_f (b8_4_3_2 x))
theorem s8_4_3_3 (x : Int) (hm : mayZ 4 3 3 x = 1) : SemOp 28 true 4 3 3 x := semB tB_ok hm (rb_4_3_3 x) cov_0 (one_f (b8_4_3_3 x))
theorem s8_5_0_0 (hm : mayZ 5 0 0 0 = 1) : SemOp 28 true 5 0 0 0 := semB tB_ok hm (rb_5_0_0) cov_0 (one_f (b8_5_0_0))
theorem hsem8 : ∀ k a b x, mayZ k a b x = 1 → 6 ≤ k → k ≤ hi64 → SemOp 29 true k a b x ∧ chkOp 4 12 k a b x = true := by
 intro k a b x hm h1 _
 rcases may_S hm h1 with ⟨rfl, ha, rfl, hx⟩ | ⟨rfl, ha, rfl, rfl⟩ | ⟨rfl, ha, rfl, rfl⟩ | ⟨rfl, rfl, rfl, rfl⟩ | ⟨rfl, ha, hb, rfl⟩
 ·rcases ha with rfl | rfl | rfl | rfl | rfl <;> rcases hx with rfl | rfl
  ·exact ⟨s8_6_0_0_0 hm, c_6_0_0_0⟩
  ·exact ⟨s8_6_0_0_1 hm, c_6_0_0_1⟩
  ·exact ⟨s8_6_1_0_0 hm, c_6_1_0_0⟩
  ·exact ⟨s8_6_1_0_1 hm, c_6_1_0_1⟩
  ·exact ⟨s8_6_2_0_0 hm, c_6_2_0_0⟩
  ·exact ⟨s8_6_2_0_1 hm, c_6_2_0_1⟩
  ·exact ⟨s8_6_3_0_0 hm, c_6_3_0_0⟩
  ·exact ⟨s8_6_3_0_1 hm, c_6_3_0_1⟩
  ·exact ⟨s8_6_4_0_0 hm, c_6_4_0_0⟩
  ·exact ⟨s8_6_4_0_1 hm, c_6_4_0_1⟩
 ·rcases ha with rfl | rfl | rfl | rfl | rfl
  ·exact ⟨s8_7_0_0_0 hm, c_7_0_0_0⟩
  ·exact ⟨s8_7_1_0_0 hm, c_7_1_0_0⟩
  ·exact ⟨s8_7_2_0_0 hm, c_7_2_0_0⟩
  ·exact ⟨s8_7_3_0_0 hm, c_7_3_0_0⟩
  ·exact ⟨s8_7_4_0_0 hm, c_7_4_0_0⟩
 ·rcases ha with rfl | rfl | rfl | rfl | rfl
  ·exact ⟨s8_8_0_0_0 hm, c_8_0_0_0⟩
  ·exact ⟨s8_8_1_0_0 hm, c_8_1_0_0⟩
  ·exact ⟨s8_8_2_0_0 hm, c_8_2_0_0⟩
  ·exact ⟨s8_8_3_0_0 hm, c_8_3_0_0⟩
  ·exact ⟨s8_8_4_0_0 hm, c_8_4_0_0⟩
 ·exact ⟨s8_9_0_0_0 hm, c_9_0_0_0⟩
 ·rcases ha with rfl | rfl | rfl | rfl | rfl <;> rcases hb with rfl | rfl | rfl | rfl | rfl
  ·exact ⟨s8_10_0_0_0 hm, c_10_0_0_0⟩
  ·exact ⟨s8_10_0_1_0 hm, c_10_0_1_0⟩
  ·exact ⟨s8_10_0_2_0 hm, c_10_0_2_0⟩
  ·exact ⟨s8_10_0_3_0 hm, c_10_0_3_0⟩
  ·exact ⟨s8_10_0_4_0 hm, c_10_0_4_0⟩
  ·exact ⟨s8_10_1_0_0 hm, c_10_1_0_0⟩
  ·exact ⟨s8_10_1_1_0 hm, c_10_1_1_0⟩
  ·exact ⟨s8_10_1_2_0 hm, c_10_1_2_0⟩
  ·exact ⟨s8_10_1_3_0 hm, c_10_1_3_0⟩
  ·exact ⟨s8_10_1_4_0 hm, c_10_1_4_0⟩
  ·exact ⟨s8_10_2_0_0 hm, c_10_2_0_0⟩
  ·exact ⟨s8_10_2_1_0 hm, c_10_2_1_0⟩
  ·exact ⟨s8_10_2_2_0 hm, c_10_2_2_0⟩
  ·exact ⟨s8_10_2_3_0 hm, c_10_2_3_0⟩
  ·exact ⟨s8_10_2_4_0 hm, c_10_2_4_0⟩
  ·exact ⟨s8_10_3_0_0 hm, c_10_3_0_0⟩
  ·exact ⟨s8_10_3_1_0 hm, c_10_3_1_0⟩
  ·exact ⟨s8_10_3_2_0 hm, c_10_3_2_0⟩
  ·exact ⟨s8_10_3_3_0 hm, c_10_3_3_0⟩
  ·exact ⟨s8_10_3_4_0 hm, c_10_3_4_0⟩
  ·exact ⟨s8_10_4_0_0 hm, c_10_4_0_0⟩
  ·exact ⟨s8_10_4_1_0 hm, c_10_4_1_0⟩
  ·exact ⟨s8_10_4_2_0 hm, c_10_4_2_0⟩
  ·exact ⟨s8_10_4_3_0 hm, c_10_4_3_0⟩
  ·exact ⟨s8_10_4_4_0 hm, c_10_4_4_0⟩
theorem hsemB8 : ∀ k a b x, mayZ k a b x = 1 → lo64 ≤ k → k ≤ 5 → SemOp 28 true k a b x ∧ chkOp 0 4 k a b x = true := by
 intro k a b x hm _ h2
 rcases may_B hm h2 with ⟨hk, ha, rfl⟩ | ⟨rfl, ha, rfl, rfl⟩ | ⟨rfl, ha, hb⟩ | ⟨rfl, rfl, rfl, rfl⟩
 ·rcases hk with rfl | rfl | rfl <;> rcases ha with rfl | rfl | rfl | rfl
  ·exact ⟨s8_0_0_0 x hm, cb_0_0_0 x⟩
  ·exact ⟨s8_0_1_0 x hm, cb_0_1_0 x⟩
  ·exact ⟨s8_0_2_0 x hm, cb_0_2_0 x⟩
  ·exact ⟨s8_0_3_0 x hm, cb_0_3_0 x⟩
  ·exact ⟨s8_2_0_0 x hm, cb_2_0_0 x⟩
  ·exact ⟨s8_2_1_0 x hm, cb_2_1_0 x⟩
  ·exact ⟨s8_2_2_0 x hm, cb_2_2_0 x⟩
  ·exact ⟨s8_2_3_0 x hm, cb_2_3_0 x⟩
  ·exact ⟨s8_3_0_0 x hm, cb_3_0_0 x⟩
  ·exact ⟨s8_3_1_0 x hm, cb_3_1_0 x⟩
  ·exact ⟨s8_3_2_0 x hm, cb_3_2_0 x⟩
  ·exact ⟨s8_3_3_0 x hm, cb_3_3_0 x⟩
 ·rcases ha with rfl | rfl | rfl | rfl
  ·exact ⟨s8_1_0_0 hm, cb_1_0_0⟩
  ·exact ⟨s8_1_1_0 hm, cb_1_1_0⟩
  ·exact ⟨s8_1_2_0 hm, cb_1_2_0⟩
  ·exact ⟨s8_1_3_0 hm, cb_1_3_0⟩
 ·rcases ha with rfl | rfl | rfl | rfl <;> rcases hb with rfl | rfl | rfl | rfl
  ·exact ⟨s8_4_0_0 x hm, cb_4_0_0 x⟩
  ·exact ⟨s8_4_0_1 x hm, cb_4_0_1 x⟩
  ·exact ⟨s8_4_0_2 x hm, cb_4_0_2 x⟩
  ·exact ⟨s8_4_0_3 x hm, cb_4_0_3 x⟩
  ·exact ⟨s8_4_1_0 x hm, cb_4_1_0 x⟩
  ·exact ⟨s8_4_1_1 x hm, cb_4_1_1 x⟩
  ·exact ⟨s8_4_1_2 x hm, cb_4_1_2 x⟩
  ·exact ⟨s8_4_1_3 x hm, cb_4_1_3 x⟩
  ·exact ⟨s8_4_2_0 x hm, cb_4_2_0 x⟩
  ·exact ⟨s8_4_2_1 x hm, cb_4_2_1 x⟩
  ·exact ⟨s8_4_2_2 x hm, cb_4_2_2 x⟩
  ·exact ⟨s8_4_2_3 x hm, cb_4_2_3 x⟩
  ·exact ⟨s8_4_3_0 x hm, cb_4_3_0 x⟩
  ·exact ⟨s8_4_3_1 x hm, cb_4_3_1 x⟩
  ·exact ⟨s8_4_3_2 x hm, cb_4_3_2 x⟩
  ·exact ⟨s8_4_3_3 x hm, cb_4_3_3 x⟩
 ·exact ⟨s8_5_0_0 hm, cb_5_0_0⟩
noncomputable def m28 : List SV → X SV := semX true 0 4 lo64 5
theorem m28_ok : SpecOk G0 Try.prog 28 m28 := semX_ok (by decide) hsemB8
noncomputable def m29 : List SV → X SV := semX true 4 12 6 hi64
theorem m29_ok : SpecOk G0 Try.prog 29 m29 := semX_ok (by decide) hsem8
end Go.Proofs.Ytnfmmiomomgabaa
