/- what a key's operation comes to, upon any view. -/
import Derived.Test.YtojpmbkbeoolcaaKC
import Derived.Test.YtojpmbkbeoolcaaKYa
import Derived.Test.YtojpmbkbeoolcaaKYb
import Derived.Test.YtojpmbkbeoolcaaKYc
import Derived.Test.YtojpmbkbeoolcaaKYd
namespace Go.Proofs.Ytojpmbkbeoolcaa.K
open Go.Sx Go
set_option maxRecDepth 100000
theorem s8_6_0_0_0 (hm : mayZ 6 0 0 0 = 1) : SemOp 39 true 6 0 0 0 := sem8 t8_ok hm r_6_0_0_0 (cov_K (l := []) (t := d8_6_0_0_0) (by kernel_rfl)) (all_idx (n := 1) (d := []) (by kernel_rfl) (fun i hi => match i, hi with | 0, _ => y8_6_0_0_0_0 | i + 1, h => absurd h (by omega)))
theorem s8_6_0_0_1 (hm : mayZ 6 0 0 1 = 1) : SemOp 39 true 6 0 0 1 := sem8 t8_ok hm r_6_0_0_1 (cov_K (l := []) (t := d8_6_0_0_1) (by kernel_rfl)) (all_idx (n := 1) (d := []) (by kernel_rfl) (fun i hi => match i, hi with | 0, _ => y8_6_0_0_1_0 | i + 1, h => absurd h (by omega)))
theorem s8_6_1_0_0 (hm : mayZ 6 1 0 0 = 1) : SemOp 39 true 6 1 0 0 := sem8 t8_ok hm r_6_1_0_0 (cov_K (l := []) (t := d8_6_1_0_0) (by kernel_rfl)) (all_idx (n := 1) (d := []) (by kernel_rfl) (fun i hi => match i, hi with | 0, _ => y8_6_1_0_0_0 | i + 1, h => absurd h (by omega)))
theorem s8_6_1_0_1 (hm : mayZ 6 1 0 1 = 1) : SemOp 39 true 6 1 0 1 := sem8 t8_ok hm r_6_1_0_1 (cov_K (l := []) (t := d8_6_1_0_1) (by kernel_rfl)) (all_idx (n := 1) (d := []) (by kernel_rfl) (fun i hi => match i, hi with | 0, _ => y8_6_1_0_1_0 | i + 1, h => absurd h (by omega)))
theorem s8_6_2_0_0 (hm : mayZ 6 2 0 0 = 1) : SemOp 39 true 6 2 0 0 := sem8 t8_ok hm r_6_2_0_0 (cov_K (l := []) (t := d8_6_2_0_0) (by kernel_rfl)) (all_idx (n := 1) (d := []) (by kernel_rfl) (fun i hi => match i, hi with | 0, _ => y8_6_2_0_0_0 | i + 1, h => absurd h (by omega)))
theorem s8_6_2_0_1 (hm : mayZ 6 2 0 1 = 1) : SemOp 39 true 6 2 0 1 := sem8 t8_ok hm r_6_2_0_1 (cov_K (l := []) (t := d8_6_2_0_1) (by kernel_rfl)) (all_idx (n := 1) (d := []) (by kernel_rfl) (fun i hi => match i, hi with | 0, _ => y8_6_2_0_1_0 | i + 1, h => absurd h (by omega)))
theorem s8_6_3_0_0 (hm : mayZ 6 3 0 0 = 1) : SemOp 39 true 6 3 0 0 := sem8 t8_ok hm r_6_3_0_0 (cov_K (l := [(-1, 1)]) (t := d8_6_3_0_0) (by kernel_rfl)) (all_idx (n := 2) (d := []) (by kernel_rfl) (fun i hi => match i, hi with | 0, _ => y8_6_3_0_0_0 | 1, _ => y8_6_3_0_0_1 | i + 2, h => absurd h (by omega)))
theorem s8_6_3_0_1 (hm : mayZ 6 3 0 1 = 1) : SemOp 39 true 6 3 0 1 := sem8 t8_ok hm r_6_3_0_1 (cov_K (l := [(-1, 1)]) (t := d8_6_3_0_1) (by kernel_rfl)) (all_idx (n := 2) (d := []) (by kernel_rfl) (fun i hi => match i, hi with | 0, _ => y8_6_3_0_1_0 | 1, _ => y8_6_3_0_1_1 | i + 2, h => absurd h (by omega)))
theorem s8_6_4_0_0 (hm : mayZ 6 4 0 0 = 1) : SemOp 39 true 6 4 0 0 := sem8 t8_ok hm r_6_4_0_0 (cov_K (l := [(-1, 1), (0, 1)]) (t := d8_6_4_0_0) (by kernel_rfl)) (all_idx (n := 4) (d := []) (by kernel_rfl) (fun i hi => match i, hi with | 0, _ => y8_6_4_0_0_0 | 1, _ => y8_6_4_0_0_1 | 2, _ => y8_6_4_0_0_2 | 3, _ => y8_6_4_0_0_3 | i + 4, h => absurd h (by omega)))
theorem s8_6_4_0_1 (hm : mayZ 6 4 0 1 = 1) : SemOp 39 true 6 4 0 1 := sem8 t8_ok hm r_6_4_0_1 (cov_K (l := [(-1, 1), (0, 1)]) (t := d8_6_4_0_1) (by kernel_rfl)) (all_idx (n := 4) (d := []) (by kernel_rfl) (fun i hi => match i, hi with | 0, _ => y8_6_4_0_1_0 | 1, _ => y8_6_4_0_1_1 | 2, _ => y8_6_4_0_1_2 | 3, _ => y8_6_4_0_1_3 | i + 4, h => absurd h (by omega)))
theorem s8_7_0_0_0 (hm : mayZ 7 0 0 0 = 1) : SemOp 39 true 7 0 0 0 := sem8 t8_ok hm r_7_0_0_0 (cov_K (l := []) (t := d8_7_0_0_0) (by kernel_rfl)) (all_idx (n := 1) (d := []) (by kernel_rfl) (fun i hi => match i, hi with | 0, _ => y8_7_0_0_0_0 | i + 1, h => absurd h (by omega)))
theorem s8_7_1_0_0 (hm : mayZ 7 1 0 0 = 1) : SemOp 39 true 7 1 0 0 := sem8 t8_ok hm r_7_1_0_0 (cov_K (l := []) (t := d8_7_1_0_0) (by kernel_rfl)) (all_idx (n := 1) (d := []) (by kernel_rfl) (fun i hi => match i, hi with | 0, _ => y8_7_1_0_0_0 | i + 1, h => absurd h (by omega)))
theorem s8_7_2_0_0 (hm : mayZ 7 2 0 0 = 1) : SemOp 39 true 7 2 0 0 := sem8 t8_ok hm r_7_2_0_0 (cov_K (l := []) (t := d8_7_2_0_0) (by kernel_rfl)) (all_idx (n := 1) (d := []) (by kernel_rfl) (fun i hi => match i, hi with | 0, _ => y8_7_2_0_0_0 | i + 1, h => absurd h (by omega)))
theorem s8_7_3_0_0 (hm : mayZ 7 3 0 0 = 1) : SemOp 39 true 7 3 0 0 := sem8 t8_ok hm r_7_3_0_0 (cov_K (l := [(-1, 1)]) (t := d8_7_3_0_0) (by kernel_rfl)) (all_idx (n := 2) (d := []) (by kernel_rfl) (fun i hi => match i, hi with | 0, _ => y8_7_3_0_0_0 | 1, _ => y8_7_3_0_0_1 | i + 2, h => absurd h (by omega)))
theorem s8_7_4_0_0 (hm : mayZ 7 4 0 0 = 1) : SemOp 39 true 7 4 0 0 := sem8 t8_ok hm r_7_4_0_0 (cov_K (l := [(-1, 1), (0, 1)]) (t := d8_7_4_0_0) (by kernel_rfl)) (all_idx (n := 4) (d := []) (by kernel_rfl) (fun i hi => match i, hi with | 0, _ => y8_7_4_0_0_0 | 1, _ => y8_7_4_0_0_1 | 2, _ => y8_7_4_0_0_2 | 3, _ => y8_7_4_0_0_3 | i + 4, h => absurd h (by omega)))
theorem s8_8_0_0_0 (hm : mayZ 8 0 0 0 = 1) : SemOp 39 true 8 0 0 0 := sem8 t8_ok hm r_8_0_0_0 (cov_K (l := []) (t := d8_8_0_0_0) (by kernel_rfl)) (all_idx (n := 1) (d := []) (by kernel_rfl) (fun i hi => match i, hi with | 0, _ => y8_8_0_0_0_0 | i + 1, h => absurd h (by omega)))
theorem s8_8_1_0_0 (hm : mayZ 8 1 0 0 = 1) : SemOp 39 true 8 1 0 0 := sem8 t8_ok hm r_8_1_0_0 (cov_K (l := []) (t := d8_8_1_0_0) (by kernel_rfl)) (all_idx (n := 1) (d := []) (by kernel_rfl) (fun i hi => match i, hi with | 0, _ => y8_8_1_0_0_0 | i + 1, h => absurd h (by omega)))
theorem s8_8_2_0_0 (hm : mayZ 8 2 0 0 = 1) : SemOp 39 true 8 2 0 0 := sem8 t8_ok hm r_8_2_0_0 (cov_K (l := []) (t := d8_8_2_0_0) (by kernel_rfl)) (all_idx (n := 1) (d := []) (by kernel_rfl) (fun i hi => match i, hi with | 0, _ => y8_8_2_0_0_0 | i + 1, h => absurd h (by omega)))
theorem s8_8_3_0_0 (hm : mayZ 8 3 0 0 = 1) : SemOp 39 true 8 3 0 0 := sem8 t8_ok hm r_8_3_0_0 (cov_K (l := [(-1, 1)]) (t := d8_8_3_0_0) (by kernel_rfl)) (all_idx (n := 2) (d := []) (by kernel_rfl) (fun i hi => match i, hi with | 0, _ => y8_8_3_0_0_0 | 1, _ => y8_8_3_0_0_1 | i + 2, h => absurd h (by omega)))
theorem s8_8_4_0_0 (hm : mayZ 8 4 0 0 = 1) : SemOp 39 true 8 4 0 0 := sem8 t8_ok hm r_8_4_0_0 (cov_K (l := [(-1, 1)]) (t := d8_8_4_0_0) (by kernel_rfl)) (all_idx (n := 3) (d := []) (by kernel_rfl) (fun i hi => match i, hi with | 0, _ => y8_8_4_0_0_0 | 1, _ => y8_8_4_0_0_1 | 2, _ => y8_8_4_0_0_2 | i + 3, h => absurd h (by omega)))
theorem s8_9_0_0_0 (hm : mayZ 9 0 0 0 = 1) : SemOp 39 true 9 0 0 0 := sem8 t8_ok hm r_9_0_0_0 (cov_K (l := []) (t := d8_9_0_0_0) (by kernel_rfl)) (all_idx (n := 1) (d := []) (by kernel_rfl) (fun i hi => match i, hi with | 0, _ => y8_9_0_0_0_0 | i + 1, h => absurd h (by omega)))
theorem s8_10_0_0_0 (hm : mayZ 10 0 0 0 = 1) : SemOp 39 true 10 0 0 0 := sem8 t8_ok hm r_10_0_0_0 (cov_K (l := []) (t := d8_10_0_0_0) (by kernel_rfl)) (all_idx (n := 1) (d := []) (by kernel_rfl) (fun i hi => match i, hi with | 0, _ => y8_10_0_0_0_0 | i + 1, h => absurd h (by omega)))
theorem s8_10_0_1_0 (hm : mayZ 10 0 1 0 = 1) : SemOp 39 true 10 0 1 0 := sem8 t8_ok hm r_10_0_1_0 (cov_K (l := []) (t := d8_10_0_1_0) (by kernel_rfl)) (all_idx (n := 1) (d := []) (by kernel_rfl) (fun i hi => match i, hi with | 0, _ => y8_10_0_1_0_0 | i + 1, h => absurd h (by omega)))
theorem s8_10_0_2_0 (hm : mayZ 10 0 2 0 = 1) : SemOp 39 true 10 0 2 0 := sem8 t8_ok hm r_10_0_2_0 (cov_K (l := []) (t := d8_10_0_2_0) (by kernel_rfl)) (all_idx (n := 1) (d := []) (by kernel_rfl) (fun i hi => match i, hi with | 0, _ => y8_10_0_2_0_0 | i + 1, h => absurd h (by omega)))
theorem s8_10_0_3_0 (hm : mayZ 10 0 3 0 = 1) : SemOp 39 true 10 0 3 0 := sem8 t8_ok hm r_10_0_3_0 (cov_K (l := []) (t := d8_10_0_3_0) (by kernel_rfl)) (all_idx (n := 1) (d := []) (by kernel_rfl) (fun i hi => match i, hi with | 0, _ => y8_10_0_3_0_0 | i + 1, h => absurd h (by omega)))
theorem s8_10_0_4_0 (hm : mayZ 10 0 4 0 = 1) : SemOp 39 true 10 0 4 0 := sem8 t8_ok hm r_10_0_4_0 (cov_K (l := []) (t := d8_10_0_4_0) (by kernel_rfl)) (all_idx (n := 1) (d := []) (by kernel_rfl) (fun i hi => match i, hi with | 0, _ => y8_10_0_4_0_0 | i + 1, h => absurd h (by omega)))
theorem s8_10_1_0_0 (hm : mayZ 10 1 0 0 = 1) : SemOp 39 true 10 1 0 0 := sem8 t8_ok hm r_10_1_0_0 (cov_K (l := []) (t := d8_10_1_0_0) (by kernel_rfl)) (all_idx (n := 1) (d := []) (by kernel_rfl) (fun i hi => match i, hi with | 0, _ => y8_10_1_0_0_0 | i + 1, h => absurd h (by omega)))
theorem s8_10_1_1_0 (hm : mayZ 10 1 1 0 = 1) : SemOp 39 true 10 1 1 0 := sem8 t8_ok hm r_10_1_1_0 (cov_K (l := []) (t := d8_10_1_1_0) (by kernel_rfl)) (all_idx (n := 1) (d := []) (by kernel_rfl) (fun i hi => match i, hi with | 0, _ => y8_10_1_1_0_0 | i + 1, h => absurd h (by omega)))
theorem s8_10_1_2_0 (hm : mayZ 10 1 2 0 = 1) : SemOp 39 true 10 1 2 0 := sem8 t8_ok hm r_10_1_2_0 (cov_K (l := []) (t := d8_10_1_2_0) (by kernel_rfl)) (all_idx (n := 1) (d := []) (by kernel_rfl) (fun i hi => match i, hi with | 0, _ => y8_10_1_2_0_0 | i + 1, h => absurd h (by omega)))
theorem s8_10_1_3_0 (hm : mayZ 10 1 3 0 = 1) : SemOp 39 true 10 1 3 0 := sem8 t8_ok hm r_10_1_3_0 (cov_K (l := []) (t := d8_10_1_3_0) (by kernel_rfl)) (all_idx (n := 1) (d := []) (by kernel_rfl) (fun i hi => match i, hi with | 0, _ => y8_10_1_3_0_0 | i + 1, h => absurd h (by omega)))
theorem s8_10_1_4_0 (hm : mayZ 10 1 4 0 = 1) : SemOp 39 true 10 1 4 0 := sem8 t8_ok hm r_10_1_4_0 (cov_K (l := []) (t := d8_10_1_4_0) (by kernel_rfl)) (all_idx (n := 1) (d := []) (by kernel_rfl) (fun i hi => match i, hi with | 0, _ => y8_10_1_4_0_0 | i + 1, h => absurd h (by omega)))
theorem s8_10_2_0_0 (hm : mayZ 10 2 0 0 = 1) : SemOp 39 true 10 2 0 0 := sem8 t8_ok hm r_10_2_0_0 (cov_K (l := []) (t := d8_10_2_0_0) (by kernel_rfl)) (all_idx (n := 1) (d := []) (by kernel_rfl) (fun i hi => match i, hi with | 0, _ => y8_10_2_0_0_0 | i + 1, h => absurd h (by omega)))
theorem s8_10_2_1_0 (hm : mayZ 10 2 1 0 = 1) : SemOp 39 true 10 2 1 0 := sem8 t8_ok hm r_10_2_1_0 (cov_K (l := []) (t := d8_10_2_1_0) (by kernel_rfl)) (all_idx (n := 1) (d := []) (by kernel_rfl) (fun i hi => match i, hi with | 0, _ => y8_10_2_1_0_0 | i + 1, h => absurd h (by omega)))
theorem s8_10_2_2_0 (hm : mayZ 10 2 2 0 = 1) : SemOp 39 true 10 2 2 0 := sem8 t8_ok hm r_10_2_2_0 (cov_K (l := []) (t := d8_10_2_2_0) (by kernel_rfl)) (all_idx (n := 1) (d := []) (by kernel_rfl) (fun i hi => match i, hi with | 0, _ => y8_10_2_2_0_0 | i + 1, h => absurd h (by omega)))
theorem s8_10_2_3_0 (hm : mayZ 10 2 3 0 = 1) : SemOp 39 true 10 2 3 0 := sem8 t8_ok hm r_10_2_3_0 (cov_K (l := [(-1, 1)]) (t := d8_10_2_3_0) (by kernel_rfl)) (all_idx (n := 2) (d := []) (by kernel_rfl) (fun i hi => match i, hi with | 0, _ => y8_10_2_3_0_0 | 1, _ => y8_10_2_3_0_1 | i + 2, h => absurd h (by omega)))
theorem s8_10_2_4_0 (hm : mayZ 10 2 4 0 = 1) : SemOp 39 true 10 2 4 0 := sem8 t8_ok hm r_10_2_4_0 (cov_K (l := [(-1, 1)]) (t := d8_10_2_4_0) (by kernel_rfl)) (all_idx (n := 2) (d := []) (by kernel_rfl) (fun i hi => match i, hi with | 0, _ => y8_10_2_4_0_0 | 1, _ => y8_10_2_4_0_1 | i + 2, h => absurd h (by omega)))
theorem s8_10_3_0_0 (hm : mayZ 10 3 0 0 = 1) : SemOp 39 true 10 3 0 0 := sem8 t8_ok hm r_10_3_0_0 (cov_K (l := [(-1, 1)]) (t := d8_10_3_0_0) (by kernel_rfl)) (all_idx (n := 2) (d := []) (by kernel_rfl) (fun i hi => match i, hi with | 0, _ => y8_10_3_0_0_0 | 1, _ => y8_10_3_0_0_1 | i + 2, h => absurd h (by omega)))
theorem s8_10_3_1_0 (hm : mayZ 10 3 1 0 = 1) : SemOp 39 true 10 3 1 0 := sem8 t8_ok hm r_10_3_1_0 (cov_K (l := [(-1, 1)]) (t := d8_10_3_1_0) (by kernel_rfl)) (all_idx (n := 2) (d := []) (by kernel_rfl) (fun i hi => match i, hi with | 0, _ => y8_10_3_1_0_0 | 1, _ => y8_10_3_1_0_1 | i + 2, h => absurd h (by omega)))
theorem s8_10_3_2_0 (hm : mayZ 10 3 2 0 = 1) : SemOp 39 true 10 3 2 0 := sem8 t8_ok hm r_10_3_2_0 (cov_K (l := [(-1, 1)]) (t := d8_10_3_2_0) (by kernel_rfl)) (all_idx (n := 2) (d := []) (by kernel_rfl) (fun i hi => match i, hi with | 0, _ => y8_10_3_2_0_0 | 1, _ => y8_10_3_2_0_1 | i + 2, h => absurd h (by omega)))
theorem s8_10_3_3_0 (hm : mayZ 10 3 3 0 = 1) : SemOp 39 true 10 3 3 0 := sem8 t8_ok hm r_10_3_3_0 (cov_K (l := [(-1, 1)]) (t := d8_10_3_3_0) (by kernel_rfl)) (all_idx (n := 2) (d := []) (by kernel_rfl) (fun i hi => match i, hi with | 0, _ => y8_10_3_3_0_0 | 1, _ => y8_10_3_3_0_1 | i + 2, h => absurd h (by omega)))
theorem s8_10_3_4_0 (hm : mayZ 10 3 4 0 = 1) : SemOp 39 true 10 3 4 0 := sem8 t8_ok hm r_10_3_4_0 (cov_K (l := [(-1, 1)]) (t := d8_10_3_4_0) (by kernel_rfl)) (all_idx (n := 2) (d := []) (by kernel_rfl) (fun i hi => match i, hi with | 0, _ => y8_10_3_4_0_0 | 1, _ => y8_10_3_4_0_1 | i + 2, h => absurd h (by omega)))
theorem s8_10_4_0_0 (hm : mayZ 10 4 0 0 = 1) : SemOp 39 true 10 4 0 0 := sem8 t8_ok hm r_10_4_0_0 (cov_K (l := [(-1, 1)]) (t := d8_10_4_0_0) (by kernel_rfl)) (all_idx (n := 3) (d := []) (by kernel_rfl) (fun i hi => match i, hi with | 0, _ => y8_10_4_0_0_0 | 1, _ => y8_10_4_0_0_1 | 2, _ => y8_10_4_0_0_2 | i + 3, h => absurd h (by omega)))
theorem s8_10_4_1_0 (hm : mayZ 10 4 1 0 = 1) : SemOp 39 true 10 4 1 0 := sem8 t8_ok hm r_10_4_1_0 (cov_K (l := [(-1, 1)]) (t := d8_10_4_1_0) (by kernel_rfl)) (all_idx (n := 3) (d := []) (by kernel_rfl) (fun i hi => match i, hi with | 0, _ => y8_10_4_1_0_0 | 1, _ => y8_10_4_1_0_1 | 2, _ => y8_10_4_1_0_2 | i + 3, h => absurd h (by omega)))
theorem s8_10_4_2_0 (hm : mayZ 10 4 2 0 = 1) : SemOp 39 true 10 4 2 0 := sem8 t8_ok hm r_10_4_2_0 (cov_K (l := [(-1, 1)]) (t := d8_10_4_2_0) (by kernel_rfl)) (all_idx (n := 3) (d := []) (by kernel_rfl) (fun i hi => match i, hi with | 0, _ => y8_10_4_2_0_0 | 1, _ => y8_10_4_2_0_1 | 2, _ => y8_10_4_2_0_2 | i + 3, h => absurd h (by omega)))
theorem s8_10_4_3_0 (hm : mayZ 10 4 3 0 = 1) : SemOp 39 true 10 4 3 0 := sem8 t8_ok hm r_10_4_3_0 (cov_K (l := [(-1, 1)]) (t := d8_10_4_3_0) (by kernel_rfl)) (all_idx (n := 3) (d := []) (by kernel_rfl) (fun i hi => match i, hi with | 0, _ => y8_10_4_3_0_0 | 1, _ => y8_10_4_3_0_1 | 2, _ => y8_10_4_3_0_2 | i + 3, h => absurd h (by omega)))
theorem s8_10_4_4_0 (hm : mayZ 10 4 4 0 = 1) : SemOp 39 true 10 4 4 0 := sem8 t8_ok hm r_10_4_4_0 (cov_K (l := [(-1, 1)]) (t := d8_10_4_4_0) (by kernel_rfl)) (all_idx (n := 3) (d := []) (by kernel_rfl) (fun i hi => match i, hi with | 0, _ => y8_10_4_4_0_0 | 1, _ => y8_10_4_4_0_1 | 2, _ => y8_10_4_4_0_2 | i + 3, h => absurd h (by omega)))
theorem hsem8 {k a b x : Int} (hm : mayZ k a b x = 1) (h6 : 6 ≤ k) : SemOp 39 true k a b x := by
 have hx := may_x hm
 have hc := combo_mem hm
 have hd : ∀ p ∈ combos, 6 ≤ p.1 → (p.1 = 6 ∧ (p.2.1 = 0 ∨ p.2.1 = 1 ∨ p.2.1 = 2 ∨ p.2.1 = 3 ∨ p.2.1 = 4) ∧ p.2.2 = 0) ∨ ((p.1 = 7 ∨ p.1 = 8) ∧ (p.2.1 = 0 ∨ p.2.1 = 1 ∨ p.2.1 = 2 ∨ p.2.1 = 3 ∨ p.2.1 = 4) ∧ p.2.2 = 0) ∨ (p.1 = 9 ∧ p.2.1 = 0 ∧ p.2.2 = 0) ∨ (p.1 = 10 ∧ (p.2.1 = 0 ∨ p.2.1 = 1 ∨ p.2.1 = 2 ∨ p.2.1 = 3 ∨ p.2.1 = 4) ∧ (p.2.2 = 0 ∨ p.2.2 = 1 ∨ p.2.2 = 2 ∨ p.2.2 = 3 ∨ p.2.2 = 4)) := by
  have e : (combos.all fun p => decide (6 ≤ p.1 → (p.1 = 6 ∧ (p.2.1 = 0 ∨ p.2.1 = 1 ∨ p.2.1 = 2 ∨ p.2.1 = 3 ∨ p.2.1 = 4) ∧ p.2.2 = 0) ∨ ((p.1 = 7 ∨ p.1 = 8) ∧ (p.2.1 = 0 ∨ p.2.1 = 1 ∨ p.2.1 = 2 ∨ p.2.1 = 3 ∨ p.2.1 = 4) ∧ p.2.2 = 0) ∨ (p.1 = 9 ∧ p.2.1 = 0 ∧ p.2.2 = 0) ∨ (p.1 = 10 ∧ (p.2.1 = 0 ∨ p.2.1 = 1 ∨ p.2.1 = 2 ∨ p.2.1 = 3 ∨ p.2.1 = 4) ∧ (p.2.2 = 0 ∨ p.2.2 = 1 ∨ p.2.2 = 2 ∨ p.2.2 = 3 ∨ p.2.2 = 4)))) = true := by kernel_rfl
  intro p hp
  exact of_decide_eq_true (List.all_eq_true.1 e p hp)
 have hd := hd _ hc h6
 unfold limX at hx
 rcases hd with ⟨rfl, ha, rfl⟩ | ⟨rfl | rfl, ha, rfl⟩ | ⟨rfl, rfl, rfl⟩ | ⟨rfl, ha, hb⟩
 ·have hx : x = 0 ∨ x = 1 := by rw [if_neg (by omega), if_pos rfl] at hx; omega
  rcases ha with rfl | rfl | rfl | rfl | rfl <;> rcases hx with rfl | rfl
  ·exact s8_6_0_0_0 hm
  ·exact s8_6_0_0_1 hm
  ·exact s8_6_1_0_0 hm
  ·exact s8_6_1_0_1 hm
  ·exact s8_6_2_0_0 hm
  ·exact s8_6_2_0_1 hm
  ·exact s8_6_3_0_0 hm
  ·exact s8_6_3_0_1 hm
  ·exact s8_6_4_0_0 hm
  ·exact s8_6_4_0_1 hm
 ·obtain rfl : x = 0 := by rw [if_neg (by omega), if_neg (by omega)] at hx; omega
  rcases ha with rfl | rfl | rfl | rfl | rfl
  ·exact s8_7_0_0_0 hm
  ·exact s8_7_1_0_0 hm
  ·exact s8_7_2_0_0 hm
  ·exact s8_7_3_0_0 hm
  ·exact s8_7_4_0_0 hm
 ·obtain rfl : x = 0 := by rw [if_neg (by omega), if_neg (by omega)] at hx; omega
  rcases ha with rfl | rfl | rfl | rfl | rfl
  ·exact s8_8_0_0_0 hm
  ·exact s8_8_1_0_0 hm
  ·exact s8_8_2_0_0 hm
  ·exact s8_8_3_0_0 hm
  ·exact s8_8_4_0_0 hm
 ·obtain rfl : x = 0 := by rw [if_neg (by omega), if_neg (by omega)] at hx; omega
  exact s8_9_0_0_0 hm
 ·obtain rfl : x = 0 := by rw [if_neg (by omega), if_neg (by omega)] at hx; omega
  rcases ha with rfl | rfl | rfl | rfl | rfl <;> rcases hb with rfl | rfl | rfl | rfl | rfl
  ·exact s8_10_0_0_0 hm
  ·exact s8_10_0_1_0 hm
  ·exact s8_10_0_2_0 hm
  ·exact s8_10_0_3_0 hm
  ·exact s8_10_0_4_0 hm
  ·exact s8_10_1_0_0 hm
  ·exact s8_10_1_1_0 hm
  ·exact s8_10_1_2_0 hm
  ·exact s8_10_1_3_0 hm
  ·exact s8_10_1_4_0 hm
  ·exact s8_10_2_0_0 hm
  ·exact s8_10_2_1_0 hm
  ·exact s8_10_2_2_0 hm
  ·exact s8_10_2_3_0 hm
  ·exact s8_10_2_4_0 hm
  ·exact s8_10_3_0_0 hm
  ·exact s8_10_3_1_0 hm
  ·exact s8_10_3_2_0 hm
  ·exact s8_10_3_3_0 hm
  ·exact s8_10_3_4_0 hm
  ·exact s8_10_4_0_0 hm
  ·exact s8_10_4_1_0 hm
  ·exact s8_10_4_2_0 hm
  ·exact s8_10_4_3_0 hm
  ·exact s8_10_4_4_0 hm
end Go.Proofs.Ytojpmbkbeoolcaa.K
