/- The law SkipNeeds: for every input the call returns true, and each argument reads afterwards as it read before; no condition. -/
import Derived.Test.YtdngeccbmalbnaaYL
import Derived.Test.YtdngeccbmalbnaaNa
import Derived.Test.YtdngeccbmalbnaaNb
import Derived.Test.YtdngeccbmalbnaaNc
import Derived.Test.YtdngeccbmalbnaaNd
import Derived.Test.YtdngeccbmalbnaaNe
import Derived.Test.YtdngeccbmalbnaaNf
import Derived.Test.YtdngeccbmalbnaaNg
import Derived.Test.YtdngeccbmalbnaaNh
import Derived.Test.YtdngeccbmalbnaaNi
import Derived.Test.YtdngeccbmalbnaaNj
namespace Go.Proofs.Ytdngeccbmalbnaa
open Go.Sx Go Go.ChangeShapes Go.WideShapes Go.ChangeAt Go.RowKit Go.Deep
set_option maxRecDepth 100000
theorem nl_6_0_0_0 : LxOk G0 Try.prog (4, 0, loopU 6 0 0 0) := loopU_ok s8_6_0_0_0 (cov_T (l := []) (t := dn_6_0_0_0) (by kernel_rfl)) (all_idx (n := 1) (d := []) (by kernel_rfl) (fun i hi => match i, hi with | 0, _ => n_6_0_0_0_0 | i + 1, h => absurd h (by omega)))
theorem nl_6_0_0_1 : LxOk G0 Try.prog (4, 0, loopU 6 0 0 1) := loopU_ok s8_6_0_0_1 (cov_T (l := []) (t := dn_6_0_0_1) (by kernel_rfl)) (all_idx (n := 1) (d := []) (by kernel_rfl) (fun i hi => match i, hi with | 0, _ => n_6_0_0_1_0 | i + 1, h => absurd h (by omega)))
theorem nl_6_1_0_0 : LxOk G0 Try.prog (4, 0, loopU 6 1 0 0) := loopU_ok s8_6_1_0_0 (cov_T (l := []) (t := dn_6_1_0_0) (by kernel_rfl)) (all_idx (n := 1) (d := []) (by kernel_rfl) (fun i hi => match i, hi with | 0, _ => n_6_1_0_0_0 | i + 1, h => absurd h (by omega)))
theorem nl_6_1_0_1 : LxOk G0 Try.prog (4, 0, loopU 6 1 0 1) := loopU_ok s8_6_1_0_1 (cov_T (l := []) (t := dn_6_1_0_1) (by kernel_rfl)) (all_idx (n := 1) (d := []) (by kernel_rfl) (fun i hi => match i, hi with | 0, _ => n_6_1_0_1_0 | i + 1, h => absurd h (by omega)))
theorem nl_6_2_0_0 : LxOk G0 Try.prog (4, 0, loopU 6 2 0 0) := loopU_ok s8_6_2_0_0 (cov_T (l := []) (t := dn_6_2_0_0) (by kernel_rfl)) (all_idx (n := 1) (d := []) (by kernel_rfl) (fun i hi => match i, hi with | 0, _ => n_6_2_0_0_0 | i + 1, h => absurd h (by omega)))
theorem nl_6_2_0_1 : LxOk G0 Try.prog (4, 0, loopU 6 2 0 1) := loopU_ok s8_6_2_0_1 (cov_T (l := []) (t := dn_6_2_0_1) (by kernel_rfl)) (all_idx (n := 1) (d := []) (by kernel_rfl) (fun i hi => match i, hi with | 0, _ => n_6_2_0_1_0 | i + 1, h => absurd h (by omega)))
theorem nl_6_3_0_0 : LxOk G0 Try.prog (4, 0, loopU 6 3 0 0) := loopU_ok s8_6_3_0_0 (cov_T (l := [(-1, 1)]) (t := dn_6_3_0_0) (by kernel_rfl)) (all_idx (n := 3) (d := []) (by kernel_rfl) (fun i hi => match i, hi with | 0, _ => n_6_3_0_0_0 | 1, _ => n_6_3_0_0_1 | 2, _ => n_6_3_0_0_2 | i + 3, h => absurd h (by omega)))
theorem nl_6_3_0_1 : LxOk G0 Try.prog (4, 0, loopU 6 3 0 1) := loopU_ok s8_6_3_0_1 (cov_T (l := [(-1, 1)]) (t := dn_6_3_0_1) (by kernel_rfl)) (all_idx (n := 3) (d := []) (by kernel_rfl) (fun i hi => match i, hi with | 0, _ => n_6_3_0_1_0 | 1, _ => n_6_3_0_1_1 | 2, _ => n_6_3_0_1_2 | i + 3, h => absurd h (by omega)))
theorem nl_6_4_0_0 : LxOk G0 Try.prog (4, 0, loopU 6 4 0 0) := loopU_ok s8_6_4_0_0 (cov_T (l := [(-1, 1), (-1, 0), (0, 1)]) (t := dn_6_4_0_0) (by kernel_rfl)) (all_idx (n := 7) (d := []) (by kernel_rfl) (fun i hi => match i, hi with | 0, _ => n_6_4_0_0_0 | 1, _ => n_6_4_0_0_1 | 2, _ => n_6_4_0_0_2 | 3, _ => n_6_4_0_0_3 | 4, _ => n_6_4_0_0_4 | 5, _ => n_6_4_0_0_5 | 6, _ => n_6_4_0_0_6 | i + 7, h => absurd h (by omega)))
theorem nl_6_4_0_1 : LxOk G0 Try.prog (4, 0, loopU 6 4 0 1) := loopU_ok s8_6_4_0_1 (cov_T (l := [(-1, 1), (-1, 0), (0, 1)]) (t := dn_6_4_0_1) (by kernel_rfl)) (all_idx (n := 7) (d := []) (by kernel_rfl) (fun i hi => match i, hi with | 0, _ => n_6_4_0_1_0 | 1, _ => n_6_4_0_1_1 | 2, _ => n_6_4_0_1_2 | 3, _ => n_6_4_0_1_3 | 4, _ => n_6_4_0_1_4 | 5, _ => n_6_4_0_1_5 | 6, _ => n_6_4_0_1_6 | i + 7, h => absurd h (by omega)))
theorem nl_7_0_0_0 : LxOk G0 Try.prog (4, 0, loopU 7 0 0 0) := loopU_ok s8_7_0_0_0 (cov_T (l := []) (t := dn_7_0_0_0) (by kernel_rfl)) (all_idx (n := 1) (d := []) (by kernel_rfl) (fun i hi => match i, hi with | 0, _ => n_7_0_0_0_0 | i + 1, h => absurd h (by omega)))
theorem nl_7_1_0_0 : LxOk G0 Try.prog (4, 0, loopU 7 1 0 0) := loopU_ok s8_7_1_0_0 (cov_T (l := []) (t := dn_7_1_0_0) (by kernel_rfl)) (all_idx (n := 1) (d := []) (by kernel_rfl) (fun i hi => match i, hi with | 0, _ => n_7_1_0_0_0 | i + 1, h => absurd h (by omega)))
theorem nl_7_2_0_0 : LxOk G0 Try.prog (4, 0, loopU 7 2 0 0) := loopU_ok s8_7_2_0_0 (cov_T (l := []) (t := dn_7_2_0_0) (by kernel_rfl)) (all_idx (n := 1) (d := []) (by kernel_rfl) (fun i hi => match i, hi with | 0, _ => n_7_2_0_0_0 | i + 1, h => absurd h (by omega)))
theorem nl_7_3_0_0 : LxOk G0 Try.prog (4, 0, loopU 7 3 0 0) := loopU_ok s8_7_3_0_0 (cov_T (l := [(-1, 1)]) (t := dn_7_3_0_0) (by kernel_rfl)) (all_idx (n := 3) (d := []) (by kernel_rfl) (fun i hi => match i, hi with | 0, _ => n_7_3_0_0_0 | 1, _ => n_7_3_0_0_1 | 2, _ => n_7_3_0_0_2 | i + 3, h => absurd h (by omega)))
theorem nl_7_4_0_0 : LxOk G0 Try.prog (4, 0, loopU 7 4 0 0) := loopU_ok s8_7_4_0_0 (cov_T (l := [(-1, 1), (-1, 0), (0, 1)]) (t := dn_7_4_0_0) (by kernel_rfl)) (all_idx (n := 7) (d := []) (by kernel_rfl) (fun i hi => match i, hi with | 0, _ => n_7_4_0_0_0 | 1, _ => n_7_4_0_0_1 | 2, _ => n_7_4_0_0_2 | 3, _ => n_7_4_0_0_3 | 4, _ => n_7_4_0_0_4 | 5, _ => n_7_4_0_0_5 | 6, _ => n_7_4_0_0_6 | i + 7, h => absurd h (by omega)))
theorem nl_8_0_0_0 : LxOk G0 Try.prog (4, 0, loopU 8 0 0 0) := loopU_ok s8_8_0_0_0 (cov_T (l := []) (t := dn_8_0_0_0) (by kernel_rfl)) (all_idx (n := 1) (d := []) (by kernel_rfl) (fun i hi => match i, hi with | 0, _ => n_8_0_0_0_0 | i + 1, h => absurd h (by omega)))
theorem nl_8_1_0_0 : LxOk G0 Try.prog (4, 0, loopU 8 1 0 0) := loopU_ok s8_8_1_0_0 (cov_T (l := []) (t := dn_8_1_0_0) (by kernel_rfl)) (all_idx (n := 1) (d := []) (by kernel_rfl) (fun i hi => match i, hi with | 0, _ => n_8_1_0_0_0 | i + 1, h => absurd h (by omega)))
theorem nl_8_2_0_0 : LxOk G0 Try.prog (4, 0, loopU 8 2 0 0) := loopU_ok s8_8_2_0_0 (cov_T (l := []) (t := dn_8_2_0_0) (by kernel_rfl)) (all_idx (n := 1) (d := []) (by kernel_rfl) (fun i hi => match i, hi with | 0, _ => n_8_2_0_0_0 | i + 1, h => absurd h (by omega)))
theorem nl_8_3_0_0 : LxOk G0 Try.prog (4, 0, loopU 8 3 0 0) := loopU_ok s8_8_3_0_0 (cov_T (l := []) (t := dn_8_3_0_0) (by kernel_rfl)) (all_idx (n := 1) (d := []) (by kernel_rfl) (fun i hi => match i, hi with | 0, _ => n_8_3_0_0_0 | i + 1, h => absurd h (by omega)))
theorem nl_8_4_0_0 : LxOk G0 Try.prog (4, 0, loopU 8 4 0 0) := loopU_ok s8_8_4_0_0 (cov_T (l := []) (t := dn_8_4_0_0) (by kernel_rfl)) (all_idx (n := 1) (d := []) (by kernel_rfl) (fun i hi => match i, hi with | 0, _ => n_8_4_0_0_0 | i + 1, h => absurd h (by omega)))
theorem nl_9_0_0_0 : LxOk G0 Try.prog (4, 0, loopU 9 0 0 0) := loopU_ok s8_9_0_0_0 (cov_T (l := []) (t := dn_9_0_0_0) (by kernel_rfl)) (all_idx (n := 1) (d := []) (by kernel_rfl) (fun i hi => match i, hi with | 0, _ => n_9_0_0_0_0 | i + 1, h => absurd h (by omega)))
theorem nl_10_0_0_0 : LxOk G0 Try.prog (4, 0, loopU 10 0 0 0) := loopU_ok s8_10_0_0_0 (cov_T (l := []) (t := dn_10_0_0_0) (by kernel_rfl)) (all_idx (n := 1) (d := []) (by kernel_rfl) (fun i hi => match i, hi with | 0, _ => n_10_0_0_0_0 | i + 1, h => absurd h (by omega)))
theorem nl_10_0_1_0 : LxOk G0 Try.prog (4, 0, loopU 10 0 1 0) := loopU_ok s8_10_0_1_0 (cov_T (l := []) (t := dn_10_0_1_0) (by kernel_rfl)) (all_idx (n := 1) (d := []) (by kernel_rfl) (fun i hi => match i, hi with | 0, _ => n_10_0_1_0_0 | i + 1, h => absurd h (by omega)))
theorem nl_10_0_2_0 : LxOk G0 Try.prog (4, 0, loopU 10 0 2 0) := loopU_ok s8_10_0_2_0 (cov_T (l := []) (t := dn_10_0_2_0) (by kernel_rfl)) (all_idx (n := 1) (d := []) (by kernel_rfl) (fun i hi => match i, hi with | 0, _ => n_10_0_2_0_0 | i + 1, h => absurd h (by omega)))
theorem nl_10_0_3_0 : LxOk G0 Try.prog (4, 0, loopU 10 0 3 0) := loopU_ok s8_10_0_3_0 (cov_T (l := []) (t := dn_10_0_3_0) (by kernel_rfl)) (all_idx (n := 1) (d := []) (by kernel_rfl) (fun i hi => match i, hi with | 0, _ => n_10_0_3_0_0 | i + 1, h => absurd h (by omega)))
theorem nl_10_0_4_0 : LxOk G0 Try.prog (4, 0, loopU 10 0 4 0) := loopU_ok s8_10_0_4_0 (cov_T (l := []) (t := dn_10_0_4_0) (by kernel_rfl)) (all_idx (n := 1) (d := []) (by kernel_rfl) (fun i hi => match i, hi with | 0, _ => n_10_0_4_0_0 | i + 1, h => absurd h (by omega)))
theorem nl_10_1_0_0 : LxOk G0 Try.prog (4, 0, loopU 10 1 0 0) := loopU_ok s8_10_1_0_0 (cov_T (l := []) (t := dn_10_1_0_0) (by kernel_rfl)) (all_idx (n := 1) (d := []) (by kernel_rfl) (fun i hi => match i, hi with | 0, _ => n_10_1_0_0_0 | i + 1, h => absurd h (by omega)))
theorem nl_10_1_1_0 : LxOk G0 Try.prog (4, 0, loopU 10 1 1 0) := loopU_ok s8_10_1_1_0 (cov_T (l := []) (t := dn_10_1_1_0) (by kernel_rfl)) (all_idx (n := 1) (d := []) (by kernel_rfl) (fun i hi => match i, hi with | 0, _ => n_10_1_1_0_0 | i + 1, h => absurd h (by omega)))
theorem nl_10_1_2_0 : LxOk G0 Try.prog (4, 0, loopU 10 1 2 0) := loopU_ok s8_10_1_2_0 (cov_T (l := []) (t := dn_10_1_2_0) (by kernel_rfl)) (all_idx (n := 1) (d := []) (by kernel_rfl) (fun i hi => match i, hi with | 0, _ => n_10_1_2_0_0 | i + 1, h => absurd h (by omega)))
theorem nl_10_1_3_0 : LxOk G0 Try.prog (4, 0, loopU 10 1 3 0) := loopU_ok s8_10_1_3_0 (cov_T (l := []) (t := dn_10_1_3_0) (by kernel_rfl)) (all_idx (n := 1) (d := []) (by kernel_rfl) (fun i hi => match i, hi with | 0, _ => n_10_1_3_0_0 | i + 1, h => absurd h (by omega)))
theorem nl_10_1_4_0 : LxOk G0 Try.prog (4, 0, loopU 10 1 4 0) := loopU_ok s8_10_1_4_0 (cov_T (l := []) (t := dn_10_1_4_0) (by kernel_rfl)) (all_idx (n := 1) (d := []) (by kernel_rfl) (fun i hi => match i, hi with | 0, _ => n_10_1_4_0_0 | i + 1, h => absurd h (by omega)))
theorem nl_10_2_0_0 : LxOk G0 Try.prog (4, 0, loopU 10 2 0 0) := loopU_ok s8_10_2_0_0 (cov_T (l := []) (t := dn_10_2_0_0) (by kernel_rfl)) (all_idx (n := 1) (d := []) (by kernel_rfl) (fun i hi => match i, hi with | 0, _ => n_10_2_0_0_0 | i + 1, h => absurd h (by omega)))
theorem nl_10_2_1_0 : LxOk G0 Try.prog (4, 0, loopU 10 2 1 0) := loopU_ok s8_10_2_1_0 (cov_T (l := []) (t := dn_10_2_1_0) (by kernel_rfl)) (all_idx (n := 1) (d := []) (by kernel_rfl) (fun i hi => match i, hi with | 0, _ => n_10_2_1_0_0 | i + 1, h => absurd h (by omega)))
theorem nl_10_2_2_0 : LxOk G0 Try.prog (4, 0, loopU 10 2 2 0) := loopU_ok s8_10_2_2_0 (cov_T (l := []) (t := dn_10_2_2_0) (by kernel_rfl)) (all_idx (n := 1) (d := []) (by kernel_rfl) (fun i hi => match i, hi with | 0, _ => n_10_2_2_0_0 | i + 1, h => absurd h (by omega)))
theorem nl_10_2_3_0 : LxOk G0 Try.prog (4, 0, loopU 10 2 3 0) := loopU_ok s8_10_2_3_0 (cov_T (l := []) (t := dn_10_2_3_0) (by kernel_rfl)) (all_idx (n := 1) (d := []) (by kernel_rfl) (fun i hi => match i, hi with | 0, _ => n_10_2_3_0_0 | i + 1, h => absurd h (by omega)))
theorem nl_10_2_4_0 : LxOk G0 Try.prog (4, 0, loopU 10 2 4 0) := loopU_ok s8_10_2_4_0 (cov_T (l := []) (t := dn_10_2_4_0) (by kernel_rfl)) (all_idx (n := 1) (d := []) (by kernel_rfl) (fun i hi => match i, hi with | 0, _ => n_10_2_4_0_0 | i + 1, h => absurd h (by omega)))
theorem nl_10_3_0_0 : LxOk G0 Try.prog (4, 0, loopU 10 3 0 0) := loopU_ok s8_10_3_0_0 (cov_T (l := []) (t := dn_10_3_0_0) (by kernel_rfl)) (all_idx (n := 1) (d := []) (by kernel_rfl) (fun i hi => match i, hi with | 0, _ => n_10_3_0_0_0 | i + 1, h => absurd h (by omega)))
theorem nl_10_3_1_0 : LxOk G0 Try.prog (4, 0, loopU 10 3 1 0) := loopU_ok s8_10_3_1_0 (cov_T (l := []) (t := dn_10_3_1_0) (by kernel_rfl)) (all_idx (n := 1) (d := []) (by kernel_rfl) (fun i hi => match i, hi with | 0, _ => n_10_3_1_0_0 | i + 1, h => absurd h (by omega)))
theorem nl_10_3_2_0 : LxOk G0 Try.prog (4, 0, loopU 10 3 2 0) := loopU_ok s8_10_3_2_0 (cov_T (l := []) (t := dn_10_3_2_0) (by kernel_rfl)) (all_idx (n := 1) (d := []) (by kernel_rfl) (fun i hi => match i, hi with | 0, _ => n_10_3_2_0_0 | i + 1, h => absurd h (by omega)))
theorem nl_10_3_3_0 : LxOk G0 Try.prog (4, 0, loopU 10 3 3 0) := loopU_ok s8_10_3_3_0 (cov_T (l := []) (t := dn_10_3_3_0) (by kernel_rfl)) (all_idx (n := 1) (d := []) (by kernel_rfl) (fun i hi => match i, hi with | 0, _ => n_10_3_3_0_0 | i + 1, h => absurd h (by omega)))
theorem nl_10_3_4_0 : LxOk G0 Try.prog (4, 0, loopU 10 3 4 0) := loopU_ok s8_10_3_4_0 (cov_T (l := []) (t := dn_10_3_4_0) (by kernel_rfl)) (all_idx (n := 1) (d := []) (by kernel_rfl) (fun i hi => match i, hi with | 0, _ => n_10_3_4_0_0 | i + 1, h => absurd h (by omega)))
theorem nl_10_4_0_0 : LxOk G0 Try.prog (4, 0, loopU 10 4 0 0) := loopU_ok s8_10_4_0_0 (cov_T (l := []) (t := dn_10_4_0_0) (by kernel_rfl)) (all_idx (n := 1) (d := []) (by kernel_rfl) (fun i hi => match i, hi with | 0, _ => n_10_4_0_0_0 | i + 1, h => absurd h (by omega)))
theorem nl_10_4_1_0 : LxOk G0 Try.prog (4, 0, loopU 10 4 1 0) := loopU_ok s8_10_4_1_0 (cov_T (l := []) (t := dn_10_4_1_0) (by kernel_rfl)) (all_idx (n := 1) (d := []) (by kernel_rfl) (fun i hi => match i, hi with | 0, _ => n_10_4_1_0_0 | i + 1, h => absurd h (by omega)))
theorem nl_10_4_2_0 : LxOk G0 Try.prog (4, 0, loopU 10 4 2 0) := loopU_ok s8_10_4_2_0 (cov_T (l := []) (t := dn_10_4_2_0) (by kernel_rfl)) (all_idx (n := 1) (d := []) (by kernel_rfl) (fun i hi => match i, hi with | 0, _ => n_10_4_2_0_0 | i + 1, h => absurd h (by omega)))
theorem nl_10_4_3_0 : LxOk G0 Try.prog (4, 0, loopU 10 4 3 0) := loopU_ok s8_10_4_3_0 (cov_T (l := []) (t := dn_10_4_3_0) (by kernel_rfl)) (all_idx (n := 1) (d := []) (by kernel_rfl) (fun i hi => match i, hi with | 0, _ => n_10_4_3_0_0 | i + 1, h => absurd h (by omega)))
theorem nl_10_4_4_0 : LxOk G0 Try.prog (4, 0, loopU 10 4 4 0) := loopU_ok s8_10_4_4_0 (cov_T (l := []) (t := dn_10_4_4_0) (by kernel_rfl)) (all_idx (n := 1) (d := []) (by kernel_rfl) (fun i hi => match i, hi with | 0, _ => n_10_4_4_0_0 | i + 1, h => absurd h (by omega)))
theorem useN_s {k a b x : Int} (h : okUs k a b x = true) (h8 : SpecOk G0 Try.prog 8 (yX (form8 k a b x))) (hl : LxOk G0 Try.prog (4, 0, loopU k a b x)) {w : World} {cs : List Value} {y : Int} (hc : IsView cs) (hm : AllMay cs) (hk : in64 k) (ha : in64 a) (hb : in64 b) (hx : in64 x) (hy : in64 y) : Calls Try.prog 4 #[.agg cs.toArray, opVal k a b x, .int .i64 y] w fun r w' => r = .returned (.bool true) ∧ Below w.heap.size w w' := by
  unfold okUs at h
  exact run_v1 (runU_ok h8 hl) h hc hk ha hb hx hy rfl (facts_A hm fun _ h => by cases h) (fun _ h => by cases h)
theorem useN_i {oa : SV} {fs : List Fact} (h : okUi oa fs = true) {w : World} {cs : List Value} {k a b x y : Int} (hc : IsView cs) (hm : AllMay cs) (hk : in64 k) (ha : in64 a) (hb : in64 b) (hx : in64 x) (hy : in64 y) (ho : dv (envV w cs (opInts1 k a b x y)) oa = opVal k a b x) (hf : ∀ f ∈ fs, FactOk (envV w cs (opInts1 k a b x y)) f) : Calls Try.prog 4 #[.agg cs.toArray, opVal k a b x, .int .i64 y] w fun r w' => r = .returned (.bool true) ∧ Below w.heap.size w w' := by
  unfold okUi at h
  exact run_v1 (fun2_ok 4) h hc hk ha hb hx hy ho (facts_A hm hf) (fun _ h => by cases h)
theorem useN_b {oa : SV} {fs : List Fact} (h : okUb oa fs = true) {w : World} {cs : List Value} {k a b x y : Int} (hc : IsView cs) (hn : ¬ AllMay cs) (hk : in64 k) (ha : in64 a) (hb : in64 b) (hx : in64 x) (hy : in64 y) (ho : dv (envV w cs (opInts1 k a b x y)) oa = opVal k a b x) (hf : ∀ f ∈ fs, FactOk (envV w cs (opInts1 k a b x y)) f) : Calls Try.prog 4 #[.agg cs.toArray, opVal k a b x, .int .i64 y] w fun r w' => r = .returned (.bool true) ∧ Below w.heap.size w w' := by
  unfold okUb at h
  exact run_B1 (fun2_ok 4) h hc hn hk ha hb hx hy ho hf
theorem needs_A {w : World} {cs : List Value} (hc : IsView cs) (hm : AllMay cs) {k a b x y : Int} (hk : in64 k) (ha : in64 a) (hb : in64 b) (hx : in64 x) (hy : in64 y) : Calls Try.prog 4 #[.agg cs.toArray, opVal k a b x, .int .i64 y] w fun r w' => r = .returned (.bool true) ∧ Below w.heap.size w w' := by
  have one : ∀ {e : IE} {lo hi : Int}, lo ≤ ev (envV w cs (opInts1 k a b x y)) e → ev (envV w cs (opInts1 k a b x y)) e ≤ hi → ∀ f ∈ [((e, lo, hi) : Fact)], FactOk (envV w cs (opInts1 k a b x y)) f := fun h1 h2 f hf => by
    rcases List.mem_singleton.1 hf with rfl
    exact ⟨h1, h2⟩
  have k1 := hk.1
  have k2 := hk.2
  have a1 := ha.1
  have a2 := ha.2
  have b1 := hb.1
  have b2 := hb.2
  have x1 := hx.1
  have x2 := hx.2
  rcases (by omega : k ≤ 5 ∨ 11 ≤ k ∨ k = 6 ∨ k = 7 ∨ k = 8 ∨ k = 9 ∨ k = 10) with h | h | rfl | rfl | rfl | rfl | rfl
  · exact useN_i ni_lo hc hm hk ha hb hx hy rfl (one k1 h)
  · exact useN_i ni_hi hc hm hk ha hb hx hy rfl (one h k2)
  · rcases (by omega : a ≤ -1 ∨ 5 ≤ a ∨ b ≤ -1 ∨ 1 ≤ b ∨ x ≤ -1 ∨ 2 ≤ x ∨ ((a = 0 ∨ a = 1 ∨ a = 2 ∨ a = 3 ∨ a = 4) ∧ (b = 0) ∧ (x = 0 ∨ x = 1))) with h | h | h | h | h | h | ⟨ha', hb', hx'⟩
    · exact useN_i ni_6_11_lo hc hm hk ha hb hx hy rfl (one a1 h)
    · exact useN_i ni_6_11_hi hc hm hk ha hb hx hy rfl (one h a2)
    · exact useN_i ni_6_12_lo hc hm hk ha hb hx hy rfl (one b1 h)
    · exact useN_i ni_6_12_hi hc hm hk ha hb hx hy rfl (one h b2)
    · exact useN_i ni_6_13_lo hc hm hk ha hb hx hy rfl (one x1 h)
    · exact useN_i ni_6_13_hi hc hm hk ha hb hx hy rfl (one h x2)
    · rcases ha' with rfl | rfl | rfl | rfl | rfl <;> rcases hb' with rfl <;> rcases hx' with rfl | rfl
      · exact useN_s ns_6_0_0_0 s8_6_0_0_0 nl_6_0_0_0 hc hm hk ha hb hx hy
      · exact useN_s ns_6_0_0_1 s8_6_0_0_1 nl_6_0_0_1 hc hm hk ha hb hx hy
      · exact useN_s ns_6_1_0_0 s8_6_1_0_0 nl_6_1_0_0 hc hm hk ha hb hx hy
      · exact useN_s ns_6_1_0_1 s8_6_1_0_1 nl_6_1_0_1 hc hm hk ha hb hx hy
      · exact useN_s ns_6_2_0_0 s8_6_2_0_0 nl_6_2_0_0 hc hm hk ha hb hx hy
      · exact useN_s ns_6_2_0_1 s8_6_2_0_1 nl_6_2_0_1 hc hm hk ha hb hx hy
      · exact useN_s ns_6_3_0_0 s8_6_3_0_0 nl_6_3_0_0 hc hm hk ha hb hx hy
      · exact useN_s ns_6_3_0_1 s8_6_3_0_1 nl_6_3_0_1 hc hm hk ha hb hx hy
      · exact useN_s ns_6_4_0_0 s8_6_4_0_0 nl_6_4_0_0 hc hm hk ha hb hx hy
      · exact useN_s ns_6_4_0_1 s8_6_4_0_1 nl_6_4_0_1 hc hm hk ha hb hx hy
  · rcases (by omega : a ≤ -1 ∨ 5 ≤ a ∨ b ≤ -1 ∨ 1 ≤ b ∨ x ≤ -1 ∨ 1 ≤ x ∨ ((a = 0 ∨ a = 1 ∨ a = 2 ∨ a = 3 ∨ a = 4) ∧ (b = 0) ∧ (x = 0))) with h | h | h | h | h | h | ⟨ha', hb', hx'⟩
    · exact useN_i ni_7_11_lo hc hm hk ha hb hx hy rfl (one a1 h)
    · exact useN_i ni_7_11_hi hc hm hk ha hb hx hy rfl (one h a2)
    · exact useN_i ni_7_12_lo hc hm hk ha hb hx hy rfl (one b1 h)
    · exact useN_i ni_7_12_hi hc hm hk ha hb hx hy rfl (one h b2)
    · exact useN_i ni_7_13_lo hc hm hk ha hb hx hy rfl (one x1 h)
    · exact useN_i ni_7_13_hi hc hm hk ha hb hx hy rfl (one h x2)
    · rcases ha' with rfl | rfl | rfl | rfl | rfl <;> rcases hb' with rfl <;> rcases hx' with rfl
      · exact useN_s ns_7_0_0_0 s8_7_0_0_0 nl_7_0_0_0 hc hm hk ha hb hx hy
      · exact useN_s ns_7_1_0_0 s8_7_1_0_0 nl_7_1_0_0 hc hm hk ha hb hx hy
      · exact useN_s ns_7_2_0_0 s8_7_2_0_0 nl_7_2_0_0 hc hm hk ha hb hx hy
      · exact useN_s ns_7_3_0_0 s8_7_3_0_0 nl_7_3_0_0 hc hm hk ha hb hx hy
      · exact useN_s ns_7_4_0_0 s8_7_4_0_0 nl_7_4_0_0 hc hm hk ha hb hx hy
  · rcases (by omega : a ≤ -1 ∨ 5 ≤ a ∨ b ≤ -1 ∨ 1 ≤ b ∨ x ≤ -1 ∨ 1 ≤ x ∨ ((a = 0 ∨ a = 1 ∨ a = 2 ∨ a = 3 ∨ a = 4) ∧ (b = 0) ∧ (x = 0))) with h | h | h | h | h | h | ⟨ha', hb', hx'⟩
    · exact useN_i ni_8_11_lo hc hm hk ha hb hx hy rfl (one a1 h)
    · exact useN_i ni_8_11_hi hc hm hk ha hb hx hy rfl (one h a2)
    · exact useN_i ni_8_12_lo hc hm hk ha hb hx hy rfl (one b1 h)
    · exact useN_i ni_8_12_hi hc hm hk ha hb hx hy rfl (one h b2)
    · exact useN_i ni_8_13_lo hc hm hk ha hb hx hy rfl (one x1 h)
    · exact useN_i ni_8_13_hi hc hm hk ha hb hx hy rfl (one h x2)
    · rcases ha' with rfl | rfl | rfl | rfl | rfl <;> rcases hb' with rfl <;> rcases hx' with rfl
      · exact useN_s ns_8_0_0_0 s8_8_0_0_0 nl_8_0_0_0 hc hm hk ha hb hx hy
      · exact useN_s ns_8_1_0_0 s8_8_1_0_0 nl_8_1_0_0 hc hm hk ha hb hx hy
      · exact useN_s ns_8_2_0_0 s8_8_2_0_0 nl_8_2_0_0 hc hm hk ha hb hx hy
      · exact useN_s ns_8_3_0_0 s8_8_3_0_0 nl_8_3_0_0 hc hm hk ha hb hx hy
      · exact useN_s ns_8_4_0_0 s8_8_4_0_0 nl_8_4_0_0 hc hm hk ha hb hx hy
  · rcases (by omega : a ≤ -1 ∨ 1 ≤ a ∨ b ≤ -1 ∨ 1 ≤ b ∨ x ≤ -1 ∨ 1 ≤ x ∨ ((a = 0) ∧ (b = 0) ∧ (x = 0))) with h | h | h | h | h | h | ⟨ha', hb', hx'⟩
    · exact useN_i ni_9_11_lo hc hm hk ha hb hx hy rfl (one a1 h)
    · exact useN_i ni_9_11_hi hc hm hk ha hb hx hy rfl (one h a2)
    · exact useN_i ni_9_12_lo hc hm hk ha hb hx hy rfl (one b1 h)
    · exact useN_i ni_9_12_hi hc hm hk ha hb hx hy rfl (one h b2)
    · exact useN_i ni_9_13_lo hc hm hk ha hb hx hy rfl (one x1 h)
    · exact useN_i ni_9_13_hi hc hm hk ha hb hx hy rfl (one h x2)
    · rcases ha' with rfl <;> rcases hb' with rfl <;> rcases hx' with rfl
      · exact useN_s ns_9_0_0_0 s8_9_0_0_0 nl_9_0_0_0 hc hm hk ha hb hx hy
  · rcases (by omega : a ≤ -1 ∨ 5 ≤ a ∨ b ≤ -1 ∨ 5 ≤ b ∨ x ≤ -1 ∨ 1 ≤ x ∨ ((a = 0 ∨ a = 1 ∨ a = 2 ∨ a = 3 ∨ a = 4) ∧ (b = 0 ∨ b = 1 ∨ b = 2 ∨ b = 3 ∨ b = 4) ∧ (x = 0))) with h | h | h | h | h | h | ⟨ha', hb', hx'⟩
    · exact useN_i ni_10_11_lo hc hm hk ha hb hx hy rfl (one a1 h)
    · exact useN_i ni_10_11_hi hc hm hk ha hb hx hy rfl (one h a2)
    · exact useN_i ni_10_12_lo hc hm hk ha hb hx hy rfl (one b1 h)
    · exact useN_i ni_10_12_hi hc hm hk ha hb hx hy rfl (one h b2)
    · exact useN_i ni_10_13_lo hc hm hk ha hb hx hy rfl (one x1 h)
    · exact useN_i ni_10_13_hi hc hm hk ha hb hx hy rfl (one h x2)
    · rcases ha' with rfl | rfl | rfl | rfl | rfl <;> rcases hb' with rfl | rfl | rfl | rfl | rfl <;> rcases hx' with rfl
      · exact useN_s ns_10_0_0_0 s8_10_0_0_0 nl_10_0_0_0 hc hm hk ha hb hx hy
      · exact useN_s ns_10_0_1_0 s8_10_0_1_0 nl_10_0_1_0 hc hm hk ha hb hx hy
      · exact useN_s ns_10_0_2_0 s8_10_0_2_0 nl_10_0_2_0 hc hm hk ha hb hx hy
      · exact useN_s ns_10_0_3_0 s8_10_0_3_0 nl_10_0_3_0 hc hm hk ha hb hx hy
      · exact useN_s ns_10_0_4_0 s8_10_0_4_0 nl_10_0_4_0 hc hm hk ha hb hx hy
      · exact useN_s ns_10_1_0_0 s8_10_1_0_0 nl_10_1_0_0 hc hm hk ha hb hx hy
      · exact useN_s ns_10_1_1_0 s8_10_1_1_0 nl_10_1_1_0 hc hm hk ha hb hx hy
      · exact useN_s ns_10_1_2_0 s8_10_1_2_0 nl_10_1_2_0 hc hm hk ha hb hx hy
      · exact useN_s ns_10_1_3_0 s8_10_1_3_0 nl_10_1_3_0 hc hm hk ha hb hx hy
      · exact useN_s ns_10_1_4_0 s8_10_1_4_0 nl_10_1_4_0 hc hm hk ha hb hx hy
      · exact useN_s ns_10_2_0_0 s8_10_2_0_0 nl_10_2_0_0 hc hm hk ha hb hx hy
      · exact useN_s ns_10_2_1_0 s8_10_2_1_0 nl_10_2_1_0 hc hm hk ha hb hx hy
      · exact useN_s ns_10_2_2_0 s8_10_2_2_0 nl_10_2_2_0 hc hm hk ha hb hx hy
      · exact useN_s ns_10_2_3_0 s8_10_2_3_0 nl_10_2_3_0 hc hm hk ha hb hx hy
      · exact useN_s ns_10_2_4_0 s8_10_2_4_0 nl_10_2_4_0 hc hm hk ha hb hx hy
      · exact useN_s ns_10_3_0_0 s8_10_3_0_0 nl_10_3_0_0 hc hm hk ha hb hx hy
      · exact useN_s ns_10_3_1_0 s8_10_3_1_0 nl_10_3_1_0 hc hm hk ha hb hx hy
      · exact useN_s ns_10_3_2_0 s8_10_3_2_0 nl_10_3_2_0 hc hm hk ha hb hx hy
      · exact useN_s ns_10_3_3_0 s8_10_3_3_0 nl_10_3_3_0 hc hm hk ha hb hx hy
      · exact useN_s ns_10_3_4_0 s8_10_3_4_0 nl_10_3_4_0 hc hm hk ha hb hx hy
      · exact useN_s ns_10_4_0_0 s8_10_4_0_0 nl_10_4_0_0 hc hm hk ha hb hx hy
      · exact useN_s ns_10_4_1_0 s8_10_4_1_0 nl_10_4_1_0 hc hm hk ha hb hx hy
      · exact useN_s ns_10_4_2_0 s8_10_4_2_0 nl_10_4_2_0 hc hm hk ha hb hx hy
      · exact useN_s ns_10_4_3_0 s8_10_4_3_0 nl_10_4_3_0 hc hm hk ha hb hx hy
      · exact useN_s ns_10_4_4_0 s8_10_4_4_0 nl_10_4_4_0 hc hm hk ha hb hx hy
theorem needs_B {w : World} {cs : List Value} (hc : IsView cs) (hn : ¬ AllMay cs) {k a b x y : Int} (hk : in64 k) (ha : in64 a) (hb : in64 b) (hx : in64 x) (hy : in64 y) : Calls Try.prog 4 #[.agg cs.toArray, opVal k a b x, .int .i64 y] w fun r w' => r = .returned (.bool true) ∧ Below w.heap.size w w' := by
  have one : ∀ {e : IE} {lo hi : Int}, lo ≤ ev (envV w cs (opInts1 k a b x y)) e → ev (envV w cs (opInts1 k a b x y)) e ≤ hi → ∀ f ∈ [((e, lo, hi) : Fact)], FactOk (envV w cs (opInts1 k a b x y)) f := fun h1 h2 f hf => by
    rcases List.mem_singleton.1 hf with rfl
    exact ⟨h1, h2⟩
  have nil : ∀ f ∈ ([] : List Fact), FactOk (envV w cs (opInts1 k a b x y)) f := fun _ h => (by cases h)
  rcases (by omega : k ≤ 5 ∨ 11 ≤ k ∨ k = 6 ∨ k = 7 ∨ k = 8 ∨ k = 9 ∨ k = 10) with h | h | rfl | rfl | rfl | rfl | rfl
  · exact useN_b nb_lo hc hn hk ha hb hx hy rfl (one hk.1 h)
  · exact useN_b nb_hi hc hn hk ha hb hx hy rfl (one h hk.2)
  · exact useN_b nb_6 hc hn hk ha hb hx hy rfl nil
  · exact useN_b nb_7 hc hn hk ha hb hx hy rfl nil
  · exact useN_b nb_8 hc hn hk ha hb hx hy rfl nil
  · exact useN_b nb_9 hc hn hk ha hb hx hy rfl nil
  · exact useN_b nb_10 hc hn hk ha hb hx hy rfl nil
section
variable {H : Type} {enc : TypeId × Value → H} {w : World} {base : Nat} {spare : Nat → Bool} {held : Bool} {r : Reach} {b0 : Nat}
theorem skipNeeds_walk {v0 v1 v2 : Value} {d2 : DataW H} {p2 : List MemPlace}
    (k0 : Value.okWide Try.prog w r b0 25 v0) (k1 : Value.okWide Try.prog w r b0 27 v1)
    (k2 : Value.okWide Try.prog w r b0 3 v2) (h2 : DataW.Trod enc Try.prog w base spare held 3 v2 d2 p2) :
    Calls Try.prog 4 #[v0, v1, v2] w fun r w' => r = .returned (.bool true) ∧ Below w.heap.size w w' := by
  obtain ⟨cs, rfl, hc⟩ := open_view k0
  obtain ⟨k, a, b, x, rfl, hk, ha, hb, hx⟩ := open_op k1
  obtain ⟨y, rfl, _, _, wy⟩ := open_int Try.underlying3 k2 h2
  have hy : in64 y := i64_bd wy
  by_cases hm : AllMay cs
  · exact needs_A hc hm hk ha hb hx hy
  · exact needs_B hc hm hk ha hb hx hy
end
end Go.Proofs.Ytdngeccbmalbnaa
namespace Go.Proofs.Ytdngeccbmalbnaa.skipNeeds
open Go.ChangeShapes Go.WideShapes Go.ChangeAt Go.RowKit Go.Deep

set_option maxRecDepth 100000 in
theorem lifted (os : Os) (started : os.Started) (H : Type) (enc : TypeId × Value → H) :
    ReturnsInHanded {} Try.checked os 4 .any (Rows.skipNeedsSpec.pre6 enc Try.prog Try.f4 Rows.skipNeedsRow.domain false) (Rows.skipNeedsSpec.post enc Try.prog Try.f4 false true false false) := by
  refine returnsInHanded_of_change (C := Try.checked) own started (by kernel_rfl) Try.func4
    (ChangeSpec.witness6 (enc := enc) (C := Try.checked) false ⟨#[], #[.agg (Array.replicate 16 (.bool false) ++ Array.replicate 32 (.int .i64 0)), .agg (Array.replicate 4 (.int .i64 0)), .int .i64 0], []⟩ 60 (by kernel_rfl) (by kernel_rfl) (by kernel_rfl) (by kernel_rfl)) ?_
  intro W base args ds gs before hval0 hW _ _
  have hval : ∀ (j : Nat) t v, Try.f4.params[j]? = some t → args[j]? = some v → Value.okWide Try.prog W .any base t v := hval0
  have hW' := hW
  obtain ⟨p, q, hA0, hV, rfl, _, _⟩ := hW
  have hA : DataW.TrodAll enc Try.prog W 0 (fun _ => true) true Try.f4.params.toList args.toList ds p := hA0
  rw [Try.params4] at hA hval
  obtain ⟨v0, vs0, d0, ds0, p0, q0, hargs, rfl, rfl, h0, r0⟩ := trodAll_cons hA
  obtain ⟨v1, vs1, d1, ds1, p1, q1, rfl, rfl, rfl, h1, r1⟩ := trodAll_cons r0
  obtain ⟨v2, vs2, d2, ds2, p2, q2, rfl, rfl, rfl, h2, r2⟩ := trodAll_cons r1
  obtain ⟨rfl, rfl, rfl⟩ := trodAll_nil r2
  obtain rfl : args = #[v0, v1, v2] := by cases args; simp_all
  obtain ⟨rfl, rfl⟩ := trodVars_none hV
  have tl0 : ∀ x ∈ p0, x.block < W.heap.size := by obtain ⟨m, hm⟩ := h0; exact DataW.trod_lt m _ _ _ hm
  have tl1 : ∀ x ∈ p1, x.block < W.heap.size := by obtain ⟨m, hm⟩ := h1; exact DataW.trod_lt m _ _ _ hm
  have tl2 : ∀ x ∈ p2, x.block < W.heap.size := by obtain ⟨m, hm⟩ := h2; exact DataW.trod_lt m _ _ _ hm
  clear hA0 hval0
  refine (skipNeeds_walk (hval 0 25 v0 rfl rfl) (hval 1 27 v1 rfl rfl) (hval 2 3 v2 rfl rfl) h2).mono fun e W' ⟨he, bel⟩ => ?_
  subst he
  exact ⟨_, rfl, _, _, _, [], _, [], hW', trodAll_mk1 (shut_bool Try.underlying4 _), (trodAll_cons_mk (Below.trod laidOut (by kernel_rfl) (of_decide_eq_true (by kernel_rfl)) h0 bel tl0) (trodAll_cons_mk (Below.trod laidOut (by kernel_rfl) (of_decide_eq_true (by kernel_rfl)) h1 bel tl1) (trodAll_cons_mk (Below.trod laidOut (by kernel_rfl) (of_decide_eq_true (by kernel_rfl)) h2 bel tl2) trodAll_mk0))), rfl, bel.frame _, fun h => by cases h⟩

theorem over : Rows.skipNeedsRow.holds Try.pinned (OpenSpec.ofChange Rows.skipNeedsSpec) :=
  OpenClaim.holds_of_wide 4 Try.f4 rfl rfl rfl rfl rfl rfl rfl ⟨rfl, rfl, rfl, rfl, rfl⟩ rfl rfl rfl rfl rfl (by kernel_rfl) Try.func4 (by kernel_rfl)
    (of_decide_eq_true (by kernel_rfl)) (by unfold Func.isWrapper; first | (rw [if_pos (by decide +kernel)]; kernel_rfl) | (rw [if_neg (by decide +kernel)]; exact ⟨rfl, rfl⟩))
    (fun os started H enc _ => lifted os started H enc)

theorem proved : Rows.SkipNeedsSaid := over
#print axioms proved
end Go.Proofs.Ytdngeccbmalbnaa.skipNeeds
