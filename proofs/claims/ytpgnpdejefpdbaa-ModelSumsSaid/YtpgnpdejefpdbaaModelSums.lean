/- The law ModelSums: for every input the call returns true, and each argument reads afterwards as it read before; no condition. -/
import Derived.Test.YtpgnpdejefpdbaaVa
import Derived.Test.YtpgnpdejefpdbaaVb
import Derived.Test.YtpgnpdejefpdbaaVc
import Derived.Test.YtpgnpdejefpdbaaVd
import Derived.Test.YtpgnpdejefpdbaaVe
import Derived.Test.YtpgnpdejefpdbaaVf
import Derived.Test.YtpgnpdejefpdbaaVg
import Derived.Test.YtpgnpdejefpdbaaVh
namespace Go.Proofs.Ytpgnpdejefpdbaa
open Go.Sx Go Go.ChangeShapes Go.WideShapes Go.ChangeAt Go.RowKit Go.Deep
set_option maxRecDepth 100000
theorem us_0 : ∀ n : Nat, n < 28 → uOk [false, false, false, false] n = true
 | 0, _ => u_0_0
 | 1, _ => u_0_1
 | 2, _ => u_0_2
 | 3, _ => u_0_3
 | 4, _ => u_0_4
 | 5, _ => u_0_5
 | 6, _ => u_0_6
 | 7, _ => u_0_7
 | 8, _ => u_0_8
 | 9, _ => u_0_9
 | 10, _ => u_0_10
 | 11, _ => u_0_11
 | 12, _ => u_0_12
 | 13, _ => u_0_13
 | 14, _ => u_0_14
 | 15, _ => u_0_15
 | 16, _ => u_0_16
 | 17, _ => u_0_17
 | 18, _ => u_0_18
 | 19, _ => u_0_19
 | 20, _ => u_0_20
 | 21, _ => u_0_21
 | 22, _ => u_0_22
 | 23, _ => u_0_23
 | 24, _ => u_0_24
 | 25, _ => u_0_25
 | 26, _ => u_0_26
 | 27, _ => u_0_27
 | n + 28, h => absurd h (by omega)
theorem us_1 : ∀ n : Nat, n < 28 → uOk [false, false, false, true] n = true
 | 0, _ => u_1_0
 | 1, _ => u_1_1
 | 2, _ => u_1_2
 | 3, _ => u_1_3
 | 4, _ => u_1_4
 | 5, _ => u_1_5
 | 6, _ => u_1_6
 | 7, _ => u_1_7
 | 8, _ => u_1_8
 | 9, _ => u_1_9
 | 10, _ => u_1_10
 | 11, _ => u_1_11
 | 12, _ => u_1_12
 | 13, _ => u_1_13
 | 14, _ => u_1_14
 | 15, _ => u_1_15
 | 16, _ => u_1_16
 | 17, _ => u_1_17
 | 18, _ => u_1_18
 | 19, _ => u_1_19
 | 20, _ => u_1_20
 | 21, _ => u_1_21
 | 22, _ => u_1_22
 | 23, _ => u_1_23
 | 24, _ => u_1_24
 | 25, _ => u_1_25
 | 26, _ => u_1_26
 | 27, _ => u_1_27
 | n + 28, h => absurd h (by omega)
theorem us_2 : ∀ n : Nat, n < 28 → uOk [false, false, true, false] n = true
 | 0, _ => u_2_0
 | 1, _ => u_2_1
 | 2, _ => u_2_2
 | 3, _ => u_2_3
 | 4, _ => u_2_4
 | 5, _ => u_2_5
 | 6, _ => u_2_6
 | 7, _ => u_2_7
 | 8, _ => u_2_8
 | 9, _ => u_2_9
 | 10, _ => u_2_10
 | 11, _ => u_2_11
 | 12, _ => u_2_12
 | 13, _ => u_2_13
 | 14, _ => u_2_14
 | 15, _ => u_2_15
 | 16, _ => u_2_16
 | 17, _ => u_2_17
 | 18, _ => u_2_18
 | 19, _ => u_2_19
 | 20, _ => u_2_20
 | 21, _ => u_2_21
 | 22, _ => u_2_22
 | 23, _ => u_2_23
 | 24, _ => u_2_24
 | 25, _ => u_2_25
 | 26, _ => u_2_26
 | 27, _ => u_2_27
 | n + 28, h => absurd h (by omega)
theorem us_3 : ∀ n : Nat, n < 28 → uOk [false, false, true, true] n = true
 | 0, _ => u_3_0
 | 1, _ => u_3_1
 | 2, _ => u_3_2
 | 3, _ => u_3_3
 | 4, _ => u_3_4
 | 5, _ => u_3_5
 | 6, _ => u_3_6
 | 7, _ => u_3_7
 | 8, _ => u_3_8
 | 9, _ => u_3_9
 | 10, _ => u_3_10
 | 11, _ => u_3_11
 | 12, _ => u_3_12
 | 13, _ => u_3_13
 | 14, _ => u_3_14
 | 15, _ => u_3_15
 | 16, _ => u_3_16
 | 17, _ => u_3_17
 | 18, _ => u_3_18
 | 19, _ => u_3_19
 | 20, _ => u_3_20
 | 21, _ => u_3_21
 | 22, _ => u_3_22
 | 23, _ => u_3_23
 | 24, _ => u_3_24
 | 25, _ => u_3_25
 | 26, _ => u_3_26
 | 27, _ => u_3_27
 | n + 28, h => absurd h (by omega)
theorem us_4 : ∀ n : Nat, n < 28 → uOk [false, true, false, false] n = true
 | 0, _ => u_4_0
 | 1, _ => u_4_1
 | 2, _ => u_4_2
 | 3, _ => u_4_3
 | 4, _ => u_4_4
 | 5, _ => u_4_5
 | 6, _ => u_4_6
 | 7, _ => u_4_7
 | 8, _ => u_4_8
 | 9, _ => u_4_9
 | 10, _ => u_4_10
 | 11, _ => u_4_11
 | 12, _ => u_4_12
 | 13, _ => u_4_13
 | 14, _ => u_4_14
 | 15, _ => u_4_15
 | 16, _ => u_4_16
 | 17, _ => u_4_17
 | 18, _ => u_4_18
 | 19, _ => u_4_19
 | 20, _ => u_4_20
 | 21, _ => u_4_21
 | 22, _ => u_4_22
 | 23, _ => u_4_23
 | 24, _ => u_4_24
 | 25, _ => u_4_25
 | 26, _ => u_4_26
 | 27, _ => u_4_27
 | n + 28, h => absurd h (by omega)
theorem us_5 : ∀ n : Nat, n < 28 → uOk [false, true, false, true] n = true
 | 0, _ => u_5_0
 | 1, _ => u_5_1
 | 2, _ => u_5_2
 | 3, _ => u_5_3
 | 4, _ => u_5_4
 | 5, _ => u_5_5
 | 6, _ => u_5_6
 | 7, _ => u_5_7
 | 8, _ => u_5_8
 | 9, _ => u_5_9
 | 10, _ => u_5_10
 | 11, _ => u_5_11
 | 12, _ => u_5_12
 | 13, _ => u_5_13
 | 14, _ => u_5_14
 | 15, _ => u_5_15
 | 16, _ => u_5_16
 | 17, _ => u_5_17
 | 18, _ => u_5_18
 | 19, _ => u_5_19
 | 20, _ => u_5_20
 | 21, _ => u_5_21
 | 22, _ => u_5_22
 | 23, _ => u_5_23
 | 24, _ => u_5_24
 | 25, _ => u_5_25
 | 26, _ => u_5_26
 | 27, _ => u_5_27
 | n + 28, h => absurd h (by omega)
theorem us_6 : ∀ n : Nat, n < 28 → uOk [false, true, true, false] n = true
 | 0, _ => u_6_0
 | 1, _ => u_6_1
 | 2, _ => u_6_2
 | 3, _ => u_6_3
 | 4, _ => u_6_4
 | 5, _ => u_6_5
 | 6, _ => u_6_6
 | 7, _ => u_6_7
 | 8, _ => u_6_8
 | 9, _ => u_6_9
 | 10, _ => u_6_10
 | 11, _ => u_6_11
 | 12, _ => u_6_12
 | 13, _ => u_6_13
 | 14, _ => u_6_14
 | 15, _ => u_6_15
 | 16, _ => u_6_16
 | 17, _ => u_6_17
 | 18, _ => u_6_18
 | 19, _ => u_6_19
 | 20, _ => u_6_20
 | 21, _ => u_6_21
 | 22, _ => u_6_22
 | 23, _ => u_6_23
 | 24, _ => u_6_24
 | 25, _ => u_6_25
 | 26, _ => u_6_26
 | 27, _ => u_6_27
 | n + 28, h => absurd h (by omega)
theorem us_7 : ∀ n : Nat, n < 28 → uOk [false, true, true, true] n = true
 | 0, _ => u_7_0
 | 1, _ => u_7_1
 | 2, _ => u_7_2
 | 3, _ => u_7_3
 | 4, _ => u_7_4
 | 5, _ => u_7_5
 | 6, _ => u_7_6
 | 7, _ => u_7_7
 | 8, _ => u_7_8
 | 9, _ => u_7_9
 | 10, _ => u_7_10
 | 11, _ => u_7_11
 | 12, _ => u_7_12
 | 13, _ => u_7_13
 | 14, _ => u_7_14
 | 15, _ => u_7_15
 | 16, _ => u_7_16
 | 17, _ => u_7_17
 | 18, _ => u_7_18
 | 19, _ => u_7_19
 | 20, _ => u_7_20
 | 21, _ => u_7_21
 | 22, _ => u_7_22
 | 23, _ => u_7_23
 | 24, _ => u_7_24
 | 25, _ => u_7_25
 | 26, _ => u_7_26
 | 27, _ => u_7_27
 | n + 28, h => absurd h (by omega)
theorem us_8 : ∀ n : Nat, n < 28 → uOk [true, false, false, false] n = true
 | 0, _ => u_8_0
 | 1, _ => u_8_1
 | 2, _ => u_8_2
 | 3, _ => u_8_3
 | 4, _ => u_8_4
 | 5, _ => u_8_5
 | 6, _ => u_8_6
 | 7, _ => u_8_7
 | 8, _ => u_8_8
 | 9, _ => u_8_9
 | 10, _ => u_8_10
 | 11, _ => u_8_11
 | 12, _ => u_8_12
 | 13, _ => u_8_13
 | 14, _ => u_8_14
 | 15, _ => u_8_15
 | 16, _ => u_8_16
 | 17, _ => u_8_17
 | 18, _ => u_8_18
 | 19, _ => u_8_19
 | 20, _ => u_8_20
 | 21, _ => u_8_21
 | 22, _ => u_8_22
 | 23, _ => u_8_23
 | 24, _ => u_8_24
 | 25, _ => u_8_25
 | 26, _ => u_8_26
 | 27, _ => u_8_27
 | n + 28, h => absurd h (by omega)
theorem us_9 : ∀ n : Nat, n < 28 → uOk [true, false, false, true] n = true
 | 0, _ => u_9_0
 | 1, _ => u_9_1
 | 2, _ => u_9_2
 | 3, _ => u_9_3
 | 4, _ => u_9_4
 | 5, _ => u_9_5
 | 6, _ => u_9_6
 | 7, _ => u_9_7
 | 8, _ => u_9_8
 | 9, _ => u_9_9
 | 10, _ => u_9_10
 | 11, _ => u_9_11
 | 12, _ => u_9_12
 | 13, _ => u_9_13
 | 14, _ => u_9_14
 | 15, _ => u_9_15
 | 16, _ => u_9_16
 | 17, _ => u_9_17
 | 18, _ => u_9_18
 | 19, _ => u_9_19
 | 20, _ => u_9_20
 | 21, _ => u_9_21
 | 22, _ => u_9_22
 | 23, _ => u_9_23
 | 24, _ => u_9_24
 | 25, _ => u_9_25
 | 26, _ => u_9_26
 | 27, _ => u_9_27
 | n + 28, h => absurd h (by omega)
theorem us_10 : ∀ n : Nat, n < 28 → uOk [true, false, true, false] n = true
 | 0, _ => u_10_0
 | 1, _ => u_10_1
 | 2, _ => u_10_2
 | 3, _ => u_10_3
 | 4, _ => u_10_4
 | 5, _ => u_10_5
 | 6, _ => u_10_6
 | 7, _ => u_10_7
 | 8, _ => u_10_8
 | 9, _ => u_10_9
 | 10, _ => u_10_10
 | 11, _ => u_10_11
 | 12, _ => u_10_12
 | 13, _ => u_10_13
 | 14, _ => u_10_14
 | 15, _ => u_10_15
 | 16, _ => u_10_16
 | 17, _ => u_10_17
 | 18, _ => u_10_18
 | 19, _ => u_10_19
 | 20, _ => u_10_20
 | 21, _ => u_10_21
 | 22, _ => u_10_22
 | 23, _ => u_10_23
 | 24, _ => u_10_24
 | 25, _ => u_10_25
 | 26, _ => u_10_26
 | 27, _ => u_10_27
 | n + 28, h => absurd h (by omega)
theorem us_11 : ∀ n : Nat, n < 28 → uOk [true, false, true, true] n = true
 | 0, _ => u_11_0
 | 1, _ => u_11_1
 | 2, _ => u_11_2
 | 3, _ => u_11_3
 | 4, _ => u_11_4
 | 5, _ => u_11_5
 | 6, _ => u_11_6
 | 7, _ => u_11_7
 | 8, _ => u_11_8
 | 9, _ => u_11_9
 | 10, _ => u_11_10
 | 11, _ => u_11_11
 | 12, _ => u_11_12
 | 13, _ => u_11_13
 | 14, _ => u_11_14
 | 15, _ => u_11_15
 | 16, _ => u_11_16
 | 17, _ => u_11_17
 | 18, _ => u_11_18
 | 19, _ => u_11_19
 | 20, _ => u_11_20
 | 21, _ => u_11_21
 | 22, _ => u_11_22
 | 23, _ => u_11_23
 | 24, _ => u_11_24
 | 25, _ => u_11_25
 | 26, _ => u_11_26
 | 27, _ => u_11_27
 | n + 28, h => absurd h (by omega)
theorem us_12 : ∀ n : Nat, n < 28 → uOk [true, true, false, false] n = true
 | 0, _ => u_12_0
 | 1, _ => u_12_1
 | 2, _ => u_12_2
 | 3, _ => u_12_3
 | 4, _ => u_12_4
 | 5, _ => u_12_5
 | 6, _ => u_12_6
 | 7, _ => u_12_7
 | 8, _ => u_12_8
 | 9, _ => u_12_9
 | 10, _ => u_12_10
 | 11, _ => u_12_11
 | 12, _ => u_12_12
 | 13, _ => u_12_13
 | 14, _ => u_12_14
 | 15, _ => u_12_15
 | 16, _ => u_12_16
 | 17, _ => u_12_17
 | 18, _ => u_12_18
 | 19, _ => u_12_19
 | 20, _ => u_12_20
 | 21, _ => u_12_21
 | 22, _ => u_12_22
 | 23, _ => u_12_23
 | 24, _ => u_12_24
 | 25, _ => u_12_25
 | 26, _ => u_12_26
 | 27, _ => u_12_27
 | n + 28, h => absurd h (by omega)
theorem us_13 : ∀ n : Nat, n < 28 → uOk [true, true, false, true] n = true
 | 0, _ => u_13_0
 | 1, _ => u_13_1
 | 2, _ => u_13_2
 | 3, _ => u_13_3
 | 4, _ => u_13_4
 | 5, _ => u_13_5
 | 6, _ => u_13_6
 | 7, _ => u_13_7
 | 8, _ => u_13_8
 | 9, _ => u_13_9
 | 10, _ => u_13_10
 | 11, _ => u_13_11
 | 12, _ => u_13_12
 | 13, _ => u_13_13
 | 14, _ => u_13_14
 | 15, _ => u_13_15
 | 16, _ => u_13_16
 | 17, _ => u_13_17
 | 18, _ => u_13_18
 | 19, _ => u_13_19
 | 20, _ => u_13_20
 | 21, _ => u_13_21
 | 22, _ => u_13_22
 | 23, _ => u_13_23
 | 24, _ => u_13_24
 | 25, _ => u_13_25
 | 26, _ => u_13_26
 | 27, _ => u_13_27
 | n + 28, h => absurd h (by omega)
theorem us_14 : ∀ n : Nat, n < 28 → uOk [true, true, true, false] n = true
 | 0, _ => u_14_0
 | 1, _ => u_14_1
 | 2, _ => u_14_2
 | 3, _ => u_14_3
 | 4, _ => u_14_4
 | 5, _ => u_14_5
 | 6, _ => u_14_6
 | 7, _ => u_14_7
 | 8, _ => u_14_8
 | 9, _ => u_14_9
 | 10, _ => u_14_10
 | 11, _ => u_14_11
 | 12, _ => u_14_12
 | 13, _ => u_14_13
 | 14, _ => u_14_14
 | 15, _ => u_14_15
 | 16, _ => u_14_16
 | 17, _ => u_14_17
 | 18, _ => u_14_18
 | 19, _ => u_14_19
 | 20, _ => u_14_20
 | 21, _ => u_14_21
 | 22, _ => u_14_22
 | 23, _ => u_14_23
 | 24, _ => u_14_24
 | 25, _ => u_14_25
 | 26, _ => u_14_26
 | 27, _ => u_14_27
 | n + 28, h => absurd h (by omega)
theorem us_15 : ∀ n : Nat, n < 28 → uOk [true, true, true, true] n = true
 | 0, _ => u_15_0
 | 1, _ => u_15_1
 | 2, _ => u_15_2
 | 3, _ => u_15_3
 | 4, _ => u_15_4
 | 5, _ => u_15_5
 | 6, _ => u_15_6
 | 7, _ => u_15_7
 | 8, _ => u_15_8
 | 9, _ => u_15_9
 | 10, _ => u_15_10
 | 11, _ => u_15_11
 | 12, _ => u_15_12
 | 13, _ => u_15_13
 | 14, _ => u_15_14
 | 15, _ => u_15_15
 | 16, _ => u_15_16
 | 17, _ => u_15_17
 | 18, _ => u_15_18
 | 19, _ => u_15_19
 | 20, _ => u_15_20
 | 21, _ => u_15_21
 | 22, _ => u_15_22
 | 23, _ => u_15_23
 | 24, _ => u_15_24
 | 25, _ => u_15_25
 | 26, _ => u_15_26
 | 27, _ => u_15_27
 | n + 28, h => absurd h (by omega)
theorem us_all : ∀ w ∈ wsU, ∀ n, n < 28 → uOk w n = true := by
 unfold wsU
 exact List.forall_mem_cons.2 ⟨us_0, List.forall_mem_cons.2 ⟨us_1, List.forall_mem_cons.2 ⟨us_2, List.forall_mem_cons.2 ⟨us_3, List.forall_mem_cons.2 ⟨us_4, List.forall_mem_cons.2 ⟨us_5, List.forall_mem_cons.2 ⟨us_6, List.forall_mem_cons.2 ⟨us_7, List.forall_mem_cons.2 ⟨us_8, List.forall_mem_cons.2 ⟨us_9, List.forall_mem_cons.2 ⟨us_10, List.forall_mem_cons.2 ⟨us_11, List.forall_mem_cons.2 ⟨us_12, List.forall_mem_cons.2 ⟨us_13, List.forall_mem_cons.2 ⟨us_14, List.forall_mem_cons.2 ⟨us_15, fun _ h => by cases h⟩⟩⟩⟩⟩⟩⟩⟩⟩⟩⟩⟩⟩⟩⟩⟩
theorem loopU_ok : LxOk G0 Try.prog (4, 0, loopU) :=
 lx_ok Try.func4 (c := bodyOf Try.f4) rfl (b := loopBody 0 (bodyOf Try.f4)) (by kernel_rfl) (loopPc_ok (T := tabJ []) cxU_ok (jm := none) (fuel := 400) (noBlocks_ok _ _) (fun y hy => by
  obtain ⟨w, hw, rfl⟩ := List.mem_map.1 hy
  refine ⟨(List.range 28).map fun n => caseU w n ++ lessW w, fun E hE hf => ?_, fun c hc => ?_⟩
  ·obtain ⟨n, hn, h⟩ := coverU hE hf
   exact ⟨_, List.mem_map.2 ⟨n, List.mem_range.2 hn, rfl⟩, h⟩
  ·obtain ⟨n, hn, rfl⟩ := List.mem_map.1 hc
   exact uOk_head hw (us_all w hw n (List.mem_range.1 hn))))
theorem runU_ok : SpecOk G0 Try.prog 4 runU := callF_ok (spOf_ok okSpU) (bxOf_ok (by intro y hy; simp only [List.mem_cons, List.not_mem_nil, or_false] at hy; subst hy; exact loopU_ok)) 400 12 4
section
variable {H : Type} {enc : TypeId × Value → H} {w : World} {base : Nat} {spare : Nat → Bool} {held : Bool} {r : Reach} {b0 : Nat}
theorem modelSums_walk {v0 : Value} {d0 : DataW H} {p0 : List MemPlace}
  (k0 : Value.okWide Try.prog w r b0 41 v0) (h0 : DataW.Trod enc Try.prog w base spare held 41 v0 d0 p0) :
  Calls Try.prog 4 #[v0] w fun r w' => r = .returned (.bool true) ∧ Below w.heap.size w w' := by
 rcases open_xs k0 h0 with rfl | ⟨b, o, len, cap, zs, hx⟩
 ·have hE : (envL w [] [] [] [] [] []).Ok := envL_ok (fun _ h => (by cases h)) none_in none_in
  have h := sum_nil
  unfold okSumN at h
  have := law_ok (funL_ok okSpU 4) h (w := w) rfl (slMem_ok 10 hE rfl rfl (fun _ h => (by cases h)) (fun _ h => (by cases h)))
  simp only [List.map_cons, List.map_nil] at this
  exact this
 ·let E := envL w [] [] [(5, zs)] ((2, [0]) :: (3, [(len : Int)]) :: (4, [(cap : Int)]) :: []) [(1, b)] [(1, o)]
  have hE : E.Ok := envL_ok (fun _ h => (by cases h)) (fun y hy => by
   rcases List.mem_singleton.1 hy with rfl
   exact hx.nums) (one_in zero_in (one_in (len_in (Nat.le_trans hx.room hx.max)) (one_in (len_in hx.max) none_in)))
  have hN : SlArg.Named ⟨1, 2, 3, 4, 5, 1, b, o, len, cap, zs⟩ E := ⟨rfl, rfl, rfl, rfl, rfl, rfl, (by show (5 : Nat) ≠ 0; decide)⟩
  have hH := holds_of hx 1 2 3 4 5
  have h := sum_run
  unfold okSum at h
  have := law_ok runU_ok h (E := E) (w := w) rfl (slMem_ok 10 hE rfl rfl (fun e he => by
   rcases List.mem_singleton.1 he with rfl
   exact ⟨rfl, SlArg.ent hN hH⟩) (SlArg.facts hN hH (le_hi hx.room hx.max)))
  simp only [List.map_cons, List.map_nil] at this
  rw [hx.val]
  exact this
end
end Go.Proofs.Ytpgnpdejefpdbaa
namespace Go.Proofs.Ytpgnpdejefpdbaa.modelSums
open Go.ChangeShapes Go.WideShapes Go.ChangeAt Go.RowKit Go.Deep
set_option maxRecDepth 100000 in
theorem lifted (os : Os) (started : os.Started) (H : Type) (enc : TypeId × Value → H) :
  ReturnsInHanded {} Try.checked os 4 .any (Rows.modelSumsSpec.pre6 enc Try.prog Try.f4 Rows.modelSumsRow.domain false) (Rows.modelSumsSpec.post enc Try.prog Try.f4 false true false false) := by
 refine returnsInHanded_of_change (C := Try.checked) own started (by kernel_rfl) Try.func4
  (ChangeSpec.witness6 (enc := enc) (C := Try.checked) false ⟨#[], #[.slice none 0 0], []⟩ 60 (by kernel_rfl) (by kernel_rfl) (by kernel_rfl) (by kernel_rfl)) ?_
 intro W base args ds gs before hval0 hW _ _
 have hval : ∀ (j : Nat) t v, Try.f4.params[j]? = some t → args[j]? = some v → Value.okWide Try.prog W .any base t v := hval0
 have hW' := hW
 obtain ⟨p, q, hA0, hV, rfl, _, _⟩ := hW
 have hA : DataW.TrodAll enc Try.prog W 0 (fun _ => true) true Try.f4.params.toList args.toList ds p := hA0
 rw [Try.params4] at hA hval
 obtain ⟨v0, vs0, d0, ds0, p0, q0, hargs, rfl, rfl, h0, r0⟩ := trodAll_cons hA
 obtain ⟨rfl, rfl, rfl⟩ := trodAll_nil r0
 obtain rfl : args = #[v0] := by cases args; simp_all
 obtain ⟨rfl, rfl⟩ := trodVars_none hV
 have tl0 : ∀ x ∈ p0, x.block < W.heap.size := by obtain ⟨m, hm⟩ := h0; exact DataW.trod_lt m _ _ _ hm
 clear hA0 hval0
 refine (modelSums_walk (hval 0 41 v0 rfl rfl) h0).mono fun e W' ⟨he, bel⟩ => ?_
 subst he
 exact ⟨_, rfl, _, _, _, [], _, [], hW', trodAll_mk1 (shut_bool Try.underlying4 _), (trodAll_cons_mk (Below.trod laidOut (by kernel_rfl) (of_decide_eq_true (by kernel_rfl)) h0 bel tl0) trodAll_mk0), rfl, bel.frame _, fun h => by cases h⟩
theorem over : Rows.modelSumsRow.holds Try.pinned (OpenSpec.ofChange Rows.modelSumsSpec) :=
 OpenClaim.holds_of_wide 4 Try.f4 rfl rfl rfl rfl rfl rfl rfl ⟨rfl, rfl, rfl, rfl, rfl⟩ rfl rfl rfl rfl rfl (by kernel_rfl) Try.func4 (by kernel_rfl)
  (of_decide_eq_true (by kernel_rfl)) (by unfold Func.isWrapper; first | (rw [if_pos (by decide +kernel)]; kernel_rfl) | (rw [if_neg (by decide +kernel)]; exact ⟨rfl, rfl⟩))
  (fun os started H enc _ => lifted os started H enc)
theorem proved : Rows.ModelSumsSaid := over
#print axioms proved
end Go.Proofs.Ytpgnpdejefpdbaa.modelSums
