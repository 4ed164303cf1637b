/- The law BodySame: for every input the call returns true, and each argument reads afterwards as it read before; no condition. -/
import Derived.Test.YtnfmmiomomgabaaHa
import Derived.Test.YtnfmmiomomgabaaHb
import Derived.Test.YtnfmmiomomgabaaHc
import Derived.Test.YtnfmmiomomgabaaD
namespace Go.Proofs.Ytnfmmiomomgabaa
open Go.Sx Go Go.ChangeShapes Go.WideShapes Go.ChangeAt Go.RowKit Go.Deep
set_option maxRecDepth 100000
abbrev opInts2 (k a b x k2 a2 b2 x2 : Int) : List (Nat × List Int) := [(10, [k]), (11, [a]), (12, [b]), (13, [x]), (14, [k2]), (15, [a2]), (16, [b2]), (17, [x2])]
theorem ints2_in {k a b x k2 a2 b2 x2 : Int} (hk : in64 k) (ha : in64 a) (hb : in64 b) (hx : in64 x) (hk2 : in64 k2) (ha2 : in64 a2) (hb2 : in64 b2) (hx2 : in64 x2) : ∀ y ∈ opInts2 k a b x k2 a2 b2 x2, ∀ z ∈ y.2, in64 z := fun y hy z hz => by
  simp only [List.mem_cons, List.not_mem_nil, or_false] at hy
  rcases hy with rfl | rfl | rfl | rfl | rfl | rfl | rfl | rfl <;> (simp only [List.mem_cons, List.not_mem_nil, or_false] at hz; subst hz; assumption)
theorem ints2_far {k a b x k2 a2 b2 x2 : Int} (i : Nat) : lookR (20 + i) (opInts2 k a b x k2 a2 b2 x2) = [] := vars_far (fun y hy => by
  simp only [List.mem_cons, List.not_mem_nil, or_false] at hy
  rcases hy with rfl | rfl | rfl | rfl | rfl | rfl | rfl | rfl <;> (dsimp only; omega)) i
theorem dv_o1 {w : World} {cs : List Value} {k a b x k2 a2 b2 x2 : Int} : dv (envV w cs (opInts2 k a b x k2 a2 b2 x2)) (opV 10) = opVal k a b x := rfl
theorem dv_o2 {w : World} {cs : List Value} {k a b x k2 a2 b2 x2 : Int} : dv (envV w cs (opInts2 k a b x k2 a2 b2 x2)) (opV 14) = opVal k2 a2 b2 x2 := rfl
theorem same_A {w : World} {cs : List Value} (hc : IsView cs) (hm : AllMay cs) {k a b x k2 a2 b2 x2 : Int} (hk : in64 k) (ha : in64 a) (hb : in64 b) (hx : in64 x) (hk2 : in64 k2) (ha2 : in64 a2) (hb2 : in64 b2) (hx2 : in64 x2) : Calls Try.prog 7 #[.agg cs.toArray, opVal k a b x, opVal k2 a2 b2 x2] w fun r w' => r = .returned (.bool true) ∧ Below w.heap.size w w' := by
  have use : ∀ c d, okSame c d = true → (∀ f ∈ [kindF 10 c, kindF 14 d], FactOk (envV w cs (opInts2 k a b x k2 a2 b2 x2)) f) → Calls Try.prog 7 #[.agg cs.toArray, opVal k a b x, opVal k2 a2 b2 x2] w fun r w' => r = .returned (.bool true) ∧ Below w.heap.size w w' := fun c d h hf => by
    unfold okSame at h
    have := run_vg (funP_ok 7) h hc (ints2_in hk ha hb hx hk2 ha2 hb2 hx2) (fun i _ => ints2_far i) (facts_A hm hf) (fun _ h => (by cases h))
    rw [List.map_cons, List.map_cons, List.map_nil, dv_o1, dv_o2] at this
    exact this
  have f2 : ∀ c d, FactOk (envV w cs (opInts2 k a b x k2 a2 b2 x2)) (kindF 10 c) → FactOk (envV w cs (opInts2 k a b x k2 a2 b2 x2)) (kindF 14 d) → ∀ f ∈ [kindF 10 c, kindF 14 d], FactOk (envV w cs (opInts2 k a b x k2 a2 b2 x2)) f := fun c d h1 h2 f hf => by
    rcases List.mem_cons.1 hf with rfl | hf
    · exact h1
    · rcases List.mem_singleton.1 hf with rfl; exact h2
  have t1 : k ≤ 5 → FactOk (envV w cs (opInts2 k a b x k2 a2 b2 x2)) (kindF 10 true) := fun h => ⟨hk.1, h⟩
  have e1 : 6 ≤ k → FactOk (envV w cs (opInts2 k a b x k2 a2 b2 x2)) (kindF 10 false) := fun h => ⟨h, hk.2⟩
  have t2 : k2 ≤ 5 → FactOk (envV w cs (opInts2 k a b x k2 a2 b2 x2)) (kindF 14 true) := fun h => ⟨hk2.1, h⟩
  have e2 : 6 ≤ k2 → FactOk (envV w cs (opInts2 k a b x k2 a2 b2 x2)) (kindF 14 false) := fun h => ⟨h, hk2.2⟩
  rcases (by omega : k ≤ 5 ∨ 6 ≤ k) with h1 | h1 <;> rcases (by omega : k2 ≤ 5 ∨ 6 ≤ k2) with h2 | h2
  · exact use _ _ same_tt (f2 _ _ (t1 h1) (t2 h2))
  · exact use _ _ same_tf (f2 _ _ (t1 h1) (e2 h2))
  · exact use _ _ same_ft (f2 _ _ (e1 h1) (t2 h2))
  · exact use _ _ same_ff (f2 _ _ (e1 h1) (e2 h2))
theorem same_B {w : World} {cs : List Value} (hc : IsView cs) (hn : ¬ AllMay cs) {k a b x k2 a2 b2 x2 : Int} (hk : in64 k) (ha : in64 a) (hb : in64 b) (hx : in64 x) (hk2 : in64 k2) (ha2 : in64 a2) (hb2 : in64 b2) (hx2 : in64 x2) : Calls Try.prog 7 #[.agg cs.toArray, opVal k a b x, opVal k2 a2 b2 x2] w fun r w' => r = .returned (.bool true) ∧ Below w.heap.size w w' := by
  have h := same_b
  unfold okSameB withB at h
  rw [nfB_eq, nfB_eq] at h
  have := run_vg (w := w) (fs := []) (cn := [.not cVa, .not cVb]) (funQ_ok 7) h hc (ints2_in hk ha hb hx hk2 ha2 hb2 hx2) (fun i _ => ints2_far i) (fun _ h => (by cases h)) (bad_ok hn)
  rw [List.map_cons, List.map_cons, List.map_nil, dv_o1, dv_o2] at this
  exact this
theorem bodySame_walk {w : World} {r : Reach} {b0 : Nat} {v0 v1 v2 : Value} (k0 : Value.okWide Try.prog w r b0 25 v0) (k1 : Value.okWide Try.prog w r b0 28 v1) (k2 : Value.okWide Try.prog w r b0 28 v2) :
    Calls Try.prog 7 #[v0, v1, v2] w fun r w' => r = .returned (.bool true) ∧ Below w.heap.size w w' := by
  obtain ⟨cs, rfl, hc⟩ := open_view k0
  obtain ⟨k, a, b, x, rfl, hk, ha, hb, hx⟩ := open_op k1
  obtain ⟨k2, a2, b2, x2, rfl, hk2, ha2, hb2, hx2⟩ := open_op k2
  by_cases hm : AllMay cs
  · exact same_A hc hm hk ha hb hx hk2 ha2 hb2 hx2
  · exact same_B hc hm hk ha hb hx hk2 ha2 hb2 hx2
end Go.Proofs.Ytnfmmiomomgabaa
namespace Go.Proofs.Ytnfmmiomomgabaa.bodySame
open Go.ChangeShapes Go.WideShapes Go.ChangeAt Go.RowKit Go.Deep

set_option maxRecDepth 100000 in
theorem lifted (os : Os) (started : os.Started) (H : Type) (enc : TypeId × Value → H) :
    ReturnsInHanded {} Try.checked os 7 .any (Rows.bodySameSpec.pre6 enc Try.prog Try.f7 Rows.bodySameRow.domain false) (Rows.bodySameSpec.post enc Try.prog Try.f7 false true false false) := by
  refine returnsInHanded_of_change (C := Try.checked) own started (by kernel_rfl) Try.func7
    (ChangeSpec.witness6 (enc := enc) (C := Try.checked) false ⟨#[], #[.agg (Array.replicate 16 (.bool false) ++ Array.replicate 32 (.int .i64 0)), .agg (Array.replicate 4 (.int .i64 0)), .agg (Array.replicate 4 (.int .i64 0))], []⟩ 60 (by kernel_rfl) (by kernel_rfl) (by kernel_rfl) (by kernel_rfl)) ?_
  intro W base args ds gs before hval0 hW _ _
  have hval : ∀ (j : Nat) t v, Try.f7.params[j]? = some t → args[j]? = some v → Value.okWide Try.prog W .any base t v := hval0
  have hW' := hW
  obtain ⟨p, q, hA0, hV, rfl, _, _⟩ := hW
  have hA : DataW.TrodAll enc Try.prog W 0 (fun _ => true) true Try.f7.params.toList args.toList ds p := hA0
  rw [Try.params7] at hA hval
  obtain ⟨v0, vs0, d0, ds0, p0, q0, hargs, rfl, rfl, h0, r0⟩ := trodAll_cons hA
  obtain ⟨v1, vs1, d1, ds1, p1, q1, rfl, rfl, rfl, h1, r1⟩ := trodAll_cons r0
  obtain ⟨v2, vs2, d2, ds2, p2, q2, rfl, rfl, rfl, h2, r2⟩ := trodAll_cons r1
  obtain ⟨rfl, rfl, rfl⟩ := trodAll_nil r2
  obtain rfl : args = #[v0, v1, v2] := by cases args; simp_all
  obtain ⟨rfl, rfl⟩ := trodVars_none hV
  have tl0 : ∀ x ∈ p0, x.block < W.heap.size := by obtain ⟨m, hm⟩ := h0; exact DataW.trod_lt m _ _ _ hm
  have tl1 : ∀ x ∈ p1, x.block < W.heap.size := by obtain ⟨m, hm⟩ := h1; exact DataW.trod_lt m _ _ _ hm
  have tl2 : ∀ x ∈ p2, x.block < W.heap.size := by obtain ⟨m, hm⟩ := h2; exact DataW.trod_lt m _ _ _ hm
  clear hA0 hval0
  refine (bodySame_walk (hval 0 25 v0 rfl rfl) (hval 1 28 v1 rfl rfl) (hval 2 28 v2 rfl rfl)).mono fun e W' ⟨he, bel⟩ => ?_
  subst he
  exact ⟨_, rfl, _, _, _, [], _, [], hW', trodAll_mk1 (shut_bool Try.underlying4 _), (trodAll_cons_mk (Below.trod laidOut (by kernel_rfl) (of_decide_eq_true (by kernel_rfl)) h0 bel tl0) (trodAll_cons_mk (Below.trod laidOut (by kernel_rfl) (of_decide_eq_true (by kernel_rfl)) h1 bel tl1) (trodAll_cons_mk (Below.trod laidOut (by kernel_rfl) (of_decide_eq_true (by kernel_rfl)) h2 bel tl2) trodAll_mk0))), rfl, bel.frame _, fun h => by cases h⟩

theorem over : Rows.bodySameRow.holds Try.pinned (OpenSpec.ofChange Rows.bodySameSpec) :=
  OpenClaim.holds_of_wide 7 Try.f7 rfl rfl rfl rfl rfl rfl rfl ⟨rfl, rfl, rfl, rfl, rfl⟩ rfl rfl rfl rfl rfl (by kernel_rfl) Try.func7 (by kernel_rfl)
    (of_decide_eq_true (by kernel_rfl)) (by unfold Func.isWrapper; first | (rw [if_pos (by decide +kernel)]; kernel_rfl) | (rw [if_neg (by decide +kernel)]; exact ⟨rfl, rfl⟩))
    (fun os started H enc _ => lifted os started H enc)

theorem proved : Rows.BodySameSaid := over
#print axioms proved
end Go.Proofs.Ytnfmmiomomgabaa.bodySame
