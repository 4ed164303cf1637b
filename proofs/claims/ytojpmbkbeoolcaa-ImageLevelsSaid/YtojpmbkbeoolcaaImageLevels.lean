/- The law ImageLevels: for every input the call returns true, and each argument reads afterwards as it read before; no condition. -/
import Derived.Test.YtojpmbkbeoolcaaLv
import Derived.Test.YtojpmbkbeoolcaaD
namespace Go.Proofs.Ytojpmbkbeoolcaa
open Go.Sx Go Go.ChangeShapes Go.WideShapes Go.ChangeAt Go.RowKit Go.Deep
set_option maxRecDepth 100000
theorem run_V {s : List SV → X SV} (hs : SpecOk G0 Try.prog 7 s) {fs : List Fact} (hrun : allOf (s [stV 1 20, vi 5, vi 6] (slMem [] fs 60)) isTrue = true) {w : World} {c0 c1 c2 c3 a b : Int} {i0 i1 i2 i3 i4 : Bool} (g0 : in64 c0) (g1 : in64 c1) (g2 : in64 c2) (g3 : in64 c3) (ga : in64 a) (gb : in64 b)
  (hfs : ∀ E : Env, E.l 1 = [c0, c1, c2, c3] → ∀ f ∈ fs, FactOk E f) : Calls Try.prog 7 #[stVals [c0, c1, c2, c3] [i0, i1, i2, i3, i4], .int .i64 a, .int .i64 b] w fun r w' => r = .returned (.bool true) ∧ Below w.heap.size w w' := by
 let E := envL w [c0, c1, c2, c3] [i0, i1, i2, i3, i4] [] ((5, [a]) :: (6, [b]) :: []) [] []
 have hE : E.Ok := envL_ok (in4s g0 g1 g2 g3) none_in (one_in ga (one_in gb none_in))
 have := law_ok hs hrun (E := E) (w := w) rfl (slMem_ok 60 hE rfl rfl (fun _ h => (by cases h)) (hfs E rfl))
 simp only [List.map_cons, List.map_nil] at this
 exact this
theorem sel1 {E : Env} {c0 c1 c2 c3 lo hi : Int} (h : E.l 1 = [c0, c1, c2, c3]) (i : Nat) (h1 : lo ≤ ([c0, c1, c2, c3] : List Int).getD i 0 ∧ ([c0, c1, c2, c3] : List Int).getD i 0 ≤ hi) : FactOk E (.sel 1 (.lit i), lo, hi) := by
 unfold FactOk
 rw [ev_sel, ev_lit]
 show lo ≤ (E.l 1).getD i 0 ∧ (E.l 1).getD i 0 ≤ hi
 rw [h]
 exact h1
theorem imageLevels_walk {w : World} {r : Reach} {b0 : Nat} {v0 v1 v2 : Value} {H : Type} {enc : TypeId × Value → H} {base : Nat} {spare : Nat → Bool} {held : Bool} {d0 d1 d2 : DataW H} {p0 p1 p2 : List MemPlace}
  (k0 : Value.okWide Try.prog w r b0 26 v0) (_ : DataW.Trod enc Try.prog w base spare held 26 v0 d0 p0)
  (k1 : Value.okWide Try.prog w r b0 3 v1) (h1 : DataW.Trod enc Try.prog w base spare held 3 v1 d1 p1)
  (k2 : Value.okWide Try.prog w r b0 3 v2) (h2 : DataW.Trod enc Try.prog w base spare held 3 v2 d2 p2) :
  Calls Try.prog 7 #[v0, v1, v2] w fun r w' => r = .returned (.bool true) ∧ Below w.heap.size w w' := by
 obtain ⟨c0, c1, c2, c3, i0, i1, i2, i3, i4, rfl, g0, g1, g2, g3⟩ := open_st k0
 obtain ⟨a, rfl, _, _, wa⟩ := open_int Try.underlying3 k1 h1
 obtain ⟨b, rfl, _, _, wb⟩ := open_int Try.underlying3 k2 h2
 have ha := i64_bd wa
 have hb := i64_bd wb
 have one : ∀ {E : Env} {f : Fact}, FactOk E f → ∀ g ∈ [f], FactOk E g := fun h g hg => by
  rcases List.mem_singleton.1 hg with rfl
  exact h
 have g0' := g0
 have g1' := g1
 have g2' := g2
 have g3' := g3
 unfold in64 at g0' g1' g2' g3'
 by_cases q0l : c0 ≤ -2
 ·exact run_V (funL_ok aw1 7) lv_0l g0 g1 g2 g3 ha hb fun E h => one (sel1 h 0 ⟨g0'.1, q0l⟩)
 by_cases q0h : 1048576 ≤ c0
 ·exact run_V (funL_ok aw1 7) lv_0h g0 g1 g2 g3 ha hb fun E h => one (sel1 h 0 ⟨q0h, g0'.2⟩)
 by_cases q1l : c1 ≤ -2
 ·exact run_V (funL_ok aw1 7) lv_1l g0 g1 g2 g3 ha hb fun E h => one (sel1 h 1 ⟨g1'.1, q1l⟩)
 by_cases q1h : 1048576 ≤ c1
 ·exact run_V (funL_ok aw1 7) lv_1h g0 g1 g2 g3 ha hb fun E h => one (sel1 h 1 ⟨q1h, g1'.2⟩)
 by_cases q2l : c2 ≤ -2
 ·exact run_V (funL_ok aw1 7) lv_2l g0 g1 g2 g3 ha hb fun E h => one (sel1 h 2 ⟨g2'.1, q2l⟩)
 by_cases q2h : 1048576 ≤ c2
 ·exact run_V (funL_ok aw1 7) lv_2h g0 g1 g2 g3 ha hb fun E h => one (sel1 h 2 ⟨q2h, g2'.2⟩)
 by_cases q3l : c3 ≤ -2
 ·exact run_V (funL_ok aw1 7) lv_3l g0 g1 g2 g3 ha hb fun E h => one (sel1 h 3 ⟨g3'.1, q3l⟩)
 by_cases q3h : 1048576 ≤ c3
 ·exact run_V (funL_ok aw1 7) lv_3h g0 g1 g2 g3 ha hb fun E h => one (sel1 h 3 ⟨q3h, g3'.2⟩)
 refine run_V (funL_ok okSpV 7) lv_all g0 g1 g2 g3 ha hb fun E h f hf => ?_
 unfold rngB at hf
 simp only [List.mem_cons, List.not_mem_nil, or_false] at hf
 rcases hf with rfl | rfl | rfl | rfl
 ·exact sel1 h 0 ⟨by show -1 ≤ c0; omega, by show c0 ≤ 1048575; omega⟩
 ·exact sel1 h 1 ⟨by show -1 ≤ c1; omega, by show c1 ≤ 1048575; omega⟩
 ·exact sel1 h 2 ⟨by show -1 ≤ c2; omega, by show c2 ≤ 1048575; omega⟩
 ·exact sel1 h 3 ⟨by show -1 ≤ c3; omega, by show c3 ≤ 1048575; omega⟩
end Go.Proofs.Ytojpmbkbeoolcaa
namespace Go.Proofs.Ytojpmbkbeoolcaa.imageLevels
open Go.ChangeShapes Go.WideShapes Go.ChangeAt Go.RowKit Go.Deep
set_option maxRecDepth 100000 in
theorem lifted (os : Os) (started : os.Started) (H : Type) (enc : TypeId × Value → H) :
  ReturnsInHanded {} Try.checked os 7 .any (Rows.imageLevelsSpec.pre6 enc Try.prog Try.f7 Rows.imageLevelsRow.domain false) (Rows.imageLevelsSpec.post enc Try.prog Try.f7 false true false false) := by
 refine returnsInHanded_of_change (C := Try.checked) own started (by kernel_rfl) Try.func7
  (ChangeSpec.witness6 (enc := enc) (C := Try.checked) false ⟨#[], #[.agg (Array.replicate 4 (.int .i64 0) ++ Array.replicate 5 (.bool false)), .int .i64 0, .int .i64 0], []⟩ 60 (by kernel_rfl) (by kernel_rfl) (by kernel_rfl) (by kernel_rfl)) ?_
 intro W base args ds gs before hval0 hW _ _
 have hval : ∀ (j : Nat) t v, Try.f7.params[j]? = some t → args[j]? = some v → Value.okWide Try.prog W .any base t v := hval0
 have hW' := hW
 obtain ⟨p, q, hA0, hV, rfl, _, _⟩ := hW
 have hA : DataW.TrodAll enc Try.prog W 0 (fun _ => true) true Try.f7.params.toList args.toList ds p := hA0
 rw [Try.params7] at hA hval
 obtain ⟨v0, vs0, d0, ds0, p0, q0, hargs, rfl, rfl, h0, r0⟩ := trodAll_cons hA
 obtain ⟨v1, vs1, d1, ds1, p1, q1, rfl, rfl, rfl, h1, r1⟩ := trodAll_cons r0
 obtain ⟨v2, vs2, d2, ds2, p2, q2, rfl, rfl, rfl, h2, r2⟩ := trodAll_cons r1
 obtain ⟨rfl, rfl, rfl⟩ := trodAll_nil r2
 obtain rfl : args = #[v0, v1, v2] := by cases args; simp_all
 obtain ⟨rfl, rfl⟩ := trodVars_none hV
 have tl0 : ∀ x ∈ p0, x.block < W.heap.size := by obtain ⟨m, hm⟩ := h0; exact DataW.trod_lt m _ _ _ hm
 have tl1 : ∀ x ∈ p1, x.block < W.heap.size := by obtain ⟨m, hm⟩ := h1; exact DataW.trod_lt m _ _ _ hm
 have tl2 : ∀ x ∈ p2, x.block < W.heap.size := by obtain ⟨m, hm⟩ := h2; exact DataW.trod_lt m _ _ _ hm
 clear hA0 hval0
 refine (imageLevels_walk (hval 0 26 v0 rfl rfl) h0 (hval 1 3 v1 rfl rfl) h1 (hval 2 3 v2 rfl rfl) h2).mono fun e W' ⟨he, bel⟩ => ?_
 subst he
 exact ⟨_, rfl, _, _, _, [], _, [], hW', trodAll_mk1 (shut_bool Try.underlying4 _), (trodAll_cons_mk (Below.trod laidOut (by kernel_rfl) (of_decide_eq_true (by kernel_rfl)) h0 bel tl0) (trodAll_cons_mk (Below.trod laidOut (by kernel_rfl) (of_decide_eq_true (by kernel_rfl)) h1 bel tl1) (trodAll_cons_mk (Below.trod laidOut (by kernel_rfl) (of_decide_eq_true (by kernel_rfl)) h2 bel tl2) trodAll_mk0))), rfl, bel.frame _, fun h => by cases h⟩
theorem over : Rows.imageLevelsRow.holds Try.pinned (OpenSpec.ofChange Rows.imageLevelsSpec) :=
 OpenClaim.holds_of_wide 7 Try.f7 rfl rfl rfl rfl rfl rfl rfl ⟨rfl, rfl, rfl, rfl, rfl⟩ rfl rfl rfl rfl rfl (by kernel_rfl) Try.func7 (by kernel_rfl)
  (of_decide_eq_true (by kernel_rfl)) (by unfold Func.isWrapper; first | (rw [if_pos (by decide +kernel)]; kernel_rfl) | (rw [if_neg (by decide +kernel)]; exact ⟨rfl, rfl⟩))
  (fun os started H enc _ => lifted os started H enc)
theorem proved : Rows.ImageLevelsSaid := over
#print axioms proved
end Go.Proofs.Ytojpmbkbeoolcaa.imageLevels
