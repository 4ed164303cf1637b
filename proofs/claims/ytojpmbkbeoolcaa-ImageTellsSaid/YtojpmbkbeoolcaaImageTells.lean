/- The law ImageTells: for every input the call returns true, and each argument reads afterwards as it read before; no condition. -/
import Derived.Test.YtojpmbkbeoolcaaTa
import Derived.Test.YtojpmbkbeoolcaaTb
import Derived.Test.YtojpmbkbeoolcaaD
namespace Go.Proofs.Ytojpmbkbeoolcaa
open Go.Sx Go Go.ChangeShapes Go.WideShapes Go.ChangeAt Go.RowKit Go.Deep
set_option maxRecDepth 100000
abbrev slI (l c : Nat) : List (Nat × List Int) := [(47, [0]), (48, [(l : Int)]), (49, [(c : Int)])]
theorem slI_in {l c : Nat} (h : l ≤ c) (hc : c ≤ maxLen) : ∀ y ∈ slI l c, ∀ z ∈ y.2, in64 z := one_in zero_in (one_in (len_in (Nat.le_trans h hc)) (one_in (len_in hc) none_in))
theorem run_T {s : List SV → X SV} (hs : SpecOk G0 Try.prog 4 s) {sv : SV} {ents : List Ent} {fs : List Fact} (hrun : allOf (s [stV 1 20, vi 5, sv] (slMem ents fs 60)) isTrue = true) {w : World} {E : Env} (hE : E.Ok) (hf : E.f = G0) (hb : E.base 0 = w.heap.size) (h0 : E.o 0 = 0)
  (hents : ∀ e ∈ ents, e.ro = true ∧ EntOk E w e) (hfs : ∀ f ∈ fs, FactOk E f) {v0 v1 v2 : Value} (hv : dv E (stV 1 20) = v0) (h1 : dv E (vi 5) = v1) (h2 : dv E sv = v2) : Calls Try.prog 4 #[v0, v1, v2] w fun r w' => r = .returned (.bool true) ∧ Below w.heap.size w w' := by
 have := law_ok hs hrun (E := E) (w := w) hf (slMem_ok 60 hE hb h0 hents hfs)
 rw [List.map_cons, List.map_cons, List.map_cons, List.map_nil, hv, h1, h2] at this
 exact this
theorem tells_ops {w : World} {c0 c1 c2 c3 a : Int} {i0 i1 i2 i3 i4 : Bool} (g0 : in64 c0) (g1 : in64 c1) (g2 : in64 c2) (g3 : in64 c3) (ga : in64 a) {v2 : Value} {bb o len cap : Nat} {os : List Int} (ho : SlIn w 4 v2 bb o len cap os) (hl : len ≤ 4398046510976) : Calls Try.prog 4 #[stVals [c0, c1, c2, c3] [i0, i1, i2, i3, i4], .int .i64 a, v2] w fun r w' => r = .returned (.bool true) ∧ Below w.heap.size w w' := by
 let E := envL w [c0, c1, c2, c3] [i0, i1, i2, i3, i4] [(10, os)] ((5, [a]) :: slI len cap) [(46, bb)] [(46, o)]
 have hE : E.Ok := envL_ok (in4s g0 g1 g2 g3) (fun y hy => by
  rcases List.mem_singleton.1 hy with rfl
  exact ho.nums) (one_in ga (slI_in ho.room ho.max))
 have hN : SlArg.Named ⟨46, 47, 48, 49, 10, 4, bb, o, len, cap, os⟩ E := ⟨rfl, rfl, rfl, rfl, rfl, rfl, (by show (10 : Nat) ≠ 0; decide)⟩
 have hH := holds_of ho 46 47 48 49 10
 have hent : ∀ e ∈ [osF], e.ro = true ∧ EntOk E w e := fun e he => by
  rcases List.mem_singleton.1 he with rfl
  exact ⟨rfl, SlArg.ent hN hH⟩
 have hsl : ∀ f ∈ slF 47 48 49 4398046510976, FactOk E f := SlArg.facts hN hH (by show (len : Int) ≤ 4398046510976; omega)
 have h2 : dv E osW = v2 := by rw [ho.val]; exact SlArg.val hN
 have h2z : len = 0 → dv E (.sli 46 0 (.var 47) (.lit 0) (.var 49)) = v2 := fun h => by rw [ho.val]; subst h; exact SlArg.val hN
 have v48 : ∀ {lo hi : Int}, lo ≤ (len : Int) → (len : Int) ≤ hi → FactOk E (.var 48, lo, hi) := fun h1 h2 => ⟨h1, h2⟩
 rcases (by omega : len = 0 ∨ len = 1 ∨ len = 2 ∨ 3 ≤ len) with h | h | h | h
 ·exact run_T (funL_ok okSpT 4) ti_0 hE rfl rfl rfl hent (cons_fact (v48 (by omega) (by omega)) hsl) rfl rfl (h2z h)
 ·exact run_T (funL_ok okSpT 4) ti_1 hE rfl rfl rfl hent (cons_fact (v48 (by omega) (by omega)) hsl) rfl rfl h2
 ·exact run_T (funL_ok okSpT 4) ti_2 hE rfl rfl rfl hent (cons_fact (v48 (by omega) (by omega)) hsl) rfl rfl h2
 ·exact run_T (funL_ok okSpT 4) ti_3 hE rfl rfl rfl hent (cons_fact (v48 (by omega) (by omega)) hsl) rfl rfl h2
theorem imageTells_walk {w : World} {r : Reach} {b0 : Nat} {v0 v1 v2 : Value} {H : Type} {enc : TypeId × Value → H} {base : Nat} {spare : Nat → Bool} {held : Bool} {d0 d1 d2 : DataW H} {p0 p1 p2 : List MemPlace} {ts : List TypeId}
  (k0 : Value.okWide Try.prog w r b0 26 v0) (_ : DataW.Trod enc Try.prog w base spare held 26 v0 d0 p0)
  (k1 : Value.okWide Try.prog w r b0 3 v1) (h1 : DataW.Trod enc Try.prog w base spare held 3 v1 d1 p1)
  (k2 : Value.okWide Try.prog w r b0 41 v2) (h2 : DataW.Trod enc Try.prog w base spare held 41 v2 d2 p2)
  (hsz : (DataW.weightsEach Try.prog ([26, 3, 41] ++ ts) ([d0, d1, d2] ++ [])).all (· ≤ reachBytes) = true) :
  Calls Try.prog 4 #[v0, v1, v2] w fun r w' => r = .returned (.bool true) ∧ Below w.heap.size w w' := by
 obtain ⟨c0, c1, c2, c3, i0, i1, i2, i3, i4, rfl, g0, g1, g2, g3⟩ := open_st k0
 obtain ⟨a, rfl, _, _, wa⟩ := open_int Try.underlying3 k1 h1
 rw [List.all_eq_true] at hsz
 have hw : ∀ n ∈ d2.weights Try.prog 41, n ≤ reachBytes := fun n hn => by
  have : n ∈ DataW.weightsEach Try.prog ([26, 3, 41] ++ ts) ([d0, d1, d2] ++ []) := by
   show n ∈ d0.weights Try.prog 26 ++ (d1.weights Try.prog 3 ++ (d2.weights Try.prog 41 ++ _))
   exact List.mem_append_right _ (List.mem_append_right _ (List.mem_append_left _ hn))
  exact of_decide_eq_true (hsz n this)
 rcases open_opsZ k2 h2 hw with rfl | ⟨bb, o, len, cap, os, ho, hl⟩
 ·have hE : (envL w [c0, c1, c2, c3] [i0, i1, i2, i3, i4] [] ((5, [a]) :: []) [] []).Ok := envL_ok (in4s g0 g1 g2 g3) none_in (one_in (i64_bd wa) none_in)
  exact run_T (ents := []) (funL_ok okSpT 4) ti_n hE rfl rfl rfl (fun _ h => (by cases h)) (fun _ h => (by cases h)) rfl rfl rfl
 ·exact tells_ops g0 g1 g2 g3 (i64_bd wa) ho hl
end Go.Proofs.Ytojpmbkbeoolcaa
namespace Go.Proofs.Ytojpmbkbeoolcaa.imageTells
open Go.ChangeShapes Go.WideShapes Go.ChangeAt Go.RowKit Go.Deep
set_option maxRecDepth 100000 in
theorem lifted (os : Os) (started : os.Started) (H : Type) (enc : TypeId × Value → H) :
  ReturnsInHanded {} Try.checked os 4 .any (Rows.imageTellsSpec.pre6 enc Try.prog Try.f4 Rows.imageTellsRow.domain false) (Rows.imageTellsSpec.post enc Try.prog Try.f4 false true false false) := by
 refine returnsInHanded_of_change_sized (C := Try.checked) own started (by kernel_rfl) Try.func4
  (ChangeSpec.witness6 (enc := enc) (C := Try.checked) false ⟨#[], #[.agg (Array.replicate 4 (.int .i64 0) ++ Array.replicate 5 (.bool false)), .int .i64 0, .slice none 0 0], []⟩ 60 (by kernel_rfl) (by kernel_rfl) (by kernel_rfl) (by kernel_rfl)) ?_
 intro W base args ds gs before hval0 hW _ hsz0 _
 have hval : ∀ (j : Nat) t v, Try.f4.params[j]? = some t → args[j]? = some v → Value.okWide Try.prog W .any base t v := hval0
 have hsz : (DataW.weightsEach Try.prog (Try.f4.params.toList ++ Rows.imageTellsSpec.plain.varTypes Try.prog) (ds ++ gs)).all (· ≤ reachBytes) = true := hsz0
 have hW' := hW
 obtain ⟨p, q, hA0, hV, rfl, _, _⟩ := hW
 have hA : DataW.TrodAll enc Try.prog W 0 (fun _ => true) true Try.f4.params.toList args.toList ds p := hA0
 rw [Try.params4] at hA hval hsz
 obtain ⟨v0, vs0, d0, ds0, p0, q0, hargs, rfl, rfl, h0, r0⟩ := trodAll_cons hA
 obtain ⟨v1, vs1, d1, ds1, p1, q1, rfl, rfl, rfl, h1, r1⟩ := trodAll_cons r0
 obtain ⟨v2, vs2, d2, ds2, p2, q2, rfl, rfl, rfl, h2, r2⟩ := trodAll_cons r1
 obtain ⟨rfl, rfl, rfl⟩ := trodAll_nil r2
 obtain rfl : args = #[v0, v1, v2] := by cases args; simp_all
 obtain ⟨rfl, rfl⟩ := trodVars_none hV
 have tl0 : ∀ x ∈ p0, x.block < W.heap.size := by obtain ⟨m, hm⟩ := h0; exact DataW.trod_lt m _ _ _ hm
 have tl1 : ∀ x ∈ p1, x.block < W.heap.size := by obtain ⟨m, hm⟩ := h1; exact DataW.trod_lt m _ _ _ hm
 have tl2 : ∀ x ∈ p2, x.block < W.heap.size := by obtain ⟨m, hm⟩ := h2; exact DataW.trod_lt m _ _ _ hm
 clear hA0 hval0
 refine (imageTells_walk (hval 0 26 v0 rfl rfl) h0 (hval 1 3 v1 rfl rfl) h1 (hval 2 41 v2 rfl rfl) h2 hsz).mono fun e W' ⟨he, bel⟩ => ?_
 subst he
 exact ⟨_, rfl, _, _, _, [], _, [], hW', trodAll_mk1 (shut_bool Try.underlying4 _), (trodAll_cons_mk (Below.trod laidOut (by kernel_rfl) (of_decide_eq_true (by kernel_rfl)) h0 bel tl0) (trodAll_cons_mk (Below.trod laidOut (by kernel_rfl) (of_decide_eq_true (by kernel_rfl)) h1 bel tl1) (trodAll_cons_mk (Below.trod laidOut (by kernel_rfl) (of_decide_eq_true (by kernel_rfl)) h2 bel tl2) trodAll_mk0))), rfl, bel.frame _, fun h => by cases h⟩
theorem over : Rows.imageTellsRow.holds Try.pinned (OpenSpec.ofChange Rows.imageTellsSpec) :=
 OpenClaim.holds_of_wide 4 Try.f4 rfl rfl rfl rfl rfl rfl rfl ⟨rfl, rfl, rfl, rfl, rfl⟩ rfl rfl rfl rfl rfl (by kernel_rfl) Try.func4 (by kernel_rfl)
  (of_decide_eq_true (by kernel_rfl)) (by unfold Func.isWrapper; first | (rw [if_pos (by decide +kernel)]; kernel_rfl) | (rw [if_neg (by decide +kernel)]; exact ⟨rfl, rfl⟩))
  (fun os started H enc _ => lifted os started H enc)
theorem proved : Rows.ImageTellsSaid := over
#print axioms proved
end Go.Proofs.Ytojpmbkbeoolcaa.imageTells
