/- The law ImageRuns: for every input the call returns true, and each argument reads afterwards as it read before; no condition. -/
import Derived.Test.YtojpmbkbeoolcaaRIx
import Derived.Test.YtojpmbkbeoolcaaRZx
import Derived.Test.YtojpmbkbeoolcaaRRx
import Derived.Test.YtojpmbkbeoolcaaRQx
import Derived.Test.YtojpmbkbeoolcaaDR
namespace Go.Proofs.Ytojpmbkbeoolcaa
open Go.Sx Go Go.ChangeShapes Go.WideShapes Go.ChangeAt Go.RowKit Go.Deep
set_option maxRecDepth 100000
noncomputable def casesR : List (List Fact) := [(finF), (evn 0), (k1 lo64 (-1) :: evn 1), (k1 11 hi64 :: evn 1), (k2 lo64 (-1) :: evn 1), (k2 11 hi64 :: evn 1), (k1 0 5 :: k2 0 5 :: evn 1), (k1 0 5 :: k2 6 10 :: evn 1), (k1 6 10 :: k2 0 5 :: evn 1), (k1 6 10 :: k2 6 10 :: evn 1)]
theorem sel64 {E : Env} (hE : E.Ok) (r : Nat) (i : IE) : in64 (ev E (.sel r i)) := by
 rw [ev_sel]
 have : ∀ l : List Int, (∀ z ∈ l, in64 z) → ∀ n : Nat, in64 (l.getD n 0) := fun l h n => by
  rw [List.getD_eq_getElem?_getD]
  cases hq : l[n]? with
  | none => constructor <;> decide
  | some z => exact h z (List.mem_of_getElem? hq)
 refine this _ (fun z hz => ?_) _
 unfold Env.row at hz
 split at hz
 ·cases hz
 ·exact hE.l r z hz
theorem hbit_bit0 {E : Env} : ev E bit1 = 0 ∨ ev E bit1 = 1 := by
 have : 0 ≤ ev E bit1 ∧ ev E bit1 ≤ 1 := by
  unfold bit1
  rw [ev_bit, ev_lit]
  exact and_in .i64 _ 1 (by decide) (by decide)
 omega
theorem cover {E : Env} (hE : E.Ok) (hf : ∀ f ∈ factsB, FactOk E f) : ∃ c ∈ casesR, ∀ f ∈ c, FactOk E f := by
 have hi : 0 ≤ E.i 72 ∧ E.i 72 ≤ 60 := hf (iE, 0, 60) List.mem_cons_self
 have hl : 0 ≤ E.i 48 ∧ E.i 48 ≤ 4398046510976 := hf (.var 48, 0, 4398046510976) (by simp [factsB, slF])
 have hc : 0 ≤ E.i 49 ∧ E.i 49 ≤ hi64 := hf (.var 49, 0, hi64) (by simp [factsB, slF])
 have hd : 0 ≤ E.i 49 - E.i 48 ∧ E.i 49 - E.i 48 ≤ hi64 := hf (.sub (.var 49) (.var 48), 0, hi64) (by simp [factsB, slF])
 unfold hi64 at hc hd
 by_cases h : E.i 48 - E.i 72 ≤ 1
 ·refine ⟨finF, by simp [casesR], fun f hf => ?_⟩
  unfold finF at hf
  simp only [List.mem_cons, List.not_mem_nil, or_false] at hf
  rcases hf with rfl | rfl
  ·show -100 ≤ E.i 48 - E.i 72 ∧ E.i 48 - E.i 72 ≤ 1
   omega
  ·show -1 ≤ E.i 72 - E.i 48 ∧ E.i 72 - E.i 48 ≤ 100
   omega
 have hb := hbit_bit0 (E := E)
 have hev : ∀ b : Int, ev E bit1 = b → 0 ≤ b → b ≤ 1 → ∀ f ∈ evn b, FactOk E f := fun b hb h0 h1 f hf => by
  unfold evn at hf
  have hadd : ev E (mkAdd iE bit1) = E.i 72 + b := by rw [mkAdd_ok, hb]; rfl
  simp only [List.mem_cons, List.not_mem_nil, or_false] at hf
  unfold FactOk
  rcases hf with rfl | rfl | rfl | rfl | rfl | rfl | rfl | rfl
  ·dsimp only; omega
  ·show 2 ≤ E.i 48 - E.i 72 ∧ E.i 48 - E.i 72 ≤ 4398046510976
   omega
  ·dsimp only
   rw [mkSub_ok, hadd]
   show -hi64 ≤ E.i 72 + b - E.i 49 ∧ E.i 72 + b - E.i 49 ≤ b - 2
   unfold hi64
   omega
  ·dsimp only
   rw [mkSub_ok, hadd]
   show 2 - b ≤ E.i 49 - (E.i 72 + b) ∧ E.i 49 - (E.i 72 + b) ≤ hi64
   unfold hi64
   omega
  ·show 2 ≤ E.i 49 - E.i 72 ∧ E.i 49 - E.i 72 ≤ hi64
   unfold hi64
   omega
  ·show -4398046510976 ≤ E.i 72 - E.i 48 ∧ E.i 72 - E.i 48 ≤ -2
   omega
  ·show -hi64 ≤ E.i 72 - E.i 49 ∧ E.i 72 - E.i 49 ≤ -2
   unfold hi64
   omega
  ·dsimp only
   rw [mkSub_ok, ev_mul, ev_mul, ev_lit]
   show 8 ≤ E.i 48 * 4 - E.i 72 * 4 ∧ E.i 48 * 4 - E.i 72 * 4 ≤ hi64
   unfold hi64
   omega
 rcases hb with hb | hb
 ·exact ⟨evn 0, by simp [casesR], hev 0 hb (by omega) (by omega)⟩
 have h1 := hev 1 hb (by omega) (by omega)
 have s1 := sel64 hE 10 (.mul iE (.lit 4))
 have s2 := sel64 hE 10 (.add (.mul iE (.lit 4)) (.lit 4))
 have put : ∀ {f : Fact} {l : List Fact}, FactOk E f → (∀ g ∈ l, FactOk E g) → ∀ g ∈ f :: l, FactOk E g := fun h hl => cons_fact h hl
 unfold in64 at s1 s2
 by_cases a1 : ev E (.sel 10 (.mul iE (.lit 4))) ≤ -1
 ·exact ⟨_, List.mem_of_getElem? (i := 2) rfl, put ⟨s1.1, a1⟩ h1⟩
 by_cases a2 : 11 ≤ ev E (.sel 10 (.mul iE (.lit 4)))
 ·exact ⟨_, List.mem_of_getElem? (i := 3) rfl, put ⟨a2, s1.2⟩ h1⟩
 by_cases a3 : ev E (.sel 10 (.add (.mul iE (.lit 4)) (.lit 4))) ≤ -1
 ·exact ⟨_, List.mem_of_getElem? (i := 4) rfl, put ⟨s2.1, a3⟩ h1⟩
 by_cases a4 : 11 ≤ ev E (.sel 10 (.add (.mul iE (.lit 4)) (.lit 4)))
 ·exact ⟨_, List.mem_of_getElem? (i := 5) rfl, put ⟨a4, s2.2⟩ h1⟩
 by_cases b1 : ev E (.sel 10 (.mul iE (.lit 4))) ≤ 5
 ·by_cases b2 : ev E (.sel 10 (.add (.mul iE (.lit 4)) (.lit 4))) ≤ 5
  ·exact ⟨_, List.mem_of_getElem? (i := 6) rfl, put (show FactOk E (k1 0 5) from ⟨by show 0 ≤ ev E (.sel 10 (.mul iE (.lit 4))); omega, b1⟩) (put (show FactOk E (k2 0 5) from ⟨by show 0 ≤ ev E (.sel 10 (.add (.mul iE (.lit 4)) (.lit 4))); omega, b2⟩) h1)⟩
  ·exact ⟨_, List.mem_of_getElem? (i := 7) rfl, put (show FactOk E (k1 0 5) from ⟨by show 0 ≤ ev E (.sel 10 (.mul iE (.lit 4))); omega, b1⟩) (put (show FactOk E (k2 6 10) from ⟨by show 6 ≤ ev E (.sel 10 (.add (.mul iE (.lit 4)) (.lit 4))); omega, by show ev E (.sel 10 (.add (.mul iE (.lit 4)) (.lit 4))) ≤ 10; omega⟩) h1)⟩
 ·by_cases b2 : ev E (.sel 10 (.add (.mul iE (.lit 4)) (.lit 4))) ≤ 5
  ·exact ⟨_, List.mem_of_getElem? (i := 8) rfl, put (show FactOk E (k1 6 10) from ⟨by show 6 ≤ ev E (.sel 10 (.mul iE (.lit 4))); omega, by show ev E (.sel 10 (.mul iE (.lit 4))) ≤ 10; omega⟩) (put (show FactOk E (k2 0 5) from ⟨by show 0 ≤ ev E (.sel 10 (.add (.mul iE (.lit 4)) (.lit 4))); omega, b2⟩) h1)⟩
  ·exact ⟨_, List.mem_of_getElem? (i := 9) rfl, put (show FactOk E (k1 6 10) from ⟨by show 6 ≤ ev E (.sel 10 (.mul iE (.lit 4))); omega, by show ev E (.sel 10 (.mul iE (.lit 4))) ≤ 10; omega⟩) (put (show FactOk E (k2 6 10) from ⟨by show 6 ≤ ev E (.sel 10 (.add (.mul iE (.lit 4)) (.lit 4))); omega, by show ev E (.sel 10 (.add (.mul iE (.lit 4)) (.lit 4))) ≤ 10; omega⟩) h1)⟩
noncomputable def loopR : Fr → X (SX × Fr) := loopP 62 heads [leaveR]
theorem runs_loop : CodeOk G0 Try.prog (.block 0 (.loop (loopBody 0 (bodyOf Try.f5)))) loopR := loopPc_ok (T := tabJ []) (cx := cxR) (by unfold cxR; rw [callF_eq]; exact callD_ok (spOf_ok okSpR) noBx 400 12) (jm := none) (fuel := 400) (noBlocks_ok _ _) (fun h hh => by
 unfold heads at hh
 simp only [List.mem_cons, List.not_mem_nil, or_false] at hh
 rcases hh with rfl | rfl | rfl | rfl
 ·exact ⟨casesR, fun E hE hf => cover hE fun f hm => hf f (hm), fun c hc => by
   unfold casesR at hc
   simp only [List.mem_cons, List.not_mem_nil, or_false] at hc
   rcases hc with rfl | rfl | rfl | rfl | rfl | rfl | rfl | rfl | rfl | rfl
   ·exact rI_f
   ·exact rI_e
   ·exact rI_1l
   ·exact rI_1h
   ·exact rI_2l
   ·exact rI_2h
   ·exact rI_aa
   ·exact rI_as
   ·exact rI_sa
   ·exact rI_ss⟩
 ·exact ⟨casesR, fun E hE hf => cover hE fun f hm => hf f (List.mem_cons_of_mem _ (List.mem_cons_of_mem _ hm)), fun c hc => by
   unfold casesR at hc
   simp only [List.mem_cons, List.not_mem_nil, or_false] at hc
   rcases hc with rfl | rfl | rfl | rfl | rfl | rfl | rfl | rfl | rfl | rfl
   ·exact rZ_f
   ·exact rZ_e
   ·exact rZ_1l
   ·exact rZ_1h
   ·exact rZ_2l
   ·exact rZ_2h
   ·exact rZ_aa
   ·exact rZ_as
   ·exact rZ_sa
   ·exact rZ_ss⟩
 ·exact ⟨casesR, fun E hE hf => cover hE fun f hm => hf f (List.mem_append_right _ (List.mem_cons_of_mem _ (List.mem_cons_of_mem _ hm))), fun c hc => by
   unfold casesR at hc
   simp only [List.mem_cons, List.not_mem_nil, or_false] at hc
   rcases hc with rfl | rfl | rfl | rfl | rfl | rfl | rfl | rfl | rfl | rfl
   ·exact rR_f
   ·exact rR_e
   ·exact rR_1l
   ·exact rR_1h
   ·exact rR_2l
   ·exact rR_2h
   ·exact rR_aa
   ·exact rR_as
   ·exact rR_sa
   ·exact rR_ss⟩
 ·exact ⟨casesR, fun E hE hf => cover hE fun f hm => hf f (List.mem_append_right _ (List.mem_cons_of_mem _ (List.mem_cons_of_mem _ hm))), fun c hc => by
   unfold casesR at hc
   simp only [List.mem_cons, List.not_mem_nil, or_false] at hc
   rcases hc with rfl | rfl | rfl | rfl | rfl | rfl | rfl | rfl | rfl | rfl
   ·exact rQ_f
   ·exact rQ_e
   ·exact rQ_1l
   ·exact rQ_1h
   ·exact rQ_2l
   ·exact rQ_2h
   ·exact rQ_aa
   ·exact rQ_as
   ·exact rQ_sa
   ·exact rQ_ss⟩)
noncomputable def funR : List SV → X SV := callF (tabJ []) (spOf spR) (bxOf [(5, 0, loopR)]) 400 12 5
theorem funR_ok : SpecOk G0 Try.prog 5 funR := callF_ok (spOf_ok okSpR) (bxOf_ok (by
 intro y hy
 simp only [List.mem_cons, List.not_mem_nil, or_false] at hy
 subst hy
 exact lx_ok Try.func5 (c := bodyOf Try.f5) rfl (b := loopBody 0 (bodyOf Try.f5)) (by kernel_rfl) runs_loop)) 400 12 5
theorem runs_all : allOf (funR [osW] (memO [])) isTrue = true := by kernel_rfl
theorem runs_nil : allOf (funL spR 5 [.nils] (slMem [] [] 60)) isTrue = true := by kernel_rfl
abbrev slI (l c : Nat) : List (Nat × List Int) := [(47, [0]), (48, [(l : Int)]), (49, [(c : Int)])]
theorem slI_in {l c : Nat} (h : l ≤ c) (hc : c ≤ maxLen) : ∀ y ∈ slI l c, ∀ z ∈ y.2, in64 z := one_in zero_in (one_in (len_in (Nat.le_trans h hc)) (one_in (len_in hc) none_in))
theorem imageRuns_walk {w : World} {r : Reach} {b0 : Nat} {v0 : Value} {H : Type} {enc : TypeId × Value → H} {base : Nat} {spare : Nat → Bool} {held : Bool} {d0 : DataW H} {p0 : List MemPlace} {ts : List TypeId}
  (k0 : Value.okWide Try.prog w r b0 41 v0) (h0 : DataW.Trod enc Try.prog w base spare held 41 v0 d0 p0)
  (hsz : (DataW.weightsEach Try.prog ([41] ++ ts) ([d0] ++ [])).all (· ≤ reachBytes) = true) :
  Calls Try.prog 5 #[v0] w fun r w' => r = .returned (.bool true) ∧ Below w.heap.size w w' := by
 rw [List.all_eq_true] at hsz
 have hw : ∀ n ∈ d0.weights Try.prog 41, n ≤ reachBytes := fun n hn => by
  have : n ∈ DataW.weightsEach Try.prog ([41] ++ ts) ([d0] ++ []) := by
   show n ∈ d0.weights Try.prog 41 ++ _
   exact List.mem_append_left _ hn
  exact of_decide_eq_true (hsz n this)
 rcases open_opsZ k0 h0 hw with rfl | ⟨bb, o, len, cap, os, ho, hl⟩
 ·have hE : (envL w [] [] [] [] [] []).Ok := envL_ok (fun _ h => (by cases h)) none_in none_in
  have := law_ok (funL_ok okSpR 5) runs_nil (E := envL w [] [] [] [] [] []) (w := w) rfl (slMem_ok 60 hE rfl rfl (fun _ h => (by cases h)) (fun _ h => (by cases h)))
  simp only [List.map_cons, List.map_nil] at this
  exact this
 ·let E := envL w [] [] [(10, os)] (slI len cap) [(46, bb)] [(46, o)]
  have hE : E.Ok := envL_ok (fun _ h => (by cases h)) (fun y hy => by
   rcases List.mem_singleton.1 hy with rfl
   exact ho.nums) (slI_in ho.room ho.max)
  have hN : SlArg.Named ⟨46, 47, 48, 49, 10, 4, bb, o, len, cap, os⟩ E := ⟨rfl, rfl, rfl, rfl, rfl, rfl, (by show (10 : Nat) ≠ 0; decide)⟩
  have hH := holds_of ho 46 47 48 49 10
  have hent : ∀ e ∈ [osF], e.ro = true ∧ EntOk E w e := fun e he => by
   rcases List.mem_singleton.1 he with rfl
   exact ⟨rfl, SlArg.ent hN hH⟩
  have hsl : ∀ f ∈ slF 47 48 49 4398046510976, FactOk E f := SlArg.facts hN hH (by show (len : Int) ≤ 4398046510976; omega)
  have h1 : dv E osW = v0 := by rw [ho.val]; exact SlArg.val hN
  have := law_ok funR_ok runs_all (E := E) (w := w) rfl (slMem_ok 60 hE rfl rfl hent hsl)
  rw [List.map_cons, List.map_nil, h1] at this
  exact this
end Go.Proofs.Ytojpmbkbeoolcaa
namespace Go.Proofs.Ytojpmbkbeoolcaa.imageRuns
open Go.ChangeShapes Go.WideShapes Go.ChangeAt Go.RowKit Go.Deep
set_option maxRecDepth 100000 in
theorem lifted (os : Os) (started : os.Started) (H : Type) (enc : TypeId × Value → H) :
  ReturnsInHanded {} Try.checked os 5 .any (Rows.imageRunsSpec.pre6 enc Try.prog Try.f5 Rows.imageRunsRow.domain false) (Rows.imageRunsSpec.post enc Try.prog Try.f5 false true false false) := by
 refine returnsInHanded_of_change_sized (C := Try.checked) own started (by kernel_rfl) Try.func5
  (ChangeSpec.witness6 (enc := enc) (C := Try.checked) false ⟨#[], #[.slice none 0 0], []⟩ 60 (by kernel_rfl) (by kernel_rfl) (by kernel_rfl) (by kernel_rfl)) ?_
 intro W base args ds gs before hval0 hW _ hsz0 _
 have hval : ∀ (j : Nat) t v, Try.f5.params[j]? = some t → args[j]? = some v → Value.okWide Try.prog W .any base t v := hval0
 have hsz : (DataW.weightsEach Try.prog (Try.f5.params.toList ++ Rows.imageRunsSpec.plain.varTypes Try.prog) (ds ++ gs)).all (· ≤ reachBytes) = true := hsz0
 have hW' := hW
 obtain ⟨p, q, hA0, hV, rfl, _, _⟩ := hW
 have hA : DataW.TrodAll enc Try.prog W 0 (fun _ => true) true Try.f5.params.toList args.toList ds p := hA0
 rw [Try.params5] at hA hval hsz
 obtain ⟨v0, vs0, d0, ds0, p0, q0, hargs, rfl, rfl, h0, r0⟩ := trodAll_cons hA
 obtain ⟨rfl, rfl, rfl⟩ := trodAll_nil r0
 obtain rfl : args = #[v0] := by cases args; simp_all
 obtain ⟨rfl, rfl⟩ := trodVars_none hV
 have tl0 : ∀ x ∈ p0, x.block < W.heap.size := by obtain ⟨m, hm⟩ := h0; exact DataW.trod_lt m _ _ _ hm
 clear hA0 hval0
 refine (imageRuns_walk (hval 0 41 v0 rfl rfl) h0 hsz).mono fun e W' ⟨he, bel⟩ => ?_
 subst he
 exact ⟨_, rfl, _, _, _, [], _, [], hW', trodAll_mk1 (shut_bool Try.underlying4 _), (trodAll_cons_mk (Below.trod laidOut (by kernel_rfl) (of_decide_eq_true (by kernel_rfl)) h0 bel tl0) trodAll_mk0), rfl, bel.frame _, fun h => by cases h⟩
theorem over : Rows.imageRunsRow.holds Try.pinned (OpenSpec.ofChange Rows.imageRunsSpec) :=
 OpenClaim.holds_of_wide 5 Try.f5 rfl rfl rfl rfl rfl rfl rfl ⟨rfl, rfl, rfl, rfl, rfl⟩ rfl rfl rfl rfl rfl (by kernel_rfl) Try.func5 (by kernel_rfl)
  (of_decide_eq_true (by kernel_rfl)) (by unfold Func.isWrapper; first | (rw [if_pos (by decide +kernel)]; kernel_rfl) | (rw [if_neg (by decide +kernel)]; exact ⟨rfl, rfl⟩))
  (fun os started H enc _ => lifted os started H enc)
theorem proved : Rows.ImageRunsSaid := over
#print axioms proved
end Go.Proofs.Ytojpmbkbeoolcaa.imageRuns
