/- DescBack: the loop over all words. -/
import Derived.Test.YtofmndcdcchflaaBK
namespace Go.Proofs.Ytofmndcdcchflaa
open Go.Sx Go Go.DescNum
set_option maxRecDepth 100000
noncomputable def sB : IE := .rem (.wrap .u64 (.var 1)) (.lit 12)
noncomputable def gB : IE := .bit .and .i64 (.var 2) (.lit 65535)
noncomputable def iB : IE := .var 3105
noncomputable def baseB (j : Nat) : IE := .add (.mul sB (.lit 50)) (.lit (34 + j : Nat))
noncomputable def wsB : Nat → SV
 | 0 => .nil
 | n + 1 => .wr (baseB n) (.var (3200 + n)) (wsB n)
noncomputable def rowB (k : Nat) : SV := (List.range (3 * k)).foldr (fun (j : Nat) r => .cons (.int .i64 (.sel 14 (.lit (j : Int)))) r) (.cons (.arr .i64 0 (.mul (.add (.var 3151) (.lit (-(k : Int)))) (.lit 3)) .nil) .nil)
noncomputable def rowSl (k : Nat) : SV := cond (Nat.beq k 0) .nils (.sli 3150 0 (.lit 0) (.lit k) (.var 3151))
noncomputable def argB (e : Bool) : SV := cond e .nils (sl3 10)
noncomputable def lenB (e : Bool) : IE := cond e (.lit 0) (.var 12)
noncomputable def argF (e : Bool) (k h : Int) : List Fact := cond e [] (fa3u 10 k h)
noncomputable def argE (e : Bool) : List Ent := cond e [] [en3 10]
noncomputable def keptB (e : Bool) (k : Nat) : List (Nat × SV) := [(0, argB e), (6, .bool (.lit false)), (9, .int .i64 sB), (10, .int .i64 gB), (17, .int .i64 gB), (18, .int .i64 (.lit 0)), (19, rowSl k), (20, .int .i64 (.lit 0))]
noncomputable def keptE (e : Bool) (k : Nat) : List Ent := argE e ++ cond (Nat.beq k 0) [] [⟨3150, 0, false, 56, .lit 0, rowB k⟩]
noncomputable def capF (k : Nat) : List Fact := [(.var 3151, k, hi64), (.sub (.var 3151) (.lit k), 0, hi64)]
noncomputable def keptF (e : Bool) (k : Nat) : List Fact := argF e k k ++ cond (Nat.beq k 0) [] (capF k)
noncomputable def headB (e : Bool) (k : Nat) : HeadP := {
 tm := slotsN 163 (keptB e k ++ [(13, .sli 3106 0 (.lit 0) (.lit 634) (.lit 634)), (21, .sli 3107 0 (.lit 0) (.lit 634) (.lit 634)), (22, .int .i64 iB)])
 mem := { know := ⟨(iB, 0, 634) :: keptF e k, []⟩, heap := ⟨3106, 0, false, 87, .lit 0, .cons (.arr .i64 3108 (.lit 634) .nil) .nil⟩ :: ⟨3107, 0, false, 87, .lit 0, .cons (.arr .i64 3108 (.lit 634) (wsB (2 + 3 * k))) .nil⟩ :: keptE e k, seg := 3152, next := 0, nv := 3260 }
 mu := .sub (.lit 634) iB }
noncomputable def leaveB (e : Bool) (k : Nat) : LeaveP := { e := .normal, tm := slotsN 163 (keptB e k), mem := { know := ⟨keptF e k, []⟩, heap := keptE e k, seg := 3152, next := 0, nv := 3260 } }
noncomputable def bodyB : Code := loopBody 2 (bodyOf Try.f5)
noncomputable def okB (e : Bool) (k : Nat) (c : List Fact) : Bool := headOk (tabJ []) cx0 (fun _ => none) none 400 2 bodyB 3000 [headB e k] [leaveB e k] ((headB e k).moreC (c, []))
noncomputable def endE (e : Bool) : IE := mkAdd (mkAdd (mkAdd (.lit 34) (mkMul (.lit 50) sB)) (.lit 2)) (mkMul (.lit 3) (lenB e))
noncomputable def farB (k : Nat) (lo hi : Int) : List Fact := (List.range (2 + 3 * k)).map fun j => (mkSub (baseB j) iB, lo, hi)
noncomputable def caseB (e : Bool) (k : Nat) : List (List Fact) :=
 [(iB, 634, 634) :: [], (iB, 0, 633) :: (mkSub iB (baseB 0), -700, -1) :: farB k 1 700,
  [(iB, 0, 633), (mkSub iB (baseB 0), 0, 700), (mkSub iB (endE e), -700, -1)],
  (iB, 0, 633) :: (mkSub iB (baseB 0), 0, 700) :: (mkSub iB (endE e), 0, 700) :: farB k (-700) (-1)]
noncomputable def allB (e : Bool) (k : Nat) : Bool := (caseB e k).all (okB e k)
theorem sB_in {E : Env} (hE : E.Ok) : 0 ≤ ev E sB ∧ ev E sB ≤ 11 := by
 have h := rng_ok hE (fs := []) (fun _ h => (by cases h)) sB
 rw [show rng [] sB = (0, 11) by kernel_rfl] at h
 exact h
theorem coverB {E : Env} (hE : E.Ok) (e : Bool) {k : Nat} (hk : k ≤ 16) (he : e = true → k = 0) (hf : ∀ f ∈ (headB e k).mem.know.facts, FactOk E f) : ∃ c ∈ caseB e k, ∀ f ∈ c, FactOk E f := by
 have hs := sB_in hE
 have hi : 0 ≤ ev E iB ∧ ev E iB ≤ 634 := hf (iB, 0, 634) (by simp [headB])
 have hl : ev E (lenB e) = k := by
  cases e with
  | true =>
   rw [he rfl]
   rfl
  | false =>
   have h : (k : Int) ≤ ev E (.var 12) ∧ ev E (.var 12) ≤ k := hf (.var 12, k, k) (by simp [headB, keptF, argF, fa3u])
   show ev E (.var 12) = k
   omega
 have hb : ∀ j : Nat, ev E (baseB j) = 50 * ev E sB + (34 + j : Nat) := fun j => by
  unfold baseB
  rw [ev_add, ev_mul, ev_lit, ev_lit]
  omega
 have hend : ev E (endE e) = 50 * ev E sB + (36 + 3 * k : Nat) := by
  unfold endE
  rw [mkAdd_ok, mkAdd_ok, mkAdd_ok, mkMul_ok, mkMul_ok, ev_lit, ev_lit, ev_lit, ev_lit, hl]
  omega
 have far : ∀ lo hi : Int, (∀ j : Nat, j < 2 + 3 * k → lo ≤ ev E (baseB j) - ev E iB ∧ ev E (baseB j) - ev E iB ≤ hi) → ∀ f ∈ farB k lo hi, FactOk E f := fun lo hi h f hf => by
  obtain ⟨j, hj, rfl⟩ := List.mem_map.1 hf
  unfold FactOk
  dsimp only
  rw [mkSub_ok]
  exact h j (List.mem_range.1 hj)
 have b0 := hb 0
 have two : ∀ {x y : IE} {lo hi : Int}, lo ≤ ev E x - ev E y → ev E x - ev E y ≤ hi → FactOk E (mkSub x y, lo, hi) := fun h1 h2 => by
  unfold FactOk
  dsimp only
  rw [mkSub_ok]
  exact ⟨h1, h2⟩
 by_cases h6 : ev E iB = 634
 ·refine ⟨_, List.mem_cons_self .., fun f hf => ?_⟩
  rcases List.mem_singleton.1 hf with rfl
  exact show (634 : Int) ≤ ev E iB ∧ ev E iB ≤ 634 by omega
 have hin : FactOk E (iB, 0, 633) := show (0 : Int) ≤ ev E iB ∧ ev E iB ≤ 633 by omega
 by_cases h1 : ev E iB < ev E (baseB 0)
 ·refine ⟨_, List.mem_cons_of_mem _ (List.mem_cons_self ..), fun f hf => ?_⟩
  rcases List.mem_cons.1 hf with rfl | hf
  ·exact hin
  rcases List.mem_cons.1 hf with rfl | hf
  ·exact two (by omega) (by omega)
  ·exact far 1 700 (fun j hj => by have := hb j; omega) f hf
 by_cases h2 : ev E iB < ev E (endE e)
 ·refine ⟨_, List.mem_cons_of_mem _ (List.mem_cons_of_mem _ (List.mem_cons_self ..)), fun f hf => ?_⟩
  simp only [List.mem_cons, List.not_mem_nil, or_false] at hf
  rcases hf with rfl | rfl | rfl
  ·exact hin
  ·exact two (by omega) (by omega)
  ·exact two (by omega) (by omega)
 ·refine ⟨_, List.mem_cons_of_mem _ (List.mem_cons_of_mem _ (List.mem_cons_of_mem _ (List.mem_cons_self ..))), fun f hf => ?_⟩
  rcases List.mem_cons.1 hf with rfl | hf
  ·exact hin
  rcases List.mem_cons.1 hf with rfl | hf
  ·exact two (by omega) (by omega)
  rcases List.mem_cons.1 hf with rfl | hf
  ·exact two (by omega) (by omega)
  ·exact far (-700) (-1) (fun j hj => by have := hb j; omega) f hf
noncomputable def loopB (e : Bool) (k : Nat) : Fr → X (SX × Fr) := liftB 3000 (loopP 3000 [headB e k] [leaveB e k])
theorem loopB_ok {V : List Int} {e : Bool} {k : Nat} (hk : k ≤ 16) (he : e = true → k = 0) (hall : allB e k = true) : LxOk (G0 V) Try.prog (5, 2, loopB e k) := lx_ok Try.func5 (c := bodyOf Try.f5) rfl (b := bodyB) (by kernel_rfl) (liftB_ok (loopPe_ok (T := tabJ []) (cx := cx0) cx0_ok (jm := none) (fuel := 400) (noBlocks_ok _ _) (fun y hy => by
 rcases List.mem_singleton.1 hy with rfl
 refine ⟨(caseB e k).map fun c => (c, []), fun E _ hE hf => ?_, fun c hc => ?_⟩
 ·obtain ⟨c, hc, h⟩ := coverB hE e hk he hf
  exact ⟨(c, []), List.mem_map.2 ⟨c, hc, rfl⟩, h, fun _ h => (by cases h)⟩
 ·obtain ⟨c', hc', rfl⟩ := List.mem_map.1 hc
  exact List.all_eq_true.1 hall c' hc')))
noncomputable def funB (e : Bool) (k : Nat) : List SV → X SV := callF (tabJ []) (spOf spB) (bxOf [(14, 1, mWr), (5, 2, loopB e k)]) 400 12 5
noncomputable def okBk (e : Bool) (k : Nat) : Bool := allOf (funB e k [argB e, vi 1, vi 2] (slMem (argE e) (argF e k k) 60)) isTrue
noncomputable def okBm : Bool := allOf (callF (tabJ []) (spOf spB) (bxOf []) 400 12 5 [argB false, vi 1, vi 2] (slMem (argE false) (argF false 17 hi64) 60)) isTrue
theorem funB_ok {V : List Int} {e : Bool} {k : Nat} (hk : k ≤ 16) (he : e = true → k = 0) (hall : allB e k = true) : SpecOk (G0 V) Try.prog 5 (funB e k) := callF_ok (spOf_ok okSpB) (bxOf_ok (by
 intro y hy
 rcases List.mem_cons.1 hy with rfl | hy
 ·exact mWr_ok
 ·rcases List.mem_singleton.1 hy with rfl
  exact loopB_ok hk he hall)) 400 12 5
end Go.Proofs.Ytofmndcdcchflaa
