/- DescRows: its loop. -/
import Derived.Test.YtofmndcdcchflaaRV
namespace Go.Proofs.Ytofmndcdcchflaa
open Go.Sx Go Go.DescNum
set_option maxRecDepth 100000
noncomputable def ssD (a : Bool) : SV := cond a (.sli 141 0 (.lit 0) (g0 1106) (.add (g0 1106) (.var 164))) .nils
noncomputable def ssED (a : Bool) : List Ent := cond a [entR 141 56 (.cons (.arr .i64 1000003 (.mul (g0 1106) (.lit 3)) .nil) (.cons (.arr .i64 0 (.mul (.var 164) (.lit 3)) .nil) .nil))] []
noncomputable def ssFD (a : Bool) : List Fact := cond a [(g0 1106, 1, 16), (.var 164, 0, hi64), (.add (g0 1106) (.var 164), 0, hi64)] [(g0 1106, 0, 0)]
noncomputable def headD (a : Bool) (i : Nat) : HeadP := {
 tm := slotsN 46 [(1, .ptr 101 0 (.lit 0)), (2, .bool (.lit false)), (3, ssD a), (4, .int .i64 cR), (5, .int .i64 (.lit i))]
 mem := { know := ⟨(cR, 0, 16) :: (minus cR (g1 1101 (.lit i)), 0, 0) :: ssFD a, []⟩, heap := entR 101 25 viewC :: ssED a, seg := 165, next := 0, nv := 170 }
 mu := .lit (16 - (i : Int)) }
noncomputable def lessF (x y : IE) : List Fact := [(.sub x y, -16, -1), (.sub y x, 1, 16)]
noncomputable def knownD (i : Nat) : List Fact × List BE := ((.add cR (.lit 1), 1, 16) :: zeroF (minus (.add cR (.lit 1)) (g1 1101 (.lit (i + 1 : Nat)))) :: (lessF cR (g0 1106) ++ (eqF (.lit i) (.sel 1000003 (atR true 0)) ++ (eqF (.sel 1000004 (.lit i)) (.sel 1000003 (atR true 1)) ++ eqF (.sel 1000005 (.lit i)) (.sel 1000003 (atR true 2))))), [kB i])
noncomputable def freeD (i : Nat) : List Fact × List BE := ([zeroF (minus cR (g1 1101 (.lit (i + 1 : Nat))))], [.not (kB i)])
noncomputable def endD : List Fact × List BE := ([zeroF (minus (g0 1106) cR)], [])
noncomputable def casesD (a : Bool) (i : Nat) : List (List Fact × List BE) := cond (Nat.beq i 16) [endD] (freeD i :: cond a [knownD i] [])
noncomputable def leavesD : List LeaveP := [false, true].map fun a => { e := .normal, tm := slotsN 46 [(2, .bool (.lit false)), (3, ssD a), (4, .int .i64 (g0 1106))], mem := { know := ⟨ssFD a, []⟩, heap := [], seg := 165, next := 0, nv := 170 } }
noncomputable def headsD : List HeadP := (List.range 17).flatMap fun i => [headD false i, headD true i]
noncomputable def bodyD : Code := loopBody 0 (bodyOf Try.f6)
noncomputable def okD (a : Bool) (i : Nat) (c : List Fact × List BE) : Bool := headOk (tabJ []) cx0 (fun _ => none) none 400 0 bodyD 100 (cond (Nat.beq i 16) [] [headD a (i + 1)]) leavesD ((headD a i).moreC c)
noncomputable def allD (i : Nat) : Bool := [false, true].all fun a => (casesD a i).all (okD a i)
theorem rd0 : allD 0 = true := by kernel_rfl
theorem rd1 : allD 1 = true := by kernel_rfl
theorem rd2 : allD 2 = true := by kernel_rfl
theorem rd3 : allD 3 = true := by kernel_rfl
theorem rd4 : allD 4 = true := by kernel_rfl
theorem rd5 : allD 5 = true := by kernel_rfl
theorem rd6 : allD 6 = true := by kernel_rfl
theorem rd7 : allD 7 = true := by kernel_rfl
theorem rd8 : allD 8 = true := by kernel_rfl
theorem rd9 : allD 9 = true := by kernel_rfl
theorem rd10 : allD 10 = true := by kernel_rfl
theorem rd11 : allD 11 = true := by kernel_rfl
theorem rd12 : allD 12 = true := by kernel_rfl
theorem rd13 : allD 13 = true := by kernel_rfl
theorem rd14 : allD 14 = true := by kernel_rfl
theorem rd15 : allD 15 = true := by kernel_rfl
theorem rd16 : allD 16 = true := by kernel_rfl
theorem allD_ok {i : Nat} (hi : i < 17) : allD i = true := by
 rcases (by omega : i = 0 ∨ i = 1 ∨ i = 2 ∨ i = 3 ∨ i = 4 ∨ i = 5 ∨ i = 6 ∨ i = 7 ∨ i = 8 ∨ i = 9 ∨ i = 10 ∨ i = 11 ∨ i = 12 ∨ i = 13 ∨ i = 14 ∨ i = 15 ∨ i = 16) with rfl | rfl | rfl | rfl | rfl | rfl | rfl | rfl | rfl | rfl | rfl | rfl | rfl | rfl | rfl | rfl | rfl
 ·exact rd0
 ·exact rd1
 ·exact rd2
 ·exact rd3
 ·exact rd4
 ·exact rd5
 ·exact rd6
 ·exact rd7
 ·exact rd8
 ·exact rd9
 ·exact rd10
 ·exact rd11
 ·exact rd12
 ·exact rd13
 ·exact rd14
 ·exact rd15
 ·exact rd16
section
variable {V : List Int} (h : View V) {E : Env} (hE : E.f = G0 V)
include h hE
theorem coverD (a : Bool) {i : Nat} (hi : i ≤ 16) (hf : ∀ f ∈ (headD a i).mem.know.facts, FactOk E f) : ∃ c ∈ casesD a i, (∀ f ∈ c.1, FactOk E f) ∧ ∀ x ∈ c.2, evB E x = true := by
 have c0 := ev1101 hE i hi
 have hc : ev E cR = cnt V i := by
  have := hf (minus cR (g1 1101 (.lit i)), 0, 0) (by simp [headD])
  unfold FactOk at this
  dsimp only at this
  rw [ev_minus, c0] at this
  omega
 have h06 := ev1106 hE
 have ha : a = false → cnt V 16 = 0 := fun e => by
  subst e
  have := hf (g0 1106, 0, 0) (by simp [headD, ssFD])
  unfold FactOk at this
  dsimp only at this
  rw [h06] at this
  omega
 have nob : ∀ x ∈ ([] : List BE), evB E x = true := fun _ h => (by cases h)
 by_cases h16 : i = 16
 ·subst h16
  refine ⟨endD, by unfold casesD; simp, fun f hf => ?_, nob⟩
  rcases List.mem_singleton.1 hf with rfl
  show 0 ≤ ev E (minus (g0 1106) cR) ∧ ev E (minus (g0 1106) cR) ≤ 0
  rw [ev_minus, hc, h06]; omega
 have hlt : i < 16 := by omega
 have hb : Nat.beq i 16 = false := by
  cases hq : Nat.beq i 16 with
  | false => rfl
  | true => exact absurd (Nat.eq_of_beq_eq_true hq) h16
 have c1 := ev1101 hE (i + 1) (by omega)
 have hcs := cnt_succ (V := V) (n := i)
 have hcl := cnt_le (V := V) (i + 1)
 have hmo := cnt_mono (V := V) (n := i + 1) (m := 16) (by omega)
 have htop := cnt_le (V := V) 16
 have eqs : ∀ x y : IE, ev E x = ev E y → ∀ f ∈ eqF x y, FactOk E f := fun x y h1 f hf => by
  simp only [eqF, List.mem_cons, List.not_mem_nil, or_false] at hf
  unfold FactOk
  rcases hf with rfl | rfl
  ·dsimp only; rw [mkSub_ok]; omega
  ·dsimp only; rw [mkSub_ok]; omega
 have at0 : (ev E (atR true 0)).toNat = 3 * cnt V i := by
  show (ev E (.mul cR (.lit 3))).toNat = _
  rw [ev_mul, ev_lit, hc]
  omega
 have at1 : (ev E (atR true 1)).toNat = 3 * cnt V i + 1 := by
  show (ev E (.add (.mul cR (.lit 3)) (.lit 1))).toNat = _
  rw [ev_add, ev_mul, ev_lit, ev_lit, hc]
  omega
 have at2 : (ev E (atR true 2)).toNat = 3 * cnt V i + 2 := by
  show (ev E (.add (.mul cR (.lit 3)) (.lit 2))).toNat = _
  rw [ev_add, ev_mul, ev_lit, ev_lit, hc]
  omega
 cases hk : known V i with
 | true =>
  rw [if_pos hk] at hcs
  obtain ⟨r0, r1, r2⟩ := ents_at (V := V) hlt hk
  obtain rfl : a = true := by
   cases a with
   | true => rfl
   | false => have := ha rfl; omega
  refine ⟨knownD i, by unfold casesD; rw [hb]; simp, fun f hf => ?_, fun x hx => ?_⟩
  ·unfold knownD at hf
   rcases List.mem_cons.1 hf with rfl | hf
   ·show 1 ≤ ev E (.add cR (.lit 1)) ∧ ev E (.add cR (.lit 1)) ≤ 16
    rw [ev_add, ev_lit, hc]; omega
   rcases List.mem_cons.1 hf with rfl | hf
   ·show 0 ≤ ev E (minus (.add cR (.lit 1)) (g1 1101 (.lit (i + 1 : Nat)))) ∧ ev E (minus (.add cR (.lit 1)) (g1 1101 (.lit (i + 1 : Nat)))) ≤ 0
    rw [ev_minus, ev_add, ev_lit, hc, c1, hcs]; omega
   rcases List.mem_append.1 hf with hf | hf
   ·simp only [lessF, List.mem_cons, List.not_mem_nil, or_false] at hf
    unfold FactOk
    rcases hf with rfl | rfl
    ·dsimp only; rw [ev_sub, hc, h06]; omega
    ·dsimp only; rw [ev_sub, hc, h06]; omega
   rcases List.mem_append.1 hf with hf | hf
   ·exact eqs _ _ (by rw [ev_lit, ev_sel, rowE h hE, at0]; exact r0.symm) f hf
   rcases List.mem_append.1 hf with hf | hf
   ·exact eqs _ _ (by
     rw [ev_sel, ev_sel, rowE h hE, rowWas h hE, at1, r1, ev_lit, Int.toNat_natCast]
     unfold wasL
     rw [List.getD_eq_getElem?_getD, List.getElem?_map, List.getElem?_range hlt]
     rfl) f hf
   ·exact eqs _ _ (by
     rw [ev_sel, ev_sel, rowE h hE, rowNow h hE, at2, r2, ev_lit, Int.toNat_natCast]
     unfold nowL
     rw [List.getD_eq_getElem?_getD, List.getElem?_map, List.getElem?_range hlt]
     rfl) f hf
  ·rcases List.mem_singleton.1 hx with rfl
   rw [kB_ev hE, hk]
 | false =>
  rw [if_neg (by rw [hk]; exact Bool.false_ne_true)] at hcs
  refine ⟨freeD i, by unfold casesD; rw [hb]; simp, fun f hf => ?_, fun x hx => ?_⟩
  ·rcases List.mem_singleton.1 hf with rfl
   show 0 ≤ ev E (minus cR (g1 1101 (.lit (i + 1 : Nat)))) ∧ ev E (minus cR (g1 1101 (.lit (i + 1 : Nat)))) ≤ 0
   rw [ev_minus, hc, c1, hcs]; omega
  ·rcases List.mem_singleton.1 hx with rfl
   show (!evB E (kB i)) = true
   rw [kB_ev hE, hk]
   rfl
end
noncomputable def loopD : Fr → X (SX × Fr) := liftB 100 (loopP 100 headsD leavesD)
theorem loopD_ok {V : List Int} (h : View V) : LxOk (G0 V) Try.prog (6, 0, loopD) := lx_ok Try.func6 (c := bodyOf Try.f6) rfl (b := bodyD) (by kernel_rfl) (liftB_ok (loopPe_ok (T := tabJ []) (cx := cx0) cx0_ok (jm := none) (fuel := 400) (noBlocks_ok _ _) (fun y hy => by
 obtain ⟨i, hi, hy⟩ := List.mem_flatMap.1 hy
 have hi := List.mem_range.1 hi
 have key : ∀ a : Bool, ∃ cs : List (List Fact × List BE), (∀ E : Env, E.f = G0 V → E.Ok → (∀ f ∈ (headD a i).mem.know.facts, FactOk E f) → ∃ c ∈ cs, (∀ f ∈ c.1, FactOk E f) ∧ ∀ b ∈ c.2, evB E b = true) ∧ ∀ c ∈ cs, headOk (tabJ []) cx0 (fun _ => none) none 400 0 bodyD 100 headsD leavesD ((headD a i).moreC c) = true := fun a =>
  ⟨casesD a i, fun E hE _ hf => coverD h hE a (by omega) hf, fun c hc => by
   have h2 := List.all_eq_true.1 (allD_ok hi) a (by cases a <;> simp)
   have h3 := List.all_eq_true.1 h2 c hc
   refine headOk_sub (fun x hx => ?_) h3
   cases hb : Nat.beq i 16 with
   | true => rw [hb] at hx; cases hx
   | false =>
    rw [hb] at hx
    have h16 : i ≠ 16 := fun e => by rw [e] at hb; cases hb
    rcases List.mem_singleton.1 hx with rfl
    exact List.mem_flatMap.2 ⟨i + 1, List.mem_range.2 (by omega), by cases a <;> simp⟩⟩
 simp only [List.mem_cons, List.not_mem_nil, or_false] at hy
 rcases hy with rfl | rfl
 ·exact key false
 ·exact key true)))
end Go.Proofs.Ytofmndcdcchflaa
