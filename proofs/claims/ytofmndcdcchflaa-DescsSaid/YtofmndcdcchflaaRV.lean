/- the entries of a view: the loops, their contracts. -/
import Derived.Test.YtofmndcdcchflaaF
import Derived.Test.YtofmndcdcchflaaE4
namespace Go.Proofs.Ytofmndcdcchflaa
open Go.Sx Go Go.DescNum
set_option maxRecDepth 100000
noncomputable def cR : IE := .var 161
noncomputable def entR (s t : Nat) (c : SV) : Ent := ⟨s, 0, false, t, .lit 0, c⟩
noncomputable def outR (a : Bool) : SV := cond a (.sli 141 0 (.lit 0) cR (.add cR (.var 164))) .nils
noncomputable def outER (a : Bool) : List Ent := cond a [entR 141 56 (.cons (.arr .i64 1000003 (.mul cR (.lit 3)) .nil) (.cons (.arr .i64 0 (.mul (.var 164) (.lit 3)) .nil) .nil))] []
noncomputable def outFR (a : Bool) (i : Nat) : List Fact := cond a [(cR, 1, 16), (.var 164, 0, hi64), (.add cR (.var 164), 0, hi64), (minus cR (g1 1101 (.lit i)), 0, 0)] [(g1 1101 (.lit i), 0, 0)]
noncomputable def headR (a : Bool) (i : Nat) : HeadP := {
 tm := []
 mem := { know := ⟨outFR a i, []⟩, heap := entR 101 25 viewC :: outER a, seg := 165, next := 0, nv := 170 }
 mu := .lit (16 - (i : Int)) }
noncomputable def cE (a : Bool) : IE := cond a cR (.lit 0)
noncomputable def c1E (a : Bool) : IE := cond a (.add cR (.lit 1)) (.lit 1)
noncomputable def atR (a : Bool) (k : Int) : IE := cond a (cond (decide (k = 0)) (.mul cR (.lit 3)) (.add (.mul cR (.lit 3)) (.lit k))) (.lit k)
noncomputable def zeroF (e : IE) : Fact := (e, 0, 0)
noncomputable def stayR (a : Bool) (i : Nat) : Fact := cond a (zeroF (minus cR (g1 1101 (.lit (i + 1 : Nat))))) (zeroF (g1 1101 (.lit (i + 1 : Nat))))
noncomputable def eqF (x y : IE) : List Fact := [(mkSub x y, 0, 0), (mkSub y x, 0, 0)]
noncomputable def knownC (a : Bool) (i : Nat) : List Fact × List BE := ((c1E a, 1, 16) :: zeroF (minus (c1E a) (g1 1101 (.lit (i + 1 : Nat)))) :: (eqF (.lit i) (.sel 1000003 (atR a 0)) ++ (eqF (.sel 1000004 (.lit i)) (.sel 1000003 (atR a 1)) ++ eqF (.sel 1000005 (.lit i)) (.sel 1000003 (atR a 2)))), [kB i])
noncomputable def freeC (a : Bool) (i : Nat) : List Fact × List BE := ([stayR a i], [.not (kB i)])
noncomputable def endR (a : Bool) : List Fact × List BE := ([zeroF (minus (g0 1106) (cE a)), zeroF (minus (.mul (g0 1106) (.lit 3)) (.mul (cE a) (.lit 3)))], [])
noncomputable def casesR (a : Bool) (i : Nat) : List (List Fact × List BE) := cond (Nat.beq i 16) [endR a] [knownC a i, freeC a i]
noncomputable def outLR (a : Bool) : SV := cond a (.sli 141 0 (.lit 0) (g0 1106) (.add (g0 1106) (.var 164))) .nils
noncomputable def leaveM (a : Bool) : Mem := { know := ⟨cond a [(g0 1106, 1, 16), (.var 164, 0, hi64), (.add (g0 1106) (.var 164), 0, hi64)] [(g0 1106, 0, 0)], []⟩, heap := cond a [entR 141 56 (.cons (.arr .i64 1000003 (.mul (g0 1106) (.lit 3)) .nil) (.cons (.arr .i64 0 (.mul (.var 164) (.lit 3)) .nil) .nil))] [], seg := 165, next := 0, nv := 170 }
section
variable {V : List Int} (h : View V) {E : Env} (hE : E.f = G0 V)
include h hE
theorem coverR (a : Bool) {i : Nat} (hi : i ≤ 16) (hf : ∀ f ∈ (headR a i).mem.know.facts, FactOk E f) : ∃ c ∈ casesR a i, (∀ f ∈ c.1, FactOk E f) ∧ ∀ x ∈ c.2, evB E x = true := by
 have c0 := ev1101 hE i hi
 have hc : ev E (cE a) = cnt V i := by
  cases a with
  | true =>
   have := hf (minus cR (g1 1101 (.lit i)), 0, 0) (by simp [headR, outFR])
   unfold FactOk at this
   dsimp only at this
   rw [ev_minus, c0] at this
   show ev E cR = _
   omega
  | false =>
   have := hf (g1 1101 (.lit i), 0, 0) (by simp [headR, outFR])
   unfold FactOk at this
   dsimp only at this
   rw [c0] at this
   show (0 : Int) = _
   omega
 have hc1 : ev E (c1E a) = ev E (cE a) + 1 := by cases a <;> rfl
 have nob : ∀ x ∈ ([] : List BE), evB E x = true := fun _ h => (by cases h)
 by_cases h16 : i = 16
 ·subst h16
  refine ⟨endR a, by unfold casesR; simp, fun f hf => ?_, nob⟩
  simp only [endR, List.mem_cons, List.not_mem_nil, or_false] at hf
  rcases hf with rfl | rfl
  ·show 0 ≤ ev E (minus (g0 1106) (cE a)) ∧ ev E (minus (g0 1106) (cE a)) ≤ 0
   rw [ev_minus, hc, ev1106 hE]; omega
  ·show 0 ≤ ev E (minus (.mul (g0 1106) (.lit 3)) (.mul (cE a) (.lit 3))) ∧ ev E (minus (.mul (g0 1106) (.lit 3)) (.mul (cE a) (.lit 3))) ≤ 0
   rw [ev_minus, ev_mul, ev_mul, ev_lit, hc, ev1106 hE]; omega
 have hlt : i < 16 := by omega
 have hb : Nat.beq i 16 = false := by
  cases hq : Nat.beq i 16 with
  | false => rfl
  | true => exact absurd (Nat.eq_of_beq_eq_true hq) h16
 have c1 := ev1101 hE (i + 1) (by omega)
 have hcs := cnt_succ (V := V) (n := i)
 have hcl := cnt_le (V := V) (i + 1)
 have eqs : ∀ x y : IE, ev E x = ev E y → ∀ f ∈ eqF x y, FactOk E f := fun x y h1 f hf => by
  simp only [eqF, List.mem_cons, List.not_mem_nil, or_false] at hf
  unfold FactOk
  rcases hf with rfl | rfl
  ·dsimp only; rw [mkSub_ok]; omega
  ·dsimp only; rw [mkSub_ok]; omega
 have at' : ∀ k : Nat, k < 3 → (ev E (atR a k)).toNat = 3 * cnt V i + k := fun k hk => by
  cases a with
  | true =>
   have hc : ev E cR = cnt V i := hc
   by_cases hk0 : k = 0
   ·subst hk0
    show (ev E (.mul cR (.lit 3))).toNat = _
    rw [ev_mul, ev_lit, hc]
    omega
   ·have e : atR true k = .add (.mul cR (.lit 3)) (.lit k) := by
     unfold atR
     have : decide ((k : Int) = 0) = false := decide_eq_false (by omega)
     rw [this]
     rfl
    rw [e, ev_add, ev_mul, ev_lit, ev_lit, hc]
    omega
  | false =>
   have hc : (0 : Int) = cnt V i := hc
   show (ev E (.lit (k : Int))).toNat = _
   rw [ev_lit]
   omega
 cases hk : known V i with
 | true =>
  rw [if_pos hk] at hcs
  obtain ⟨r0, r1, r2⟩ := ents_at (V := V) hlt hk
  refine ⟨knownC a i, by unfold casesR; rw [hb]; simp, fun f hf => ?_, fun x hx => ?_⟩
  ·unfold knownC at hf
   rcases List.mem_cons.1 hf with rfl | hf
   ·show 1 ≤ ev E (c1E a) ∧ ev E (c1E a) ≤ 16
    rw [hc1, hc]; omega
   rcases List.mem_cons.1 hf with rfl | hf
   ·show 0 ≤ ev E (minus (c1E a) (g1 1101 (.lit (i + 1 : Nat)))) ∧ ev E (minus (c1E a) (g1 1101 (.lit (i + 1 : Nat)))) ≤ 0
    rw [ev_minus, hc1, hc, c1, hcs]; omega
   rcases List.mem_append.1 hf with hf | hf
   ·exact eqs _ _ (by rw [ev_lit, ev_sel, rowE h hE, show atR a 0 = atR a ((0 : Nat) : Int) from rfl, at' 0 (by omega)]; exact r0.symm) f hf
   rcases List.mem_append.1 hf with hf | hf
   ·exact eqs _ _ (by
     rw [ev_sel, ev_sel, rowE h hE, rowWas h hE, show atR a 1 = atR a ((1 : Nat) : Int) from rfl, at' 1 (by omega), r1, ev_lit, Int.toNat_natCast]
     unfold wasL
     rw [List.getD_eq_getElem?_getD, List.getElem?_map, List.getElem?_range hlt]
     rfl) f hf
   ·exact eqs _ _ (by
     rw [ev_sel, ev_sel, rowE h hE, rowNow h hE, show atR a 2 = atR a ((2 : Nat) : Int) from rfl, at' 2 (by omega), r2, ev_lit, Int.toNat_natCast]
     unfold nowL
     rw [List.getD_eq_getElem?_getD, List.getElem?_map, List.getElem?_range hlt]
     rfl) f hf
  ·rcases List.mem_singleton.1 hx with rfl
   rw [kB_ev hE, hk]
 | false =>
  rw [if_neg (by rw [hk]; exact Bool.false_ne_true)] at hcs
  refine ⟨freeC a i, by unfold casesR; rw [hb]; simp, fun f hf => ?_, fun x hx => ?_⟩
  ·rcases List.mem_singleton.1 hf with rfl
   cases a with
   | true =>
    show 0 ≤ ev E (minus cR (g1 1101 (.lit (i + 1 : Nat)))) ∧ ev E (minus cR (g1 1101 (.lit (i + 1 : Nat)))) ≤ 0
    have hc : ev E cR = cnt V i := hc
    rw [ev_minus, hc, c1, hcs]; omega
   | false =>
    show 0 ≤ ev E (g1 1101 (.lit (i + 1 : Nat))) ∧ ev E (g1 1101 (.lit (i + 1 : Nat))) ≤ 0
    have hc : (0 : Int) = cnt V i := hc
    rw [c1, hcs]; omega
  ·rcases List.mem_singleton.1 hx with rfl
   show (!evB E (kB i)) = true
   rw [kB_ev hE, hk]
   rfl
end
noncomputable def outV (a : Bool) : SV := cond a (.sli 3 0 (.lit 0) (g0 1106) (.add (g0 1106) (.var 5))) .nils
noncomputable def leafV (a : Bool) : SV × Mem := (outV a, { know := ⟨cond a [(g0 1106, 1, 16), (.var 5, 0, hi64), (.add (g0 1106) (.var 5), 0, hi64)] [(g0 1106, 0, 0)], []⟩, heap := cond a [entR 3 56 (.cons (.arr .i64 1000003 (.mul (g0 1106) (.lit 3)) .nil) (.cons (.arr .i64 0 (.mul (.var 5) (.lit 3)) .nil) .nil))] [], seg := 6, next := 0, nv := 7 })
noncomputable def leavesV : List (SV × Mem) := [leafV false, leafV true]
noncomputable def formRV (args : List SV) (_ : Mem) : Bool := match args with
 | [.agg c] => c == viewC
 | _ => false
noncomputable def rowsX : List SV → X SV := besideX formRV leavesV
noncomputable def envZ (V : List Int) (w : World) : Env := { i := fun _ => 0, b := fun _ => false, l := fun _ => [], base := fun _ => w.heap.size, o := fun _ => 0, v := fun _ => .tuple #[], f := G0 V }
theorem envZ_ok {V : List Int} {w : World} : (envZ V w).Ok := ⟨fun _ => show in64 0 from (by constructor <;> decide), fun _ _ h => (by cases h), G0_in V⟩
theorem dv_view {E E' : Env} (h : E.f = E'.f) : dv E (.agg viewC) = dv E' (.agg viewC) := by
 have hA : Agree 0 E E' := ⟨fun k h => absurd h (Nat.not_lt_zero k), fun k h => absurd h (Nat.not_lt_zero k), fun k h => absurd h (Nat.not_lt_zero k), fun k h => absurd h (Nat.not_lt_zero k), fun k h => absurd h (Nat.not_lt_zero k), fun k h => absurd h (Nat.not_lt_zero k), h.symm⟩
 exact (dv_agree hA (by kernel_rfl)).symm
theorem rows_gen {V : List Int} (_h : View V) {f : Nat} {s : List SV → X SV} (hs : SpecOk (G0 V) Try.prog f s) (hrun : allOf (s [.agg viewC] (slMem [] [(g1 1101 (.lit 0), 0, 0)] 60)) (leaf leavesV) = true) : SpecOk (G0 V) Try.prog f rowsX := besideX_ok fun F w0 E args m w hE hm hf => by
 unfold formRV at hf
 split at hf
 case h_2 => cases hf
 rename_i c
 rw [beq_iff_eq] at hf
 subst hf
 obtain ⟨outs, ho, hall⟩ := allOf_ok hrun
 have call := run_ro hs ho (E := envZ V w) (w := w) rfl envZ_ok rfl rfl (fun e he => by cases he) (fun f hx => by
  rcases List.mem_singleton.1 hx with rfl
  have := ev1101 (V := V) (E := envZ V w) rfl 0 (by omega)
  unfold FactOk
  dsimp only
  rw [show (g1 1101 (.lit 0)) = g1 1101 (.lit ((0 : Nat) : Int)) from rfl, this]
  exact ⟨Int.le_refl 0, Int.le_refl 0⟩)
 have ha : (([.agg viewC] : List SV).map (dv (envZ V w))).toArray = (([.agg viewC] : List SV).map (dv E)).toArray := by
  show #[dv _ (.agg viewC)] = #[dv E (.agg viewC)]
  rw [dv_view (E := envZ V w) (E' := E) hE.symm]
 rw [ha] at call
 refine call.mono ?_
 rintro e w' ⟨q, hq, E', hA, rfl, hm⟩
 obtain ⟨l, hl, hfit⟩ := anyS_ok (hall q hq)
 rw [Bool.and_eq_true, Bool.not_eq_true'] at hfit
 obtain ⟨hnil, hfit⟩ := hfit
 obtain ⟨_, hm2, hsl⟩ := rerootF_ok hfit hm
 refine ⟨l, hl, E'.by (matchAll 1 [l.1] l.2 [q.1] q.2), hA.f, ?_, hm2⟩
 rcases hsl.slot 0 with hx | ⟨_, hx⟩
 ·have hx : l.1 = .nil := hx
  rw [SV.isNil_iff.2 hx] at hnil
  cases hnil
 ·exact congrArg Ending.returned hx.symm
noncomputable def headRp (a : Bool) (i : Nat) : HeadP := { headR a i with tm := slotsN 28 [(1, .ptr 101 0 (.lit 0)), (3, outR a), (7, .agg flagsC), (8, .int .i64 (.lit i))] }
noncomputable def bodyRp : Code := loopBody 0 (bodyOf Try.f10)
noncomputable def bxRp : BX := oneBx 1 (rowsB (tabJ []) cx0 (fun _ => none) none 400 [1000003] (theBlock 1 bodyRp))
theorem bxRp_ok {G : Gf} : BlocksOk G Try.prog bxRp bodyRp := oneBx_ok (b := theBlock 1 bodyRp) (by kernel_rfl) (rowsB_ok cx0_ok 400 _ (noBlocks_ok _ _))
noncomputable def headsRp : List HeadP := (List.range 17).flatMap fun i => [headRp false i, headRp true i]
noncomputable def leavesRp : List LeaveP := [false, true].map fun a => { e := .normal, tm := slotsN 28 [(3, outLR a)], mem := leaveM a }
noncomputable def okRp (a : Bool) (i : Nat) (c : List Fact × List BE) : Bool := headOk (tabJ []) cx0 bxRp none 400 0 bodyRp 100 (cond (Nat.beq i 16) [] [headRp false (i + 1), headRp true (i + 1)]) leavesRp ((headRp a i).moreC c)
noncomputable def allRp (i : Nat) : Bool := [false, true].all fun a => (casesR a i).all (okRp a i)
theorem rp0 : allRp 0 = true := by kernel_rfl
theorem rp1 : allRp 1 = true := by kernel_rfl
theorem rp2 : allRp 2 = true := by kernel_rfl
theorem rp3 : allRp 3 = true := by kernel_rfl
theorem rp4 : allRp 4 = true := by kernel_rfl
theorem rp5 : allRp 5 = true := by kernel_rfl
theorem rp6 : allRp 6 = true := by kernel_rfl
theorem rp7 : allRp 7 = true := by kernel_rfl
theorem rp8 : allRp 8 = true := by kernel_rfl
theorem rp9 : allRp 9 = true := by kernel_rfl
theorem rp10 : allRp 10 = true := by kernel_rfl
theorem rp11 : allRp 11 = true := by kernel_rfl
theorem rp12 : allRp 12 = true := by kernel_rfl
theorem rp13 : allRp 13 = true := by kernel_rfl
theorem rp14 : allRp 14 = true := by kernel_rfl
theorem rp15 : allRp 15 = true := by kernel_rfl
theorem rp16 : allRp 16 = true := by kernel_rfl
theorem allRp_ok {i : Nat} (hi : i < 17) : allRp i = true := by
 rcases (by omega : i = 0 ∨ i = 1 ∨ i = 2 ∨ i = 3 ∨ i = 4 ∨ i = 5 ∨ i = 6 ∨ i = 7 ∨ i = 8 ∨ i = 9 ∨ i = 10 ∨ i = 11 ∨ i = 12 ∨ i = 13 ∨ i = 14 ∨ i = 15 ∨ i = 16) with rfl | rfl | rfl | rfl | rfl | rfl | rfl | rfl | rfl | rfl | rfl | rfl | rfl | rfl | rfl | rfl | rfl
 ·exact rp0
 ·exact rp1
 ·exact rp2
 ·exact rp3
 ·exact rp4
 ·exact rp5
 ·exact rp6
 ·exact rp7
 ·exact rp8
 ·exact rp9
 ·exact rp10
 ·exact rp11
 ·exact rp12
 ·exact rp13
 ·exact rp14
 ·exact rp15
 ·exact rp16
noncomputable def loopRp : Fr → X (SX × Fr) := liftB 100 (loopP 100 headsRp leavesRp)
theorem loopRp_ok {V : List Int} (h : View V) : LxOk (G0 V) Try.prog (10, 0, loopRp) := lx_ok Try.func10 (c := bodyOf Try.f10) rfl (b := bodyRp) (by kernel_rfl) (liftB_ok (loopPe_ok (T := tabJ []) (cx := cx0) cx0_ok (jm := none) (fuel := 400) bxRp_ok (fun y hy => by
 obtain ⟨i, hi, hy⟩ := List.mem_flatMap.1 hy
 have hi := List.mem_range.1 hi
 have key : ∀ a : Bool, ∃ cs : List (List Fact × List BE), (∀ E : Env, E.f = G0 V → E.Ok → (∀ f ∈ (headRp a i).mem.know.facts, FactOk E f) → ∃ c ∈ cs, (∀ f ∈ c.1, FactOk E f) ∧ ∀ b ∈ c.2, evB E b = true) ∧ ∀ c ∈ cs, headOk (tabJ []) cx0 bxRp none 400 0 bodyRp 100 headsRp leavesRp ((headRp a i).moreC c) = true := fun a =>
  ⟨casesR a i, fun E hE _ hf => coverR h hE a (by omega) hf, fun c hc => by
   have h2 := List.all_eq_true.1 (allRp_ok hi) a (by cases a <;> simp)
   have h3 := List.all_eq_true.1 h2 c hc
   refine headOk_sub (fun x hx => ?_) h3
   cases hb : Nat.beq i 16 with
   | true => rw [hb] at hx; cases hx
   | false =>
    rw [hb] at hx
    have h16 : i ≠ 16 := fun e => by rw [e] at hb; cases hb
    exact List.mem_flatMap.2 ⟨i + 1, List.mem_range.2 (by omega), hx⟩⟩
 simp only [List.mem_cons, List.not_mem_nil, or_false] at hy
 rcases hy with rfl | rfl
 ·exact key false
 ·exact key true)))
noncomputable def funRp : List SV → X SV := callF (tabJ []) (spOf []) (bxOf [(10, 0, loopRp)]) 400 12 10
theorem funRp_ok {V : List Int} (h : View V) : SpecOk (G0 V) Try.prog 10 funRp := callF_ok noSpecs (bxOf_ok (by
 intro y hy
 rcases List.mem_singleton.1 hy with rfl
 exact loopRp_ok h)) 400 12 10
theorem runRp : allOf (funRp [.agg viewC] (slMem [] [(g1 1101 (.lit 0), 0, 0)] 60)) (leaf leavesV) = true := by kernel_rfl
theorem rowsp_ok {V : List Int} (h : View V) : SpecOk (G0 V) Try.prog 10 rowsX := rows_gen h (funRp_ok h) runRp
noncomputable def headRr (a : Bool) (i : Nat) : HeadP := { headR a i with tm := slotsN 27 [(1, .ptr 101 0 (.lit 0)), (3, outR a), (4, .int .i64 (.lit i))] }
noncomputable def bodyRr : Code := loopBody 0 (bodyOf Try.f11)
noncomputable def bxRr : BX := oneBx 1 (rowsB (tabJ []) cx0 (fun _ => none) none 400 [1000003] (theBlock 1 bodyRr))
theorem bxRr_ok {G : Gf} : BlocksOk G Try.prog bxRr bodyRr := oneBx_ok (b := theBlock 1 bodyRr) (by kernel_rfl) (rowsB_ok cx0_ok 400 _ (noBlocks_ok _ _))
noncomputable def headsRr : List HeadP := (List.range 17).flatMap fun i => [headRr false i, headRr true i]
noncomputable def leavesRr : List LeaveP := [false, true].map fun a => { e := .normal, tm := slotsN 27 [(3, outLR a)], mem := leaveM a }
noncomputable def okRr (a : Bool) (i : Nat) (c : List Fact × List BE) : Bool := headOk (tabJ []) cx0 bxRr none 400 0 bodyRr 100 (cond (Nat.beq i 16) [] [headRr false (i + 1), headRr true (i + 1)]) leavesRr ((headRr a i).moreC c)
noncomputable def allRr (i : Nat) : Bool := [false, true].all fun a => (casesR a i).all (okRr a i)
theorem rr0 : allRr 0 = true := by kernel_rfl
theorem rr1 : allRr 1 = true := by kernel_rfl
theorem rr2 : allRr 2 = true := by kernel_rfl
theorem rr3 : allRr 3 = true := by kernel_rfl
theorem rr4 : allRr 4 = true := by kernel_rfl
theorem rr5 : allRr 5 = true := by kernel_rfl
theorem rr6 : allRr 6 = true := by kernel_rfl
theorem rr7 : allRr 7 = true := by kernel_rfl
theorem rr8 : allRr 8 = true := by kernel_rfl
theorem rr9 : allRr 9 = true := by kernel_rfl
theorem rr10 : allRr 10 = true := by kernel_rfl
theorem rr11 : allRr 11 = true := by kernel_rfl
theorem rr12 : allRr 12 = true := by kernel_rfl
theorem rr13 : allRr 13 = true := by kernel_rfl
theorem rr14 : allRr 14 = true := by kernel_rfl
theorem rr15 : allRr 15 = true := by kernel_rfl
theorem rr16 : allRr 16 = true := by kernel_rfl
theorem allRr_ok {i : Nat} (hi : i < 17) : allRr i = true := by
 rcases (by omega : i = 0 ∨ i = 1 ∨ i = 2 ∨ i = 3 ∨ i = 4 ∨ i = 5 ∨ i = 6 ∨ i = 7 ∨ i = 8 ∨ i = 9 ∨ i = 10 ∨ i = 11 ∨ i = 12 ∨ i = 13 ∨ i = 14 ∨ i = 15 ∨ i = 16) with rfl | rfl | rfl | rfl | rfl | rfl | rfl | rfl | rfl | rfl | rfl | rfl | rfl | rfl | rfl | rfl | rfl
 ·exact rr0
 ·exact rr1
 ·exact rr2
 ·exact rr3
 ·exact rr4
 ·exact rr5
 ·exact rr6
 ·exact rr7
 ·exact rr8
 ·exact rr9
 ·exact rr10
 ·exact rr11
 ·exact rr12
 ·exact rr13
 ·exact rr14
 ·exact rr15
 ·exact rr16
noncomputable def loopRr : Fr → X (SX × Fr) := liftB 100 (loopP 100 headsRr leavesRr)
theorem loopRr_ok {V : List Int} (h : View V) : LxOk (G0 V) Try.prog (11, 0, loopRr) := lx_ok Try.func11 (c := bodyOf Try.f11) rfl (b := bodyRr) (by kernel_rfl) (liftB_ok (loopPe_ok (T := tabJ []) (cx := cx0) cx0_ok (jm := none) (fuel := 400) bxRr_ok (fun y hy => by
 obtain ⟨i, hi, hy⟩ := List.mem_flatMap.1 hy
 have hi := List.mem_range.1 hi
 have key : ∀ a : Bool, ∃ cs : List (List Fact × List BE), (∀ E : Env, E.f = G0 V → E.Ok → (∀ f ∈ (headRr a i).mem.know.facts, FactOk E f) → ∃ c ∈ cs, (∀ f ∈ c.1, FactOk E f) ∧ ∀ b ∈ c.2, evB E b = true) ∧ ∀ c ∈ cs, headOk (tabJ []) cx0 bxRr none 400 0 bodyRr 100 headsRr leavesRr ((headRr a i).moreC c) = true := fun a =>
  ⟨casesR a i, fun E hE _ hf => coverR h hE a (by omega) hf, fun c hc => by
   have h2 := List.all_eq_true.1 (allRr_ok hi) a (by cases a <;> simp)
   have h3 := List.all_eq_true.1 h2 c hc
   refine headOk_sub (fun x hx => ?_) h3
   cases hb : Nat.beq i 16 with
   | true => rw [hb] at hx; cases hx
   | false =>
    rw [hb] at hx
    have h16 : i ≠ 16 := fun e => by rw [e] at hb; cases hb
    exact List.mem_flatMap.2 ⟨i + 1, List.mem_range.2 (by omega), hx⟩⟩
 simp only [List.mem_cons, List.not_mem_nil, or_false] at hy
 rcases hy with rfl | rfl
 ·exact key false
 ·exact key true)))
noncomputable def funRr : List SV → X SV := callF (tabJ []) (spOf []) (bxOf [(11, 0, loopRr)]) 400 12 11
theorem funRr_ok {V : List Int} (h : View V) : SpecOk (G0 V) Try.prog 11 funRr := callF_ok noSpecs (bxOf_ok (by
 intro y hy
 rcases List.mem_singleton.1 hy with rfl
 exact loopRr_ok h)) 400 12 11
theorem runRr : allOf (funRr [.agg viewC] (slMem [] [(g1 1101 (.lit 0), 0, 0)] 60)) (leaf leavesV) = true := by kernel_rfl
theorem rowsr_ok {V : List Int} (h : View V) : SpecOk (G0 V) Try.prog 11 rowsX := rows_gen h (funRr_ok h) runRr
end Go.Proofs.Ytofmndcdcchflaa
