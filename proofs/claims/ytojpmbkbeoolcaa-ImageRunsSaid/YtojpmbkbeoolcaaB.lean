/- may an operation be? told by an unknown function. -/
import Derived.Test.YtojpmbkbeoolcaaP
namespace Go.Proofs.Ytojpmbkbeoolcaa
open Go.Sx Go
set_option maxRecDepth 100000
noncomputable def limA (k : Int) : Int := if k ≤ 4 then 3 else if k = 5 ∨ k = 9 then 0 else 4
noncomputable def limB (k : Int) : Int := if k = 4 then 3 else if k = 10 then 4 else 0
theorem may_lim {k a b x : Int} (h0 : 0 ≤ k) (h1 : k ≤ 10) : mayZ k a b x = 1 ↔ (0 ≤ a ∧ a ≤ limA k ∧ 0 ≤ b ∧ b ≤ limB k ∧ 0 ≤ x ∧ x ≤ limX k) := by
 have hk : k = 0 ∨ k = 1 ∨ k = 2 ∨ k = 3 ∨ k = 4 ∨ k = 5 ∨ k = 6 ∨ k = 7 ∨ k = 8 ∨ k = 9 ∨ k = 10 := by omega
 unfold mayZ limA limB limX
 rcases hk with rfl | rfl | rfl | rfl | rfl | rfl | rfl | rfl | rfl | rfl | rfl
 all_goals
  split
  ·refine ⟨fun _ => ?_, fun _ => rfl⟩
   simp only [Int.reduceLE, if_true, if_false, Int.reduceEq, or_self, or_true, or_false]
   omega
  ·refine ⟨fun h => (by cases h), fun h => ?_⟩
   simp only [Int.reduceLE, if_true, if_false, Int.reduceEq, or_self, or_true, or_false] at h
   omega
theorem may_not {k a b x : Int} (h : k ≤ -1 ∨ 11 ≤ k) : mayZ k a b x ≠ 1 := by
 unfold mayZ
 split
 ·omega
 ·intro h; cases h
noncomputable def opU : SV := .agg (.cons (vi 10) (.cons (vi 11) (.cons (vi 12) (.cons (vi 13) .nil))))
noncomputable def notC (kn : Know) (n : Nat) (z : Int) : Bool := (asked kn.conds (.eq (.var n) (.lit z)) == .lit false) || (asked kn.conds (.eq (.lit z) (.var n)) == .lit false)
noncomputable def outK (kn : Know) (n : Nat) (hi : Int) : Bool := factIn kn (.var n) lo64 (-1) || factIn kn (.var n) (hi + 1) hi64 || (zEq hi 0 && notC kn n 0) || (zEq hi 1 && notC kn n 0 && notC kn n 1)
noncomputable def saysK (k : Int) (kn : Know) (c : Bool) : Bool := cond c (decide (0 ≤ k) && decide (k ≤ 10) && factIn kn (.var 11) 0 (limA k) && factIn kn (.var 12) 0 (limB k) && factIn kn (.var 13) 0 (limX k)) (decide (k ≤ -1) || decide (11 ≤ k) || outK kn 11 (limA k) || outK kn 12 (limB k) || outK kn 13 (limX k))
noncomputable def mayWay (k : Int) (q : SV × Mem) : Bool := match q.1 with
 | .bool (.lit c) => saysK k q.2.know c
 | .bool c => saysK k (q.2.know.tell c) true && saysK k (q.2.know.tell (mkNot c)) false
 | _ => false
noncomputable def mayMem (fs : List Fact) : Mem := { know := ⟨fs, []⟩, heap := [], seg := 0, next := 0, nv := 20 }
noncomputable def mayRun (s : List SV → X SV) (k lo hi : Int) : Bool := match s [opU] (mayMem [(.var 10, lo, hi)]) with
 | some outs => outs.all fun q => wrongs q.2.know || mayWay k q
 | none => false
noncomputable def kinds13 : List (Int × Int × Int) := [(-1, lo64, -1), (0, 0, 0), (1, 1, 1), (2, 2, 2), (3, 3, 3), (4, 4, 4), (5, 5, 5), (6, 6, 6), (7, 7, 7), (8, 8, 8), (9, 9, 9), (10, 10, 10), (11, 11, hi64)]
noncomputable def envM (w : World) (k a b x : Int) : Env := { i := fun j => if j = 10 then k else if j = 11 then a else if j = 12 then b else if j = 13 then x else 0, b := fun _ => false, l := fun _ => [], base := fun _ => w.heap.size, o := fun _ => 0, v := fun _ => .tuple #[], f := G0 }
theorem notC_ok {E : Env} {kn : Know} (hk : KnowOk E kn) {n : Nat} {z : Int} (h : notC kn n z = true) : E.i n ≠ z := by
 unfold notC at h
 rw [Bool.or_eq_true, beq_iff_eq, beq_iff_eq] at h
 rcases h with h | h
 ·have := asked_ok hk.conds (.eq (.var n) (.lit z))
  rw [h] at this
  have this : false = decide (E.i n = z) := this
  exact of_decide_eq_false this.symm
 ·have := asked_ok hk.conds (.eq (.lit z) (.var n))
  rw [h] at this
  have this : false = decide (z = E.i n) := this
  exact fun e => of_decide_eq_false this.symm e.symm
theorem outK_ok {E : Env} {kn : Know} (hk : KnowOk E kn) {n : Nat} {hi : Int} (h : outK kn n hi = true) : ¬ (0 ≤ E.i n ∧ E.i n ≤ hi) := by
 unfold outK at h
 simp only [Bool.or_eq_true, Bool.and_eq_true] at h
 rcases h with ((h | h) | ⟨h1, h2⟩) | ⟨⟨h1, h2⟩, h3⟩
 ·have h : lo64 ≤ E.i n ∧ E.i n ≤ -1 := factIn_ok hk h
  omega
 ·have h : hi + 1 ≤ E.i n ∧ E.i n ≤ hi64 := factIn_ok hk h
  omega
 ·have h1 := zEq_ok h1
  have := notC_ok hk h2
  omega
 ·have h1 := zEq_ok h1
  have := notC_ok hk h2
  have := notC_ok hk h3
  omega
theorem saysK_ok {E : Env} {kn : Know} (hk : KnowOk E kn) {k z a b x : Int} (hz : (z = k ∧ 0 ≤ k ∧ k ≤ 10) ∨ (z = -1 ∧ k ≤ -1) ∨ (z = 11 ∧ 11 ≤ k)) (ha : E.i 11 = a) (hb : E.i 12 = b) (hx : E.i 13 = x) {c : Bool} (h : saysK z kn c = true) : c = decide (mayZ k a b x = 1) := by
 subst ha hb hx
 unfold saysK at h
 cases c with
 | true =>
  dsimp only [cond] at h
  simp only [Bool.and_eq_true, decide_eq_true_eq] at h
  obtain ⟨⟨⟨⟨h1, h2⟩, h3⟩, h4⟩, h5⟩ := h
  have h3 : 0 ≤ E.i 11 ∧ E.i 11 ≤ limA z := factIn_ok hk h3
  have h4 : 0 ≤ E.i 12 ∧ E.i 12 ≤ limB z := factIn_ok hk h4
  have h5 : 0 ≤ E.i 13 ∧ E.i 13 ≤ limX z := factIn_ok hk h5
  rcases hz with ⟨rfl, _, _⟩ | hz | hz
  ·exact (decide_eq_true ((may_lim h1 h2).2 ⟨h3.1, h3.2, h4.1, h4.2, h5.1, h5.2⟩)).symm
  ·omega
  ·omega
 | false =>
  dsimp only [cond] at h
  refine (decide_eq_false ?_).symm
  simp only [Bool.or_eq_true, decide_eq_true_eq] at h
  rcases hz with ⟨rfl, k0, k1⟩ | ⟨_, hz⟩ | ⟨_, hz⟩
  ·rw [may_lim k0 k1]
   rcases h with (((h | h) | h) | h) | h
   ·omega
   ·omega
   ·have := outK_ok hk h; omega
   ·have := outK_ok hk h; omega
   ·have := outK_ok hk h; omega
  ·exact may_not (.inl hz)
  ·exact may_not (.inr hz)
def SemMay (f : Nat) : Prop := ∀ (k a b x : Int) (w : World), in64 k → in64 a → in64 b → in64 x → Calls Try.prog f #[opVal k a b x] w fun e w' => Ext (fun _ => False) w w' ∧ e = .returned (.bool (decide (mayZ k a b x = 1)))
theorem may_sem {f : Nat} {s : List SV → X SV} (hs : SpecOk G0 Try.prog f s) (h : (kinds13.all fun p => mayRun s p.1 p.2.1 p.2.2) = true) : SemMay f := by
 intro k a b x w hk ha hb hx
 have hcase : ∃ p ∈ kinds13, (p.2.1 ≤ k ∧ k ≤ p.2.2) ∧ ((p.1 = k ∧ 0 ≤ k ∧ k ≤ 10) ∨ (p.1 = -1 ∧ k ≤ -1) ∨ (p.1 = 11 ∧ 11 ≤ k)) := by
  have h1 := hk.1
  have h2 := hk.2
  rcases (by omega : k ≤ -1 ∨ k = 0 ∨ k = 1 ∨ k = 2 ∨ k = 3 ∨ k = 4 ∨ k = 5 ∨ k = 6 ∨ k = 7 ∨ k = 8 ∨ k = 9 ∨ k = 10 ∨ 11 ≤ k) with h | rfl | rfl | rfl | rfl | rfl | rfl | rfl | rfl | rfl | rfl | rfl | h
  ·exact ⟨(-1, lo64, -1), by simp [kinds13], ⟨h1, h⟩, .inr (.inl ⟨rfl, h⟩)⟩
  ·exact ⟨(0, 0, 0), by simp [kinds13], ⟨Int.le_refl _, Int.le_refl _⟩, .inl ⟨rfl, by decide, by decide⟩⟩
  ·exact ⟨(1, 1, 1), by simp [kinds13], ⟨Int.le_refl _, Int.le_refl _⟩, .inl ⟨rfl, by decide, by decide⟩⟩
  ·exact ⟨(2, 2, 2), by simp [kinds13], ⟨Int.le_refl _, Int.le_refl _⟩, .inl ⟨rfl, by decide, by decide⟩⟩
  ·exact ⟨(3, 3, 3), by simp [kinds13], ⟨Int.le_refl _, Int.le_refl _⟩, .inl ⟨rfl, by decide, by decide⟩⟩
  ·exact ⟨(4, 4, 4), by simp [kinds13], ⟨Int.le_refl _, Int.le_refl _⟩, .inl ⟨rfl, by decide, by decide⟩⟩
  ·exact ⟨(5, 5, 5), by simp [kinds13], ⟨Int.le_refl _, Int.le_refl _⟩, .inl ⟨rfl, by decide, by decide⟩⟩
  ·exact ⟨(6, 6, 6), by simp [kinds13], ⟨Int.le_refl _, Int.le_refl _⟩, .inl ⟨rfl, by decide, by decide⟩⟩
  ·exact ⟨(7, 7, 7), by simp [kinds13], ⟨Int.le_refl _, Int.le_refl _⟩, .inl ⟨rfl, by decide, by decide⟩⟩
  ·exact ⟨(8, 8, 8), by simp [kinds13], ⟨Int.le_refl _, Int.le_refl _⟩, .inl ⟨rfl, by decide, by decide⟩⟩
  ·exact ⟨(9, 9, 9), by simp [kinds13], ⟨Int.le_refl _, Int.le_refl _⟩, .inl ⟨rfl, by decide, by decide⟩⟩
  ·exact ⟨(10, 10, 10), by simp [kinds13], ⟨Int.le_refl _, Int.le_refl _⟩, .inl ⟨rfl, by decide, by decide⟩⟩
  ·exact ⟨(11, 11, hi64), by simp [kinds13], ⟨h, h2⟩, .inr (.inr ⟨rfl, h⟩)⟩
 obtain ⟨p, hp, hr, hz⟩ := hcase
 rw [List.all_eq_true] at h
 have h := h p hp
 unfold mayRun at h
 have hE : (envM w k a b x).Ok := ⟨fun j => (by
  show in64 (if j = 10 then k else if j = 11 then a else if j = 12 then b else if j = 13 then x else 0)
  repeat' split
  all_goals first | assumption | (constructor <;> decide)), fun _ z hz => (by cases hz), G0_in⟩
 have hf : ∀ f ∈ [((.var 10, p.2.1, p.2.2) : Fact)], FactOk (envM w k a b x) f := fun f hf => by
  rcases List.mem_singleton.1 hf with rfl
  exact hr
 split at h
 case h_2 => cases h
 rename_i outs hrun
 rw [List.all_eq_true] at h
 have hm : MemOk (fun _ => False) w (envM w k a b x) (mayMem [(.var 10, p.2.1, p.2.2)]) w := ⟨⟨hE, hf, fun _ h => (by cases h)⟩, (by show w.heap.size = w.heap.size + 0; omega), fun _ h => (by cases h), List.Pairwise.nil, fun _ h => (by cases h), Ext.refl _ _, rfl⟩
 refine (hs _ w _ [opU] _ outs w rfl hrun hm).mono ?_
 rintro e w' ⟨q, hq, E', hL, rfl, hm'⟩
 refine ⟨hm'.ext, ?_⟩
 have hA := hL.agree
 have hq1 := h q hq
 rw [wrongs_ok hm'.know, Bool.false_or] at hq1
 have e1 : E'.i 11 = a := hA.i 11 (show 11 < 20 by decide)
 have e2 : E'.i 12 = b := hA.i 12 (show 12 < 20 by decide)
 have e3 : E'.i 13 = x := hA.i 13 (show 13 < 20 by decide)
 unfold mayWay at hq1
 split at hq1
 ·rename_i c hc
  rw [hc, ← saysK_ok hm'.know hz e1 e2 e3 hq1]
  rfl
 ·rename_i c _ hc
  rw [hc, Bool.and_eq_true] at *
  show Ending.returned (.bool (evB E' c)) = _
  cases hb : evB E' c with
  | true => rw [← saysK_ok (tell_ok hm'.know hb) hz e1 e2 e3 hq1.1]
  | false => rw [← saysK_ok (tell_ok (c := mkNot c) hm'.know (by rw [mkNot_ok, hb]; rfl)) hz e1 e2 e3 hq1.2]
 ·cases hq1
noncomputable def mayE (k a b x : IE) : BE := .eq (.lit 1) (.app 230 (mkArgs [k, a, b, x]))
noncomputable def mayC (kn : Know) (k a b x : IE) : BE := match k, a, b, x with
 | .lit k, .lit a, .lit b, .lit x => .lit (decide (mayZ k a b x = 1))
 | k, a, b, x => match asked kn.conds (mayE k a b x) with
  | .lit v => .lit v
  | _ => match asked kn.conds (.eq (.app 230 (mkArgs [k, a, b, x])) (.lit 1)) with
   | .lit v => .lit v
   | _ => mayE k a b x
theorem mayE_ok {E : Env} (hE : E.f = G0) (k a b x : IE) : evB E (mayE k a b x) = decide (mayZ (ev E k) (ev E a) (ev E b) (ev E x) = 1) := by
 show decide (1 = ev E (.app 230 (mkArgs [k, a, b, x]))) = _
 rw [ev_app, mkArgs_ev, hE, decide_eq_decide]
 exact ⟨fun h => h.symm, fun h => h.symm⟩
theorem mayC_ok {E : Env} (hE : E.f = G0) {kn : Know} (hk : KnowOk E kn) (k a b x : IE) : evB E (mayC kn k a b x) = decide (mayZ (ev E k) (ev E a) (ev E b) (ev E x) = 1) := by
 unfold mayC
 split
 ·rfl
 ·have h1 := asked_ok hk.conds (mayE k a b x)
  have h2 := asked_ok hk.conds (.eq (.app 230 (mkArgs [k, a, b, x])) (.lit 1))
  have h3 : evB E (.eq (.app 230 (mkArgs [k, a, b, x])) (.lit 1)) = evB E (mayE k a b x) := by
   show decide (_ = _) = decide (_ = _)
   rw [decide_eq_decide]
   exact ⟨fun h => h.symm, fun h => h.symm⟩
  rw [mayE_ok hE] at h1
  rw [h3, mayE_ok hE] at h2
  split
  ·rename_i v hv
   rw [hv] at h1
   exact h1
  ·split
   ·rename_i v hv
    rw [hv] at h2
    exact h2
   ·exact mayE_ok hE k a b x
noncomputable def mayX : List SV → X SV := fun args m => match args with
 | [o] => match opOf o with
  | some (k, a, b, x) => cond (m.nm m.nv && (mayE k a b x).nm m.nv && in64S m.know k && in64S m.know a && in64S m.know b && in64S m.know x)
    (nfB (mayC m.know k a b x) fun c => nfN (m.nv + 1) fun sg => nfN (m.nv + 2) fun nv => some [(.bool c, { m with seg := sg, next := 0, nv := nv })]) none
  | none => none
 | _ => none
theorem mayX_ok {f : Nat} (h : SemMay f) : SpecOk G0 Try.prog f mayX := by
 intro F w0 E args m outs w hgf ho hm
 unfold mayX at ho
 split at ho
 case h_2 => cases ho
 rename_i o
 split at ho
 case h_2 => cases ho
 rename_i k a b x hO
 cases hc : (m.nm m.nv && (mayE k a b x).nm m.nv && in64S m.know k && in64S m.know a && in64S m.know b && in64S m.know x) with
 | false => rw [hc] at ho; cases ho
 | true =>
  rw [hc] at ho
  dsimp only [cond] at ho
  rw [nfB_eq, nfN_eq, nfN_eq] at ho
  cases ho
  simp only [Bool.and_eq_true] at hc
  obtain ⟨⟨⟨⟨⟨c1, c2⟩, c3⟩, c4⟩, c5⟩, c6⟩ := hc
  have := h (ev E k) (ev E a) (ev E b) (ev E x) w (in64S_ok hm.know c3) (in64S_ok hm.know c4) (in64S_ok hm.know c5) (in64S_ok hm.know c6)
  rw [← opOf_ok E hO] at this
  refine this.mono ?_
  rintro e w' ⟨hext, rfl⟩
  let E2 := E.two m.nv 0 w'.heap.size
  have hA : Agree m.nv E E2 := two_agree E m.nv _ _
  have hm2 : MemOk F w0 E2 { m with seg := m.nv + 1, next := 0, nv := m.nv + 2 } w' := by
   refine hm.moved c1 hA ⟨hm.know.env.i, hm.know.env.l, hm.know.env.f⟩ hext ?_ ?_
   ·simp [E2, Env.two]
   ·simp [E2, Env.two]
  refine ⟨_, List.mem_singleton_self _, E2, ⟨hA, by show m.nv ≤ m.nv + 2; omega, fun h => by have : m.nv + 2 = m.nv := h; omega⟩, ?_, hm2⟩
  show Ending.returned _ = Ending.returned (.bool (evB E2 (mayC m.know k a b x)))
  have h1 : evB E2 (mayC m.know k a b x) = evB E2 (mayE k a b x) := by
   rw [mayC_ok (E := E2) hgf hm2.know, mayE_ok (E := E2) hgf]
  rw [h1, evB_agree hA _ c2, mayE_ok hgf]
theorem may27 : (kinds13.all fun p => mayRun (fun0 37) p.1 p.2.1 p.2.2) = true := by kernel_rfl
theorem x27_ok : SpecOk G0 Try.prog 37 mayX := mayX_ok (may_sem (fun0_ok 37) may27)
end Go.Proofs.Ytojpmbkbeoolcaa
