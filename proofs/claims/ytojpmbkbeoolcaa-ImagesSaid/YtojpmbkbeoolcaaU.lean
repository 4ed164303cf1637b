/- contracts of calls that only read, or hand out one block. -/
import Derived.Test.YtojpmbkbeoolcaaC
import Derived.Test.YtojpmbkbeoolcaaE5
namespace Go.Proofs.Ytojpmbkbeoolcaa
open Go.Sx Go
set_option maxRecDepth 100000
noncomputable def pureX (form : List SV → Mem → Option (SV × List Fact)) : List SV → X SV := fun args m => match form args m with
 | some (v, fs) => cond (m.nm m.nv && v.nm m.nv && fs.all fun f => f.1.nm m.nv) (nfS v fun v => nfL nfFact fs fun fs => nfN (m.nv + 1) fun sg => nfN (m.nv + 2) fun nv => some [(v, { m with know := ⟨fs ++ m.know.facts, m.know.conds⟩, seg := sg, next := 0, nv := nv })]) none
 | none => none
theorem pureX_ok {f : Nat} {form : List SV → Mem → Option (SV × List Fact)} (h : ∀ (F : Nat → Prop) (w0 : World) (E : Env) (args : List SV) (m : Mem) (w : World) (v : SV) (fs : List Fact), E.f = G0 → MemOk F w0 E m w → form args m = some (v, fs) →
  (Calls Try.prog f (args.map (dv E)).toArray w fun e w' => Ext (fun _ => False) w w' ∧ e = .returned (dv E v)) ∧ ∀ y ∈ fs, FactOk E y) : SpecOk G0 Try.prog f (pureX form) := by
 intro F w0 E args m outs w hgf ho hm
 unfold pureX at ho
 split at ho
 case h_2 => cases ho
 rename_i v fs hform
 cases hc : (m.nm m.nv && v.nm m.nv && fs.all fun f => f.1.nm m.nv) with
 | false => rw [hc] at ho; cases ho
 | true =>
 rw [hc] at ho
 dsimp only [cond] at ho
 rw [nfS_eq, nfL_eq (fun _ _ => nfFact_eq _ _), nfN_eq, nfN_eq] at ho
 cases ho
 simp only [Bool.and_eq_true, List.all_eq_true] at hc
 obtain ⟨⟨c1, c2⟩, c3⟩ := hc
 obtain ⟨hcall, hfs⟩ := h F w0 E args m w v fs hgf hm hform
 refine hcall.mono ?_
 rintro e w' ⟨hext, rfl⟩
 let E2 := E.two m.nv 0 w'.heap.size
 have hAg : Agree m.nv E E2 := two_agree E m.nv _ _
 have hm2 : MemOk F w0 E2 { m with seg := m.nv + 1, next := 0, nv := m.nv + 2 } w' := by
  refine hm.moved c1 hAg ⟨hm.know.env.i, hm.know.env.l, hm.know.env.f⟩ hext ?_ ?_
  ·simp [E2, Env.two]
  ·simp [E2, Env.two]
 refine ⟨_, List.mem_singleton_self _, E2, ⟨hAg, by show m.nv ≤ m.nv + 2; omega, fun h => by have : m.nv + 2 = m.nv := h; omega⟩, ?_, ⟨hm2.know.env, fun y hy => ?_, hm2.know.conds⟩, hm2.size, hm2.ents, hm2.apart, hm2.mine, hm2.ext, hm2.seg0⟩
 ·rw [dv_agree hAg c2]
 ·rcases List.mem_append.1 hy with hy | hy
  ·have := hfs y hy
   unfold FactOk at this ⊢
   rw [ev_agree hAg (c3 y hy)]
   exact this
  ·exact hm2.know.facts y hy
noncomputable def sli16 (n : Nat) : SV := .tup (.cons (.sli n 0 (.lit 0) (.lit 16) (.lit 16)) (.cons (.int .i64 (.lit 0)) .nil))
noncomputable def blkX (t : Nat) (form : List SV → Mem → Option (SV × List Fact)) : List SV → X SV := fun args m => match form args m with
 | some (c, fs) => cond (m.nm m.nv && c.nm m.nv && fs.all fun f => f.1.nm m.nv) (nfS c fun c => nfL nfFact fs fun fs => nfN (m.nv + 1) fun sg => nfN (m.nv + 2) fun nv => nfS (sli16 m.nv) fun v =>
   some [(v, { m with know := ⟨fs ++ m.know.facts, m.know.conds⟩, heap := ⟨m.nv, 0, false, t, .lit 0, c⟩ :: m.heap, seg := sg, next := 0, nv := nv })]) none
 | none => none
theorem blkX_ok {f t : Nat} {form : List SV → Mem → Option (SV × List Fact)} (h : ∀ (F : Nat → Prop) (w0 : World) (E : Env) (args : List SV) (m : Mem) (w : World) (c : SV) (fs : List Fact), E.f = G0 → MemOk F w0 E m w → form args m = some (c, fs) →
  (Calls Try.prog f (args.map (dv E)).toArray w fun e w' => Ext (fun _ => False) w w' ∧ ∃ bl, w.heap.size ≤ bl ∧ bl < w'.heap.size ∧ w'.heap[bl]? = some (.cells (dl E c).toArray t (0, 0)) ∧ e = .returned (.tuple #[.slice (some ⟨bl, 0, none⟩) 16 16, .int .i64 0])) ∧ ∀ y ∈ fs, FactOk E y) : SpecOk G0 Try.prog f (blkX t form) := by
 intro F w0 E args m outs w hgf ho hm
 unfold blkX at ho
 split at ho
 case h_2 => cases ho
 rename_i c fs hform
 cases hc : (m.nm m.nv && c.nm m.nv && fs.all fun f => f.1.nm m.nv) with
 | false => rw [hc] at ho; cases ho
 | true =>
 rw [hc] at ho
 dsimp only [cond] at ho
 rw [nfS_eq, nfL_eq (fun _ _ => nfFact_eq _ _), nfN_eq, nfN_eq, nfS_eq] at ho
 cases ho
 simp only [Bool.and_eq_true, List.all_eq_true] at hc
 obtain ⟨⟨c1, c2⟩, c3⟩ := hc
 obtain ⟨hcall, hfs⟩ := h F w0 E args m w c fs hgf hm hform
 refine hcall.mono ?_
 rintro e w' ⟨hext, bl, b1, b2, b3, rfl⟩
 let E2 := E.two m.nv bl w'.heap.size
 have hAg : Agree m.nv E E2 := two_agree E m.nv _ _
 have hm2 : MemOk F w0 E2 { m with seg := m.nv + 1, next := 0, nv := m.nv + 2 } w' := by
  refine hm.moved c1 hAg ⟨hm.know.env.i, hm.know.env.l, hm.know.env.f⟩ hext ?_ ?_
  ·simp [E2, Env.two]
  ·simp [E2, Env.two]
 have hb2 : E2.base m.nv = bl := by simp [E2, Env.two]
 have ho2 : E2.o m.nv = 0 := by simp [E2, Env.two]
 refine ⟨_, List.mem_singleton_self _, E2, ⟨hAg, by show m.nv ≤ m.nv + 2; omega, fun h => by have : m.nv + 2 = m.nv := h; omega⟩, ?_, ⟨hm2.know.env, fun y hy => ?_, hm2.know.conds⟩, hm2.size, ?_, ?_, ?_, hm2.ext, hm2.seg0⟩
 ·show Ending.returned (.tuple #[.slice (some ⟨bl, 0, none⟩) 16 16, .int .i64 0]) = .returned (.tuple #[.slice (some ⟨E2.base m.nv + 0, E2.o m.nv + 0, none⟩) 16 16, .int .i64 0])
  rw [hb2, ho2]
  rfl
 ·rcases List.mem_append.1 hy with hy | hy
  ·have := hfs y hy
   unfold FactOk at this ⊢
   rw [ev_agree hAg (c3 y hy)]
   exact this
  ·exact hm2.know.facts y hy
 ·intro y hy
  rcases List.mem_cons.1 hy with rfl | hy
  ·refine ⟨?_, fun h => (by cases h), fun _ => ⟨⟨ho2, rfl⟩, ?_⟩, fun h => (by cases h)⟩
   ·simp only [Ent.blk, hb2, Nat.add_zero]; exact b2
   ·simp only [Ent.blk, hb2, Nat.add_zero]
    rw [b3, dl_agree hAg _ c2]
  ·exact hm2.ents y hy
 ·refine List.Pairwise.cons ?_ hm2.apart
  intro y hy _
  have h1' : y.blk E2 < w.heap.size := by
   have h3 := (hm.ents y hy).lt
   have hn2 := c1
   simp only [Mem.nm, Bool.and_eq_true, List.all_eq_true] at hn2
   have h4 := hn2.1.1 y hy
   simp only [Ent.nm, Bool.and_eq_true, decide_eq_true_eq] at h4
   have : y.blk E2 = y.blk E := by simp only [Ent.blk, hAg.base _ h4.1.1]
   rw [this]; exact h3
  simp only [Ent.blk, hb2, Nat.add_zero] at *
  omega
 ·intro y hy hr
  rcases List.mem_cons.1 hy with rfl | hy
  ·left
   simp only [Ent.blk, hb2, Nat.add_zero] at *
   have := hm.ext.size
   omega
  ·exact hm2.mine y hy hr
noncomputable def flatI : SV → Option (List IE)
 | .nil => some []
 | .cons (.int kd e) r => match flatI r with
  | some l => cond (Nat.beq (kindNo kd) (kindNo .i64)) (some (e :: l)) none
  | none => none
 | .cons (.arr kd q (.lit z) ws) r => match litAll q ws 0 z.toNat, flatI r with
  | some l, some l' => cond (Nat.beq (kindNo kd) (kindNo .i64)) (some (l ++ l')) none
  | _, _ => none
 | _ => none
theorem flatI_ok (E : Env) : ∀ {c : SV} {l : List IE}, flatI c = some l → dl E c = l.map fun e => Value.int .i64 (ev E e)
 | .nil, l, h => by cases h; rfl
 | .cons (.int kd e) r, l, h => by
  unfold flatI at h
  split at h
  ·rename_i l' hl
   cases hk : Nat.beq (kindNo kd) (kindNo .i64) with
   | false => rw [hk] at h; cases h
   | true =>
    rw [hk] at h
    cases h
    have := kindNo_eq hk
    subst this
    show [Value.int .i64 (ev E e)] ++ dl E r = _
    rw [flatI_ok E hl]
    rfl
  ·cases h
 | .cons (.arr kd q (.lit z) ws) r, l, h => by
  unfold flatI at h
  split at h
  ·rename_i l1 l2 h1 h2
   cases hk : Nat.beq (kindNo kd) (kindNo .i64) with
   | false => rw [hk] at h; cases h
   | true =>
    rw [hk] at h
    cases h
    have := kindNo_eq hk
    subst this
    show arrCells E .i64 q (ev E (.lit z)).toNat ws ++ dl E r = _
    rw [flatI_ok E h2, List.map_append]
    congr 1
    have := litAll_ok E h1
    unfold arrCells
    rw [ev_lit, show (l1.map fun e => Value.int .i64 (ev E e)) = (l1.map (ev E)).map (Value.int .i64) by rw [List.map_map]; rfl, this, List.map_map]
    refine List.map_congr_left fun j _ => ?_
    show Value.int .i64 (wsVal E q ws j) = Value.int .i64 (wsVal E q ws (0 + j))
    rw [Nat.zero_add]
  ·cases h
noncomputable def getArgs (m : Mem) : SV → Option (List IE)
 | .sli s k off (.lit n) cap => match m.find s k with
  | some e => match place m.know e off with
   | some (.lit z) => cond (zEq n 16 && (factIn m.know cap 0 hi64 && Nat.ble 0 z.toNat)) (match takeC e.c z.toNat 16 with
    | some r => match flatI r with
     | some l => cond (Nat.beq l.length 16) (some l) none
     | none => none
    | none => none) none
   | _ => none
  | none => none
 | _ => none
def Row16 (w : World) (b o : Nat) (N : List Int) : Prop := b < w.heap.size ∧ N.length = 16 ∧ ∀ j, j < 16 → w.cell? ⟨b, o + j, none⟩ = some (.int .i64 (N.getD j 0))
theorem getArgs_ok {F : Nat → Prop} {w0 : World} {E : Env} {m : Mem} {w : World} (hm : MemOk F w0 E m w) {v : SV} {l : List IE} (h : getArgs m v = some l) :
  l.length = 16 ∧ ∃ b o cap : Nat, dv E v = .slice (some ⟨b, o, none⟩) 16 cap ∧ (cap : Int) ≤ hi64 ∧ Row16 w b o (l.map (ev E)) := by
 unfold getArgs at h
 split at h
 case h_2 => cases h
 rename_i s k off n cap
 split at h
 case h_2 => cases h
 rename_i e hf
 split at h
 case h_2 => cases h
 rename_i z hp
 cases hc : (zEq n 16 && (factIn m.know cap 0 hi64 && Nat.ble 0 z.toNat)) with
 | false => rw [hc] at h; cases h
 | true =>
 rw [hc] at h
 dsimp only [cond] at h
 split at h
 case h_2 => cases h
 rename_i r hr
 split at h
 case h_2 => cases h
 rename_i l' hl
 cases hn : Nat.beq l'.length 16 with
 | false => rw [hn] at h; cases h
 | true =>
 rw [hn] at h
 cases h
 have hn := Nat.eq_of_beq_eq_true hn
 simp only [Bool.and_eq_true] at hc
 obtain ⟨c1, c2, _⟩ := hc
 have c1 := zEq_ok c1
 subst c1
 have c2 := factIn_ok hm.know c2
 obtain ⟨f1, f2, f3⟩ := Mem.find_ok hf
 have he := hm.ents e f1
 obtain ⟨p1, p2⟩ := place_ok hm.know hp
 rw [ev_lit] at p1 p2
 obtain ⟨t1, t2⟩ := takeC_ok E e.c z.toNat 16 r hr
 refine ⟨hn, e.blk E, E.o e.s + (ev E off).toNat, (ev E cap).toNat, ?_, by omega, he.lt, by rw [List.length_map, hn], fun j hj => ?_⟩
 ·show Value.slice (some ⟨E.base s + k, E.o s + (ev E off).toNat, none⟩) 16 (ev E cap).toNat = _
  rw [← f2, ← f3]
  rfl
 ·have hj2 : (dl E r)[j]? = some (Value.int .i64 ((l.map (ev E)).getD j 0)) := by
   rw [flatI_ok E hl, List.getElem?_map, List.getElem?_eq_getElem (by omega)]
   rw [List.getD_eq_getElem?_getD, List.getElem?_map, List.getElem?_eq_getElem (by omega)]
   rfl
  have hj3 : (dl E e.c)[z.toNat + j]? = some (Value.int .i64 ((l.map (ev E)).getD j 0)) := by
   rw [t1, List.getElem?_take_of_lt hj, List.getElem?_drop] at hj2
   exact hj2
  have := he.cell _ _ hj3
  rw [p2]
  rw [show E.o e.s + ((ev E e.base).toNat + z.toNat) + j = E.o e.s + ((ev E e.base).toNat + (z.toNat + j)) by omega]
  exact this
end Go.Proofs.Ytojpmbkbeoolcaa
