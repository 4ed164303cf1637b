/- arrays that were written are told anew as rows. -/
import Derived.Test.YtofmndcdcchflaaS
namespace Go.Proofs.Ytofmndcdcchflaa
open Go.Sx Go
set_option maxRecDepth 100000
noncomputable def swapA (a b : SV) : SV → SV
 | .cons x r => cond (x == a) (.cons b r) (.cons x r)
 | v => v
noncomputable def rowOfA (t : Nat) (h : List Ent) : Option (Nat × Int × SV) := match h.find? (fun e => Nat.beq e.t t && (match e.c with | .cons (.arr .i64 _ (.lit _) (.wr _ _ _)) _ => !e.ro | _ => false)) with
 | some e => match e.c with
  | .cons (.arr .i64 r (.lit n) ws) _ => some (r, n, ws)
  | _ => none
 | none => none
noncomputable def freshM (t : Nat) (m : Mem) : Mem := match rowOfA t m.heap with
 | some (r, n, ws) => cond (m.nm m.nv && (Nat.blt 0 m.nv && (Nat.blt m.nv 1000000 && (numsIn m.know ws && (SV.arr .i64 r (.lit n) ws).nm m.nv))))
   (nfN (m.nv + 1) fun nv => nfSp (m.heap.map fun e => cond e.ro e { e with c := swapA (.arr .i64 r (.lit n) ws) (.arr .i64 m.nv (.lit n) .nil) e.c }) fun h => { m with heap := h, nv := nv }) m
 | none => m
theorem swapA_ok {E : Env} {a b : SV} (h : dl E a = dl E b) (c : SV) : dl E (swapA a b c) = dl E c := by
 cases c with
 | cons x r =>
  unfold swapA
  cases hx : (x == a) with
  | false =>
   dsimp only
   rw [hx]
   rfl
  | true =>
   dsimp only
   rw [hx]
   rw [beq_iff_eq] at hx
   subst hx
   show dl E b ++ dl E r = dl E x ++ dl E r
   rw [h]
 | _ => rfl
theorem fresh_ok {t : Nat} {F : Nat → Prop} {w0 w : World} {E : Env} {m : Mem} (hm : MemOk F w0 E m w) : ∃ E', Later m.nv (freshM t m).nv E E' ∧ MemOk F w0 E' (freshM t m) w := by
 have self : ∃ E', Later m.nv m.nv E E' ∧ MemOk F w0 E' m w := ⟨E, Later.refl _ _, hm⟩
 unfold freshM
 split
 case h_2 => exact self
 rename_i r n ws hrow
 cases hc : (m.nm m.nv && (Nat.blt 0 m.nv && (Nat.blt m.nv 1000000 && (numsIn m.know ws && (SV.arr .i64 r (.lit n) ws).nm m.nv)))) with
 | false => exact self
 | true =>
 dsimp only [cond]
 rw [nfN_eq, nfSp_eq]
 simp only [Bool.and_eq_true] at hc
 obtain ⟨c1, c2, c3, c4, c5⟩ := hc
 have c2 : 0 < m.nv := by simpa [Nat.blt_eq] using c2
 have c3 : m.nv < 1000000 := by simpa [Nat.blt_eq] using c3
 let E' : Env := { E with l := fun q => if q = m.nv then (List.range n.toNat).map (wsVal E r ws) else E.l q }
 have hA : Agree m.nv E E' := ⟨fun _ _ => rfl, fun _ _ => rfl, fun q hq => (by show (if q = m.nv then _ else E.l q) = E.l q; rw [if_neg (by omega)]), fun _ _ => rfl, fun _ _ => rfl, fun _ _ => rfl, rfl⟩
 have h64 := numsIn_ok hm.know r c4
 have hE : E'.Ok := by
  refine ⟨hm.know.env.i, fun q z hz => ?_, hm.know.env.f⟩
  replace hz : z ∈ (if q = m.nv then (List.range n.toNat).map (wsVal E r ws) else E.l q) := hz
  split at hz
  ·obtain ⟨j, _, rfl⟩ := List.mem_map.1 hz
   exact h64 j
  ·exact hm.know.env.l q z hz
 have hm1 : MemOk F w0 E' { m with nv := m.nv + 1 } w := hm.moved c1 hA hE (Ext.refl _ _) (sg := m.seg) (nx := m.next) hm.size hm.seg0
 have hdl : dl E' (.arr .i64 r (.lit n) ws) = dl E' (.arr .i64 m.nv (.lit n) .nil) := by
  rw [dl_agree hA _ c5]
  show arrCells E .i64 r n.toNat ws = arrCells E' .i64 m.nv n.toNat .nil
  unfold arrCells
  refine List.map_congr_left fun j hj => ?_
  have hj := List.mem_range.1 hj
  have hrow : E'.row m.nv = (List.range n.toNat).map (wsVal E r ws) := by
   rw [Env.row_l (by unfold fixR; omega)]
   show (if m.nv = m.nv then _ else _) = _
   rw [if_pos rfl]
  show Value.int .i64 (wsVal E r ws j) = .int .i64 ((E'.row m.nv).getD j 0)
  rw [hrow, List.getD_eq_getElem?_getD, List.getElem?_map, List.getElem?_range hj]
  rfl
 have hall : ∀ l : List Ent, Two (SameE E') l (l.map fun e => cond e.ro e { e with c := swapA (.arr .i64 r (.lit n) ws) (.arr .i64 m.nv (.lit n) .nil) e.c }) := by
  intro l
  induction l with
  | nil => exact .nil
  | cons e l ih =>
   refine .cons ?_ ih
   obtain ⟨s', k', ro, t', b', c⟩ := e
   cases ro with
   | true => exact .inl rfl
   | false => exact .inr ⟨rfl, rfl, swapA_ok hdl c⟩
 exact ⟨E', ⟨hA, by show m.nv ≤ m.nv + 1; omega, fun h => by have : m.nv + 1 = m.nv := h; omega⟩, mem_same hm1 (hall m.heap)⟩
noncomputable def freshX (t : Nat) (s : List SV → X SV) : List SV → X SV := fun args m => match s args m with
 | some outs => some (outs.map fun q => cond (q.1.nm q.2.nv) (q.1, freshM t q.2) q)
 | none => none
theorem freshX_ok {G : Gf} {P : Program} {f : Nat} {s : List SV → X SV} (t : Nat) (hs : SpecOk G P f s) : SpecOk G P f (freshX t s) := by
 intro F w0 E args m outs' w hgf ho hm
 unfold freshX at ho
 cases hr : s args m with
 | none => rw [hr] at ho; cases ho
 | some outs =>
 rw [hr] at ho
 cases ho
 refine (hs F w0 E args m outs w hgf hr hm).mono ?_
 rintro e w' ⟨q, hq, E', hL, rfl, hm'⟩
 refine ⟨_, List.mem_map.2 ⟨q, hq, rfl⟩, ?_⟩
 cases hn : q.1.nm q.2.nv with
 | false => exact ⟨E', hL, rfl, hm'⟩
 | true =>
  obtain ⟨E2, l2, m2⟩ := fresh_ok (t := t) hm'
  exact ⟨E2, hL.trans l2, by show _ = Ending.returned (dv E2 q.1); rw [dv_agree l2.agree hn], m2⟩
end Go.Proofs.Ytofmndcdcchflaa
namespace Go.Proofs.Ytofmndcdcchflaa
open Go.Sx Go
set_option maxRecDepth 100000
noncomputable def isVar : IE → Bool
 | .var _ => true
 | _ => false
noncomputable def isW (kn : Know) (t : Nat) (e : Ent) : Bool := !e.ro && (Nat.beq e.t t && (match e.c with
 | .cons (.sli _ _ off (.lit (.ofNat 0)) cap) _ => !isVar off && (factIn kn off 0 hi64 && factIn kn cap 0 hi64)
 | _ => false))
noncomputable def restOf (kn : Know) (t : Nat) (h : List Ent) : Option (Nat × Nat × IE × IE) := match h.find? (isW kn t) with
 | some e => match e.c with
  | .cons (.sli s k off (.lit (.ofNat 0)) cap) _ => some (s, k, off, cap)
  | _ => none
 | none => none
noncomputable def weakM (t : Nat) (m : Mem) : Mem := match restOf m.know t m.heap with
 | some (s, k, off, cap) => cond (m.nm m.nv && (Nat.blt 0 m.nv && (factIn m.know off 0 hi64 && (factIn m.know cap 0 hi64 && (SV.sli s k off (.lit 0) cap).nm m.nv))))
   (nfN (m.nv + 2) fun nv => nfSp (m.heap.map fun e => cond e.ro e { e with c := swapA (.sli s k off (.lit 0) cap) (.sli s k (.var m.nv) (.lit 0) (.var (m.nv + 1))) e.c }) fun h => { m with heap := h, nv := nv }) m
 | none => m
theorem weak_ok {t : Nat} {F : Nat → Prop} {w0 w : World} {E : Env} {m : Mem} (hm : MemOk F w0 E m w) : ∃ E', Later m.nv (weakM t m).nv E E' ∧ MemOk F w0 E' (weakM t m) w := by
 have self : ∃ E', Later m.nv m.nv E E' ∧ MemOk F w0 E' m w := ⟨E, Later.refl _ _, hm⟩
 unfold weakM
 split
 case h_2 => exact self
 rename_i s k off cap hrow
 cases hc : (m.nm m.nv && (Nat.blt 0 m.nv && (factIn m.know off 0 hi64 && (factIn m.know cap 0 hi64 && (SV.sli s k off (.lit 0) cap).nm m.nv)))) with
 | false => exact self
 | true =>
 dsimp only [cond]
 rw [nfN_eq, nfSp_eq]
 simp only [Bool.and_eq_true] at hc
 obtain ⟨c1, c2, c3, c4, c5⟩ := hc
 have c3 := factIn_ok hm.know c3
 have c4 := factIn_ok hm.know c4
 let E' : Env := { E with i := fun j => if j = m.nv then ev E off else if j = m.nv + 1 then ev E cap else E.i j }
 have hA : Agree m.nv E E' := ⟨fun j hj => (by show (if j = m.nv then _ else if j = m.nv + 1 then _ else E.i j) = E.i j; rw [if_neg (by omega), if_neg (by omega)]), fun _ _ => rfl, fun _ _ => rfl, fun _ _ => rfl, fun _ _ => rfl, fun _ _ => rfl, rfl⟩
 have hE : E'.Ok := by
  refine ⟨fun j => ?_, hm.know.env.l, hm.know.env.f⟩
  show in64 (if j = m.nv then ev E off else if j = m.nv + 1 then ev E cap else E.i j)
  unfold hi64 at c3 c4
  split
  ·unfold in64 lo64 hi64; omega
  ·split
   ·unfold in64 lo64 hi64; omega
   ·exact hm.know.env.i j
 have hm1 : MemOk F w0 E' { m with nv := m.nv + 2 } w := hm.moved c1 hA hE (Ext.refl _ _) (sg := m.seg) (nx := m.next) hm.size hm.seg0
 have hdl : dl E' (.sli s k off (.lit 0) cap) = dl E' (.sli s k (.var m.nv) (.lit 0) (.var (m.nv + 1))) := by
  have h1 : dv E' (.sli s k off (.lit 0) cap) = dv E (.sli s k off (.lit 0) cap) := dv_agree hA c5
  show [dv E' (.sli s k off (.lit 0) cap)] = [dv E' (.sli s k (.var m.nv) (.lit 0) (.var (m.nv + 1)))]
  rw [h1]
  have e1 : ev E' (.var m.nv) = ev E off := if_pos rfl
  have e2 : ev E' (.var (m.nv + 1)) = ev E cap := by
   show (if m.nv + 1 = m.nv then _ else if m.nv + 1 = m.nv + 1 then ev E cap else _) = _
   rw [if_neg (by omega), if_pos rfl]
  show [Value.slice (some (addrOf E s k off)) (0 : Int).toNat (ev E cap).toNat] = [Value.slice (some (addrOf E' s k (.var m.nv))) (0 : Int).toNat (ev E' (.var (m.nv + 1))).toNat]
  rw [e2]
  unfold addrOf
  rw [e1]
 have hall : ∀ l : List Ent, Two (SameE E') l (l.map fun e => cond e.ro e { e with c := swapA (.sli s k off (.lit 0) cap) (.sli s k (.var m.nv) (.lit 0) (.var (m.nv + 1))) e.c }) := by
  intro l
  induction l with
  | nil => exact .nil
  | cons e l ih =>
   refine .cons ?_ ih
   obtain ⟨s', k', ro, t', b', c⟩ := e
   cases ro with
   | true => exact .inl rfl
   | false => exact .inr ⟨rfl, rfl, swapA_ok hdl c⟩
 exact ⟨E', ⟨hA, by show m.nv ≤ m.nv + 2; omega, fun h => by have : m.nv + 2 = m.nv := h; omega⟩, mem_same hm1 (hall m.heap)⟩
noncomputable def weakX (t : Nat) (s : List SV → X SV) : List SV → X SV := fun args m => match s args m with
 | some outs => some (outs.map fun q => cond (q.1.nm q.2.nv) (q.1, weakM t q.2) q)
 | none => none
theorem weakX_ok {G : Gf} {P : Program} {f : Nat} {s : List SV → X SV} (t : Nat) (hs : SpecOk G P f s) : SpecOk G P f (weakX t s) := by
 intro F w0 E args m outs' w hgf ho hm
 unfold weakX at ho
 cases hr : s args m with
 | none => rw [hr] at ho; cases ho
 | some outs =>
 rw [hr] at ho
 cases ho
 refine (hs F w0 E args m outs w hgf hr hm).mono ?_
 rintro e w' ⟨q, hq, E', hL, rfl, hm'⟩
 refine ⟨_, List.mem_map.2 ⟨q, hq, rfl⟩, ?_⟩
 cases hn : q.1.nm q.2.nv with
 | false => exact ⟨E', hL, rfl, hm'⟩
 | true =>
  obtain ⟨E2, l2, m2⟩ := weak_ok (t := t) hm'
  exact ⟨E2, hL.trans l2, by show _ = Ending.returned (dv E2 q.1); rw [dv_agree l2.agree hn], m2⟩
noncomputable def sameN (p q : SV × Mem) : Bool := Nat.beq p.2.nv q.2.nv && (Nat.beq p.2.seg q.2.seg && (Nat.beq p.2.next q.2.next && (decide (p.1 = q.1) && decide (p.2.heap = q.2.heap))))
noncomputable def uniN (s : List SV → X SV) : List SV → X SV := fun args m => match s args m with
 | some (q :: p :: r) => cond (m.nm m.nv && (p :: r).all (sameN q)) (some [(q.1, { q.2 with know := m.know })]) (some (q :: p :: r))
 | o => o
theorem uniN_ok {G : Gf} {P : Program} {f : Nat} {s : List SV → X SV} (hs : SpecOk G P f s) : SpecOk G P f (uniN s) := by
 intro F w0 E args m outs' w hgf ho hm
 unfold uniN at ho
 split at ho
 case h_2 => exact hs F w0 E args m outs' w hgf ho hm
 rename_i q p r hr
 cases hc : (m.nm m.nv && (p :: r).all (sameN q)) with
 | false =>
  rw [hc] at ho
  cases ho
  exact hs F w0 E args m _ w hgf hr hm
 | true =>
 rw [hc] at ho
 cases ho
 rw [Bool.and_eq_true] at hc
 obtain ⟨c1, c2⟩ := hc
 refine (hs F w0 E args m _ w hgf hr hm).mono ?_
 rintro e w' ⟨x, hx, E', hL, rfl, hm'⟩
 have hsame : x.2.nv = q.2.nv ∧ x.2.seg = q.2.seg ∧ x.2.next = q.2.next ∧ x.1 = q.1 ∧ x.2.heap = q.2.heap := by
  rcases List.mem_cons.1 hx with rfl | hx
  ·exact ⟨rfl, rfl, rfl, rfl, rfl⟩
  ·have h := List.all_eq_true.1 c2 x hx
   simp only [sameN, Bool.and_eq_true, decide_eq_true_eq] at h
   obtain ⟨e1, e2, e3, e4, e5⟩ := h
   exact ⟨(Nat.eq_of_beq_eq_true e1).symm, (Nat.eq_of_beq_eq_true e2).symm, (Nat.eq_of_beq_eq_true e3).symm, e4.symm, e5.symm⟩
 obtain ⟨x1, ⟨xk, xh, xs, xn, xv⟩⟩ := x
 obtain ⟨q1, ⟨qk, qh, qs, qn, qv⟩⟩ := q
 obtain ⟨e1, e2, e3, e4, e5⟩ := hsame
 dsimp only at e1 e2 e3 e4 e5 hL hm' ⊢
 subst e1 e2 e3 e4 e5
 refine ⟨_, List.mem_singleton.2 rfl, E', hL, rfl, ⟨?_, hm'.size, hm'.ents, hm'.apart, hm'.mine, hm'.ext, hm'.seg0⟩⟩
 unfold Mem.nm at c1
 simp only [Bool.and_eq_true] at c1
 exact know_agree hm.know hm'.know.env hL.agree c1.1.2 c1.2
noncomputable def stepX : List SV → X SV := uniN (weakX 75 (fun0 18))
theorem stepX_ok {V : List Int} : SpecOk (G0 V) Try.prog 18 stepX := uniN_ok (weakX_ok 75 (fun0_ok 18))
end Go.Proofs.Ytofmndcdcchflaa
