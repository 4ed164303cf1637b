/- arrays that were written are told anew as rows. -/
import Derived.Test.YtofmndcdcchflaaS
namespace Go.Proofs.Ytofmndcdcchflaa
open Go.Sx Go
set_option maxRecDepth 100000
noncomputable def swapA (a b : SV) : SV → SV
 | .cons x r => cond (x == a) (.cons b r) (.cons x r)
 | v => v
noncomputable def rowOfA (t : Nat) (h : List Ent) : Option (Nat × Int × SV) := match h.find? (fun e => Nat.beq e.t t && (match e.c with | .cons (.arr .i64 _ (.lit _) (.wr _ _ _)) _ => !e.ro | _ => false)) with
 | some e => match e.c with
  | .cons (.arr .i64 r (.lit n) ws) _ => some (r, n, ws)
  | _ => none
 | none => none
noncomputable def freshM (t : Nat) (m : Mem) : Mem := match rowOfA t m.heap with
 | some (r, n, ws) => cond (m.nm m.nv && (Nat.blt 0 m.nv && (Nat.blt m.nv 1000000 && (numsIn m.know ws && (SV.arr .i64 r (.lit n) ws).nm m.nv))))
   (nfN (m.nv + 1) fun nv => nfSp (m.heap.map fun e => cond e.ro e { e with c := swapA (.arr .i64 r (.lit n) ws) (.arr .i64 m.nv (.lit n) .nil) e.c }) fun h => { m with heap := h, nv := nv }) m
 | none => m
theorem swapA_ok {E : Env} {a b : SV} (h : dl E a = dl E b) (c : SV) : dl E (swapA a b c) = dl E c := by
 cases c with
 | cons x r =>
  unfold swapA
  cases hx : (x == a) with
  | false =>
   dsimp only
   rw [hx]
   rfl
  | true =>
   dsimp only
   rw [hx]
   rw [beq_iff_eq] at hx
   subst hx
   show dl E b ++ dl E r = dl E x ++ dl E r
   rw [h]
 | _ => rfl
theorem fresh_ok {t : Nat} {F : Nat → Prop} {w0 w : World} {E : Env} {m : Mem} (hm : MemOk F w0 E m w) : ∃ E', Later m.nv (freshM t m).nv E E' ∧ MemOk F w0 E' (freshM t m) w := by
 have self : ∃ E', Later m.nv m.nv E E' ∧ MemOk F w0 E' m w := ⟨E, Later.refl _ _, hm⟩
 unfold freshM
 split
 case h_2 => exact self
 rename_i r n ws hrow
 cases hc : (m.nm m.nv && (Nat.blt 0 m.nv && (Nat.blt m.nv 1000000 && (numsIn m.know ws && (SV.arr .i64 r (.lit n) ws).nm m.nv)))) with
 | false => exact self
 | true =>
 dsimp only [cond]
 rw [nfN_eq, nfSp_eq]
 simp only [Bool.and_eq_true] at hc
 obtain ⟨c1, c2, c3, c4, c5⟩ := hc
 have c2 : 0 < m.nv := by simpa [Nat.blt_eq] using c2
 have c3 : m.nv < 1000000 := by simpa [Nat.blt_eq] using c3
 let E' : Env := { E with l := fun q => if q = m.nv then (List.range n.toNat).map (wsVal E r ws) else E.l q }
 have hA : Agree m.nv E E' := ⟨fun _ _ => rfl, fun _ _ => rfl, fun q hq => (by show (if q = m.nv then _ else E.l q) = E.l q; rw [if_neg (by omega)]), fun _ _ => rfl, fun _ _ => rfl, fun _ _ => rfl, rfl⟩
 have h64 := numsIn_ok hm.know r c4
 have hE : E'.Ok := by
  refine ⟨hm.know.env.i, fun q z hz => ?_, hm.know.env.f⟩
  replace hz : z ∈ (if q = m.nv then (List.range n.toNat).map (wsVal E r ws) else E.l q) := hz
  split at hz
  ·obtain ⟨j, _, rfl⟩ := List.mem_map.1 hz
   exact h64 j
  ·exact hm.know.env.l q z hz
 have hm1 : MemOk F w0 E' { m with nv := m.nv + 1 } w := hm.moved c1 hA hE (Ext.refl _ _) (sg := m.seg) (nx := m.next) hm.size hm.seg0
 have hdl : dl E' (.arr .i64 r (.lit n) ws) = dl E' (.arr .i64 m.nv (.lit n) .nil) := by
  rw [dl_agree hA _ c5]
  show arrCells E .i64 r n.toNat ws = arrCells E' .i64 m.nv n.toNat .nil
  unfold arrCells
  refine List.map_congr_left fun j hj => ?_
  have hj := List.mem_range.1 hj
  have hrow : E'.row m.nv = (List.range n.toNat).map (wsVal E r ws) := by
   rw [Env.row_l (by unfold fixR; omega)]
   show (if m.nv = m.nv then _ else _) = _
   rw [if_pos rfl]
  show Value.int .i64 (wsVal E r ws j) = .int .i64 ((E'.row m.nv).getD j 0)
  rw [hrow, List.getD_eq_getElem?_getD, List.getElem?_map, List.getElem?_range hj]
  rfl
 have hall : ∀ l : List Ent, Two (SameE E') l (l.map fun e => cond e.ro e { e with c := swapA (.arr .i64 r (.lit n) ws) (.arr .i64 m.nv (.lit n) .nil) e.c }) := by
  intro l
  induction l with
  | nil => exact .nil
  | cons e l ih =>
   refine .cons ?_ ih
   obtain ⟨s', k', ro, t', b', c⟩ := e
   cases ro with
   | true => exact .inl rfl
   | false => exact .inr ⟨rfl, rfl, swapA_ok hdl c⟩
 exact ⟨E', ⟨hA, by show m.nv ≤ m.nv + 1; omega, fun h => by have : m.nv + 1 = m.nv := h; omega⟩, mem_same hm1 (hall m.heap)⟩
noncomputable def freshX (t : Nat) (s : List SV → X SV) : List SV → X SV := fun args m => match s args m with
 | some outs => some (outs.map fun q => cond (q.1.nm q.2.nv) (q.1, freshM t q.2) q)
 | none => none
theorem freshX_ok {G : Gf} {P : Program} {f : Nat} {s : List SV → X SV} (t : Nat) (hs : SpecOk G P f s) : SpecOk G P f (freshX t s) := by
 intro F w0 E args m outs' w hgf ho hm
 unfold freshX at ho
 cases hr : s args m with
 | none => rw [hr] at ho; cases ho
 | some outs =>
 rw [hr] at ho
 cases ho
 refine (hs F w0 E args m outs w hgf hr hm).mono ?_
 rintro e w' ⟨q, hq, E', hL, rfl, hm'⟩
 refine ⟨_, List.mem_map.2 ⟨q, hq, rfl⟩, ?_⟩
 cases hn : q.1.nm q.2.nv with
 | false => exact ⟨E', hL, rfl, hm'⟩
 | true =>
  obtain ⟨E2, l2, m2⟩ := fresh_ok (t := t) hm'
  exact ⟨E2, hL.trans l2, by show _ = Ending.returned (dv E2 q.1); rw [dv_agree l2.agree hn], m2⟩
end Go.Proofs.Ytofmndcdcchflaa
