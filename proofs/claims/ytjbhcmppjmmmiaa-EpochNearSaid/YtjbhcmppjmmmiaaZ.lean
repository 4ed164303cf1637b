/- zeros that are written ahead of a loop. -/
import Derived.Test.YtjbhcmppjmmmiaaP
namespace Go.Proofs.Ytjbhcmppjmmmiaa
open Go.Sx Go
set_option maxRecDepth 100000
noncomputable def endZ (z : Int) : SV → SV
 | .wr i x ws => .wr i x (endZ z ws)
 | _ => .wr (.lit z) (.lit 0) .nil
theorem endZ_ok (E : Env) {z : Int} {j : Nat} : ∀ {ws : SV}, wLits ws = true → wFind z ws = none → wsVal E 0 (endZ z ws) j = wsVal E 0 ws j := by
 intro ws
 induction ws with
 | nil =>
  intro _ _
  show (if ev E (.lit z) = (j : Int) then ev E (.lit 0) else wsVal E 0 .nil j) = wsVal E 0 .nil j
  have : wsVal E 0 .nil j = 0 := rfl
  rw [this, ev_lit, ev_lit]
  split <;> rfl
 | wr i x ws ih =>
  intro h1 h2
  cases i with
  | lit y =>
   unfold wLits at h1
   unfold wFind at h2
   split at h2
   ·cases h2
   ·show (if ev E (.lit y) = (j : Int) then ev E x else wsVal E 0 (endZ z ws) j) = (if ev E (.lit y) = (j : Int) then ev E x else wsVal E 0 ws j)
    rw [ih h1 h2]
  | _ => simp [wLits] at h1
 | _ => intro h1; simp [wLits] at h1
noncomputable def zeroE (z : Int) (e : Ent) : Ent := match e.ro, e.c with
 | false, .cons (.arr k 0 n ws) r => cond (wLits ws && (match wFind z ws with | none => true | some _ => false)) { e with c := .cons (.arr k 0 n (endZ z ws)) r } e
 | _, _ => e
theorem zeroE_same (E : Env) (z : Int) (e : Ent) : SameE E e (zeroE z e) := by
 unfold zeroE
 split
 ·rename_i k n ws r h1 h2
  cases hc : (wLits ws && (match wFind z ws with | none => true | some _ => false)) with
  | false => exact .inl rfl
  | true =>
   rw [Bool.and_eq_true] at hc
   have hn : wFind z ws = none := by
    cases hq : wFind z ws with
    | none => rfl
    | some x => rw [hq] at hc; cases hc.2
   refine .inr ⟨h1, rfl, ?_⟩
   rw [h2]
   show arrCells E k 0 (ev E n).toNat (endZ z ws) ++ dl E r = arrCells E k 0 (ev E n).toNat ws ++ dl E r
   congr 1
   unfold arrCells
   exact List.map_congr_left fun j _ => by rw [endZ_ok E hc.1 hn]
 ·exact .inl rfl
noncomputable def zeroB (z : Int) (s : Fr → X (SX × Fr)) : Fr → X (SX × Fr) := fun tm m => s tm { m with heap := m.heap.map (zeroE z) }
theorem two_map {E : Env} {z : Int} : ∀ l : List Ent, Two (SameE E) l (l.map (zeroE z))
 | [] => .nil
 | e :: l => .cons (zeroE_same E z e) (two_map l)
theorem zeroB_ok {c : Code} {z : Int} {s : Fr → X (SX × Fr)} (hs : CodeOk G0 Try.prog c s) : CodeOk G0 Try.prog c (zeroB z s) := by
 intro F w0 E tm a m w outs hgf ho hm ha
 have hall := two_map (E := E) (z := z) m.heap
 refine hs F w0 E tm a { m with heap := m.heap.map (zeroE z) } w outs hgf ho ⟨hm.know, hm.size, fun e' he' => ?_, forall2_pairwise hall hm.apart, fun e' he' hr' => ?_, hm.ext, hm.seg0⟩ ha
 ·obtain ⟨e, he, hr⟩ := forall2_mem hall he'
  have ok := hm.ents e he
  rcases hr with rfl | ⟨hro, heq, hdl⟩
  ·exact ok
  ·rw [heq]
   refine ⟨ok.lt, fun h => ?_, fun _ => ?_, fun h => ?_⟩
   ·exact absurd (show e.ro = true from h) (by rw [hro]; exact Bool.false_ne_true)
   ·obtain ⟨o1, o2⟩ := ok.own hro
    refine ⟨o1, ?_⟩
    show w.heap[e.blk E]? = some (.cells (dl E e'.c).toArray e.t (0, 0))
    rw [hdl]
    exact o2
   ·exact absurd (show e.ro = true from h) (by rw [hro]; exact Bool.false_ne_true)
 ·obtain ⟨e, he, hr⟩ := forall2_mem hall he'
  rcases hr with rfl | ⟨hro, heq, _⟩
  ·exact hm.mine _ he hr'
  ·rw [heq]
   exact hm.mine e he hro
end Go.Proofs.Ytjbhcmppjmmmiaa
