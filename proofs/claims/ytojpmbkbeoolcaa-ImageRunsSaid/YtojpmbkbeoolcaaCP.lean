/- room made by append, told as one new name. -/
import Derived.Test.YtojpmbkbeoolcaaRL
namespace Go.Proofs.Ytojpmbkbeoolcaa
open Go.Sx Go
set_option maxRecDepth 100000
noncomputable def varS (c N : Nat) : Sub := ⟨[(c, .var N)], [], [], [], []⟩
theorem by_var {E : Env} {c N : Nat} (h : E.i N = E.i c) : E.by (varS c N) = E := by
 have hi : (fun j => match Sx.look j [(c, IE.var N)] with | some e => ev E e | none => E.i j) = E.i := by
  funext j
  show (match cond (Nat.beq c j) (some (IE.var N)) none with | some e => ev E e | none => E.i j) = E.i j
  cases hq : Nat.beq c j with
  | true =>
   have := Nat.eq_of_beq_eq_true hq
   subst this
   exact h
  | false => rfl
 show (⟨_, E.b, E.l, E.base, E.o, E.v, E.f⟩ : Env) = ⟨E.i, E.b, E.l, E.base, E.o, E.v, E.f⟩
 congr 1
noncomputable def capOf (n : Nat) : SV → Option (Nat × IE)
 | .sli _ _ _ l (.var c) => cond (Nat.ble n c) (some (c, l)) none
 | .cons a b => match capOf n a with
  | some x => some x
  | none => capOf n b
 | .agg c => capOf n c
 | .tup c => capOf n c
 | _ => none
noncomputable def allV (p : Nat → Bool) : IE → Bool
 | .lit _ => true
 | .var i => p i
 | .sel _ i => allV p i
 | .add a b | .sub a b | .mul a b | .quo a b | .rem a b | .bit _ _ a b | .arg a b => allV p a && allV p b
 | .wrap _ a | .shr a _ | .app _ a => allV p a
 | .noarg => true
 | .ite _ a b x y => allV p a && allV p b && allV p x && allV p y
 | .bv _ => true
noncomputable def allW (p : Nat → Bool) : BE → Bool
 | .lit _ => true
 | .var _ => true
 | .lt a b | .eq a b => allV p a && allV p b
 | .not a => allW p a
noncomputable def defd (cs : List BE) (j : Nat) : Bool := cs.any fun c => match c with
 | .eq (.var i) (.app _ _) => Nat.beq i j
 | _ => false
noncomputable def instH (σ : Sub) : List Ent → Option (List Ent)
 | [] => some []
 | e :: r => match instH σ r with
  | none => none
  | some r' => match e.ro with
   | true => some (e :: r')
   | false => match instS σ e.c with
    | some c => cond e.c.plain (some ({ e with c := c } :: r')) none
    | none => none
noncomputable def capWay (z : Int) (n N : Nat) (q : SV × Mem) : SV × Mem := match capOf n q.1 with
 | none => q
 | some (c, l) => match instS (varS c N) q.1, instH (varS c N) q.2.heap with
  | some v, some h => cond (q.1.plain && q.2.nm q.2.nv && q.1.nm q.2.nv && Nat.ble q.2.nv N && Nat.blt c q.2.nv && l.nm n && Nat.ble n c && factIn q.2.know (.var c) ((rng q.2.know.facts l).1 + z) hi64 && factIn q.2.know (mkSub (.var c) l) z hi64)
    (v, { q.2 with know := ⟨(.var N, (rng q.2.know.facts l).1 + z, hi64) :: (mkSub (.var N) l, z, hi64) :: q.2.know.facts.filter (fun f => allV (fun i => Nat.blt i n || defd q.2.know.conds i) f.1), q.2.know.conds.filter (allW fun i => Nat.blt i n || defd q.2.know.conds i)⟩, heap := h, nv := N + 1 }) q
  | _, _ => q
def SameE (E : Env) (e e' : Ent) : Prop := e' = e ∨ (e.ro = false ∧ e' = { e with c := e'.c } ∧ dl E e'.c = dl E e.c)
inductive Two {α : Type} (R : α → α → Prop) : List α → List α → Prop
 | nil : Two R [] []
 | cons {a b : α} {l m : List α} : R a b → Two R l m → Two R (a :: l) (b :: m)
theorem instH_ok {E : Env} {c N : Nat} (hN : E.i N = E.i c) : ∀ {h h' : List Ent}, instH (varS c N) h = some h' → Two (SameE E) h h'
 | [], h', hh => by cases hh; exact .nil
 | e :: r, h', hh => by
  unfold instH at hh
  split at hh
  ·cases hh
  ·rename_i r' hr
   have ih := instH_ok hN hr
   split at hh
   ·cases hh; exact .cons (.inl rfl) ih
   ·rename_i hro
    split at hh
    ·rename_i d hd
     cases hp : e.c.plain with
     | false => rw [hp] at hh; cases hh
     | true =>
      rw [hp] at hh
      cases hh
      refine .cons (.inr ⟨hro, rfl, ?_⟩) ih
      have := instS_ok E (varS c N) e.c d hp hd
      rw [by_var hN] at this
      exact this.symm
    ·cases hh
theorem forall2_mem {E' : Env} {h h' : List Ent} (hall : Two (SameE E') h h') {e' : Ent} (he : e' ∈ h') : ∃ e ∈ h, SameE E' e e' := by
 induction hall with
 | nil => cases he
 | cons hx _ ih =>
  rcases List.mem_cons.1 he with rfl | he
  ·exact ⟨_, List.mem_cons_self, hx⟩
  ·obtain ⟨e, h1, h2⟩ := ih he
   exact ⟨e, List.mem_cons_of_mem _ h1, h2⟩
theorem forall2_pairwise {E' : Env} {h h' : List Ent} (hall : Two (SameE E') h h') (hp : h.Pairwise (Ent.parted E')) : h'.Pairwise (Ent.parted E') := by
 have same : ∀ {e e' : Ent}, SameE E' e e' → e'.ro = e.ro ∧ e'.blk E' = e.blk E' := by
  rintro e e' (rfl | ⟨_, h, _⟩)
  ·exact ⟨rfl, rfl⟩
  ·rw [h]; exact ⟨rfl, rfl⟩
 induction hall with
 | nil => exact List.Pairwise.nil
 | cons hx hl ih =>
  rw [List.pairwise_cons] at hp
  refine List.Pairwise.cons (fun y hy => ?_) (ih hp.2)
  obtain ⟨e, h1, h2⟩ := forall2_mem hl hy
  have := hp.1 e h1
  unfold Ent.parted at *
  rw [(same hx).1, (same hx).2, (same h2).1, (same h2).2]
  exact this
theorem capWay_ok {F : Nat → Prop} {w0 w : World} {E : Env} {z : Int} {n N : Nat} {q : SV × Mem} (hm : MemOk F w0 E q.2 w) : ∃ E', Later q.2.nv (capWay z n N q).2.nv E E' ∧ dv E' (capWay z n N q).1 = dv E q.1 ∧ MemOk F w0 E' (capWay z n N q).2 w := by
 have self : ∃ E', Later q.2.nv q.2.nv E E' ∧ dv E' q.1 = dv E q.1 ∧ MemOk F w0 E' q.2 w := ⟨E, Later.refl _ _, rfl, hm⟩
 unfold capWay
 split
 ·exact self
 ·rename_i c l hcap
  split
  ·rename_i v h hv hh
   cases hc : (q.1.plain && q.2.nm q.2.nv && q.1.nm q.2.nv && Nat.ble q.2.nv N && Nat.blt c q.2.nv && l.nm n && Nat.ble n c && factIn q.2.know (.var c) ((rng q.2.know.facts l).1 + z) hi64 && factIn q.2.know (mkSub (.var c) l) z hi64) with
   | false => exact self
   | true =>
    dsimp only [cond]
    simp only [Bool.and_eq_true] at hc
    obtain ⟨⟨⟨⟨⟨⟨⟨⟨c1, c2⟩, c3⟩, c4⟩, c5⟩, c7⟩, c8⟩, c6⟩, c9⟩ := hc
    have c4 := Nat.le_of_ble_eq_true c4
    have c5 : c < q.2.nv := by simpa [Nat.blt_eq] using c5
    have c6 : (rng q.2.know.facts l).1 + z ≤ E.i c ∧ E.i c ≤ hi64 := factIn_ok hm.know c6
    have c9 := factIn_ok hm.know c9
    rw [mkSub_ok] at c9
    have c8 := Nat.le_of_ble_eq_true c8
    let E' : Env := { E with i := fun k => if k = N then E.i c else E.i k }
    have hA : Agree q.2.nv E E' := ⟨fun k hk => (by show (if k = N then E.i c else E.i k) = E.i k; rw [if_neg (by omega)]), fun _ _ => rfl, fun _ _ => rfl, fun _ _ => rfl, fun _ _ => rfl, fun _ _ => rfl, rfl⟩
    have hNc : E'.i N = E'.i c := by
     show (if N = N then E.i c else E.i N) = if c = N then E.i c else E.i c
     rw [if_pos rfl]
     split <;> rfl
    have hOk : E'.Ok := ⟨fun k => (by
     show in64 (if k = N then E.i c else E.i k)
     split
     ·exact hm.know.env.i c
     ·exact hm.know.env.i k), hm.know.env.l, hm.know.env.f⟩
    have hm2 : MemOk F w0 E' { q.2 with nv := N + 1 } w := hm.moved c2 hA hOk (Ext.refl _ _) (sg := q.2.seg) (nx := q.2.next) hm.size hm.seg0
    have hall := instH_ok (E := E') hNc hh
    refine ⟨E', ⟨hA, by show q.2.nv ≤ N + 1; omega, fun e => by have e : N + 1 = q.2.nv := e; omega⟩, ?_, ⟨⟨hOk, fun f hf => ?_, fun d hd => ?_⟩, hm2.size, ?_, ?_, ?_, hm2.ext, hm2.seg0⟩⟩
    ·have := instS_ok E' (varS c N) q.1 v c1 hv
     rw [by_var hNc] at this
     show dv E' v = dv E q.1
     rw [← dv_agree hA c3]
     unfold dv
     rw [this]
    ·rcases List.mem_cons.1 hf with rfl | hf
     ·show (rng q.2.know.facts l).1 + z ≤ E'.i N ∧ E'.i N ≤ hi64
      rw [hNc, hA.i c c5]
      exact c6
     rcases List.mem_cons.1 hf with rfl | hf
     ·have hl : ev E' l = ev E l := ev_agree ⟨fun k hk => hA.i k (by omega), fun k hk => hA.b k (by omega), fun k hk => hA.l k (by omega), fun k hk => hA.base k (by omega), fun k hk => hA.o k (by omega), fun k hk => hA.v k (by omega), hA.f⟩ c7
      unfold FactOk
      rw [mkSub_ok]
      show z ≤ E'.i N - ev E' l ∧ E'.i N - ev E' l ≤ hi64
      rw [hNc, hA.i c c5, hl]
      exact c9
     ·exact hm2.know.facts f (List.mem_filter.1 hf).1
    ·exact hm2.know.conds d (List.mem_filter.1 hd).1
    ·intro e' he'
     obtain ⟨e, he, hr⟩ := forall2_mem hall he'
     have ok := hm2.ents e he
     rcases hr with rfl | ⟨hro, heq, hdl⟩
     ·exact ok
     ·rw [heq]
      refine ⟨ok.lt, fun h => ?_, fun _ => ?_, fun h => ?_⟩
      ·exact absurd (show e.ro = true from h) (by rw [hro]; exact Bool.false_ne_true)
      ·obtain ⟨o1, o2⟩ := ok.own hro
       refine ⟨o1, ?_⟩
       show w.heap[e.blk E']? = some (.cells (dl E' e'.c).toArray e.t (0, 0))
       rw [hdl]
       exact o2
      ·exact absurd (show e.ro = true from h) (by rw [hro]; exact Bool.false_ne_true)
    ·exact forall2_pairwise hall hm2.apart
    ·intro e' he' hr'
     obtain ⟨e, he, hr⟩ := forall2_mem hall he'
     rcases hr with rfl | ⟨hro, heq, _⟩
     ·exact hm2.mine _ he hr'
     ·rw [heq]
      exact hm2.mine e he hro
  ·exact self
noncomputable def capX (z : Int) (d : Nat) (s : List SV → X SV) : List SV → X SV := fun args m => match s args m with
 | some outs => some (nfL (fun p k => nfS p.1 fun v => nfMem p.2 fun m => k (v, m)) (outs.map (capWay z m.nv (m.nv + d))) fun l => l)
 | none => none
theorem capX_ok {G : Gf} {P : Program} {f d : Nat} {z : Int} {s : List SV → X SV} (hs : SpecOk G P f s) : SpecOk G P f (capX z d s) := by
 intro F w0 E args m outs' w hgf ho hm
 unfold capX at ho
 cases hr : s args m with
 | none => rw [hr] at ho; cases ho
 | some outs =>
 rw [hr] at ho
 cases ho
 rw [nfL_eq (fun p k => by rw [nfS_eq, nfMem_eq])]
 refine (hs F w0 E args m outs w hgf hr hm).mono ?_
 rintro e w' ⟨q, hq, E', hL, rfl, hm'⟩
 obtain ⟨E2, h1, h2, h3⟩ := capWay_ok (z := z) (n := m.nv) (N := m.nv + d) hm'
 refine ⟨_, List.mem_map_of_mem hq, E2, ⟨hL.agree.trans h1.agree hL.le, Nat.le_trans hL.le h1.le, fun h => ?_⟩, ?_, h3⟩
 ·have a1 := hL.le
  have a2 := h1.le
  rw [h1.same (by omega), hL.same (by omega)]
 ·rw [h2]
end Go.Proofs.Ytojpmbkbeoolcaa
