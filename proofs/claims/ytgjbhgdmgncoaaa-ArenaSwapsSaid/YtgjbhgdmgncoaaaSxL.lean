/- The executor over code and calls. -/
import Derived.Test.YtgjbhgdmgncoaaaSxK
import Derived.LoopN
import Derived.Scope
namespace Go.Sx
open Go

inductive SX where
  | normal
  | exit (n : Nat)
  | ret
  deriving DecidableEq, Repr, Inhabited
def SX.to : SX → Exit
  | .normal => .normal
  | .exit n => .exit n
  | .ret => .ret

def Post (F : Nat → Prop) (w0 : World) (E : Env) (m : Mem) (outs : List ((SX × Fr) × Mem)) (e : Exit) (a : Act) (w : World) : Prop :=
  ∃ q ∈ outs, ∃ E', Later m.nv q.2.nv E E' ∧ e = q.1.1.to ∧ FrOk E' q.1.2 a ∧ MemOk F w0 E' q.2 w
theorem Post.later {F : Nat → Prop} {w0 : World} {E E' : Env} {m m' : Mem} {outs outs' : List ((SX × Fr) × Mem)} {e : Exit} {a : Act} {w : World} (h : Post F w0 E' m' outs' e a w)
    (hA : Later m.nv m'.nv E E') (hs : ∀ q ∈ outs', q ∈ outs) : Post F w0 E m outs e a w := by
  obtain ⟨q, hq, E'', hA', he, hf, hm⟩ := h
  exact ⟨q, hs q hq, E'', hA.trans hA', he, hf, hm⟩
def CodeOk (P : Program) (c : Code) (x : Fr → X (SX × Fr)) : Prop :=
  ∀ (F : Nat → Prop) (w0 : World) (E : Env) (tm : Fr) (a : Act) (m : Mem) (w : World) (outs : List ((SX × Fr) × Mem)), x tm m = some outs → MemOk F w0 E m w → FrOk E tm a →
    c.wp P (Post F w0 E m outs) a w

abbrev BX := Nat → Option (Fr → X (SX × Fr))
def blocksOf (id : Nat) : Code → List Code
  | .seq a b => blocksOf id a ++ blocksOf id b
  | .cond _ a b => blocksOf id a ++ blocksOf id b
  | .block i body => (if i = id then [.block i body] else []) ++ blocksOf id body
  | .loop b => blocksOf id b
  | .scope b => blocksOf id b
  | _ => []
def BlocksOk (P : Program) (bx : BX) (c : Code) : Prop := ∀ id sp, bx id = some sp → ∀ c' ∈ blocksOf id c, CodeOk P c' sp

noncomputable def region {P : Program} (T : Tab P) (cx : CX) (ops : Array Oper) (draw : Bool) (tm : Fr) : X (SX × Fr) :=
  if draw then
    if Region.noSelect ops then fun m => match bfs T cx ops ops.size [(0, tm, m)] with
      | some l => some (l.map fun q => ((.normal, q.1), q.2))
      | none => none
    else X.none
  else X.bind (seqOps T cx ops ops.toList tm) fun tm' => X.pure (.normal, tm')

noncomputable def runC {P : Program} (T : Tab P) (cx : CX) (bx : BX) : Nat → Code → Fr → X (SX × Fr)
  | 0, _, _ => X.none
  | n + 1, c, tm => match c with
    | .skip => X.pure (.normal, tm)
    | .label _ => X.pure (.normal, tm)
    | .region _ ops draw => region T cx ops draw tm
    | .seq x y => X.bind (runC T cx bx n x tm) fun r => match r.1 with
      | .normal => runC T cx bx n y r.2
      | e => X.pure (e, r.2)
    | .cond c x y => match opd tm c with
      | some (.bool b) => X.bind (branch b) fun r => if r then runC T cx bx n x tm else runC T cx bx n y tm
      | _ => X.none
    | .block id body => match bx id with
      | some sp => sp tm
      | none => X.bind (runC T cx bx n body tm) fun r => match r.1 with
        | .exit i => if i = id then X.pure (.normal, r.2) else X.pure r
        | _ => X.pure r
    | .loop body => X.bind (runC T cx bx n body tm) fun r => match r.1 with
      | .normal => runC T cx bx n (.loop body) r.2
      | _ => X.pure r
    | .exit i => X.pure (.exit i, tm)
    | .ret => X.pure (.ret, tm)
    | .scope body => runC T cx bx n body tm
    | _ => X.none

theorem MemOk.drew {F : Nat → Prop} {w0 : World} {E : Env} {m : Mem} {w : World} (h : MemOk F w0 E m w) : MemOk F w0 E m { w with drawn := w.drawn + 1 } :=
  ⟨h.know, h.size, fun e he => ⟨(h.ents e he).lt, (h.ents e he).ro, (h.ents e he).own⟩, h.apart, h.mine, ⟨h.ext.os, h.ext.tape, h.ext.output, h.ext.size, h.ext.block⟩, h.seg0⟩

theorem region_ok {P : Program} {T : Tab P} {cx : CX} (hcx : CallsOk P cx) (id : Nat) (ops : Array Oper) (draw : Bool) : CodeOk P (.region id ops draw) (region T cx ops draw) := by
  intro F w0 E tm a m w outs ho hm ha
  cases draw with
  | true =>
    unfold region at ho
    rw [if_pos rfl] at ho
    split at ho
    · rename_i hh
      dsimp only at ho
      split at ho
      · rename_i l hl
        cases ho
        refine wp_region_any T.mixed ?_
        refine bfs_ok hcx hh (fun c a w h => ?_) ops.size hl _ List.mem_cons_self (Rep.start _) hm.drew ha ?_
        · obtain ⟨q, _, E', _, he, _⟩ := h
          cases hq : q.1.1 <;> rw [hq] at he <;> cases he
        · intro q hq E' a' w' hA hm' ha'
          exact ⟨_, List.mem_map.2 ⟨q, hq, rfl⟩, E', hA, rfl, ha', hm'⟩
      · cases ho
    · cases ho
  | false =>
    unfold region at ho
    simp only [Bool.false_eq_true, if_false] at ho
    unfold X.bind at ho
    split at ho
    · cases ho
    rename_i l hl
    refine wp_region ?_
    rw [List.range_eq_range', ← Array.length_toList]
    refine seqOps_ok hcx ops.toList 0 (by simp) hl hm ha ?_
    intro q hq E' a' w' hA hm' ha'
    obtain ⟨l', e', hs⟩ := gather_mem ho q hq
    cases e'
    exact ⟨_, hs _ List.mem_cons_self, E', hA, rfl, ha', hm'⟩

theorem BlocksOk.sub {P : Program} {bx : BX} {c d : Code} (h : BlocksOk P bx c) (hs : ∀ id, ∀ c' ∈ blocksOf id d, c' ∈ blocksOf id c) : BlocksOk P bx d :=
  fun id sp hb c' hc => h id sp hb c' (hs id c' hc)

theorem runC_ok {P : Program} {T : Tab P} {cx : CX} (hcx : CallsOk P cx) {bx : BX} : ∀ (n : Nat),
    (∀ c, BlocksOk P bx c → CodeOk P c (runC T cx bx n c)) ∧
    (∀ c, BlocksOk P bx c → ∀ (F : Nat → Prop) (w0 : World) (E : Env) (tm : Fr) (a : Act) (m : Mem) (w : World) (outs : List ((SX × Fr) × Mem)), runC T cx bx n (.loop c) tm m = some outs → MemOk F w0 E m w → FrOk E tm a →
      Code.rounds P c (Post F w0 E m outs) n a w) := by
  intro n
  induction n with
  | zero => exact ⟨fun c _ F w0 E tm a m w outs ho => (by cases ho), fun c _ F w0 E tm a m w outs ho => (by cases ho)⟩
  | succ n ih =>
    have hloop : ∀ c, BlocksOk P bx c → ∀ (F : Nat → Prop) (w0 : World) (E : Env) (tm : Fr) (a : Act) (m : Mem) (w : World) (outs : List ((SX × Fr) × Mem)), runC T cx bx (n + 1) (.loop c) tm m = some outs → MemOk F w0 E m w → FrOk E tm a →
        Code.rounds P c (Post F w0 E m outs) (n + 1) a w := by
      intro c hb F w0 E tm a m w outs ho hm ha
      rw [rounds_succ]
      unfold runC X.bind at ho
      dsimp only at ho
      split at ho
      · cases ho
      rename_i l hl
      refine wp_mono (ih.1 c hb F w0 E tm a m w l hl hm ha) ?_
      rintro e a' w' ⟨q, hq, E', hA, he, hf, hm'⟩
      obtain ⟨l', e', hs⟩ := gather_mem ho q hq
      cases hx : q.1.1 with
      | normal =>
        rw [hx] at he
        subst he
        simp only [hx] at e'
        have hr := ih.2 c hb F w0 E' q.1.2 a' q.2 w' l' e' hm' hf
        show Code.rounds P c (Post F w0 E m outs) n a' w'
        have mono : ∀ (k : Nat) (a w), Code.rounds P c (Post F w0 E' q.2 l') k a w → Code.rounds P c (Post F w0 E m outs) k a w := by
          intro k
          induction k with
          | zero => intro a w h; exact h.elim
          | succ k ihk =>
            intro a w h
            rw [rounds_succ] at h ⊢
            refine wp_mono h ?_
            intro e a w hq
            cases e with
            | normal => exact ihk a w hq
            | _ => exact Post.later hq hA hs
        exact mono n a' w' hr
      | exit i =>
        rw [hx] at he
        subst he
        simp only [hx] at e'
        cases e'
        exact ⟨_, hs _ List.mem_cons_self, E', hA, by rw [hx], hf, hm'⟩
      | ret =>
        rw [hx] at he
        subst he
        simp only [hx] at e'
        cases e'
        exact ⟨_, hs _ List.mem_cons_self, E', hA, by rw [hx], hf, hm'⟩
    refine ⟨?_, hloop⟩
    intro c hb F w0 E tm a m w outs ho hm ha
    cases c with
    | skip => cases ho; exact wp_skip ⟨_, List.mem_cons_self, E, Later.refl _ _, rfl, ha, hm⟩
    | label l => cases ho; exact wp_label ⟨_, List.mem_cons_self, E, Later.refl _ _, rfl, ha, hm⟩
    | exit i => cases ho; exact wp_exit ⟨_, List.mem_cons_self, E, Later.refl _ _, rfl, ha, hm⟩
    | ret => cases ho; exact wp_ret ⟨_, List.mem_cons_self, E, Later.refl _ _, rfl, ha, hm⟩
    | region id ops draw => exact region_ok hcx id ops draw F w0 E tm a m w outs ho hm ha
    | seq x y =>
      unfold runC X.bind at ho
      dsimp only at ho
      split at ho
      · cases ho
      rename_i l hl
      refine wp_seq (wp_mono (ih.1 x (hb.sub fun id c' hc => List.mem_append_left _ hc) F w0 E tm a m w l hl hm ha) ?_)
      rintro e a' w' ⟨q, hq, E', hA, he, hf, hm'⟩
      obtain ⟨l', e', hs⟩ := gather_mem ho q hq
      cases hx : q.1.1 with
      | normal =>
        rw [hx] at he
        subst he
        simp only [hx] at e'
        exact wp_mono (ih.1 y (hb.sub fun id c' hc => List.mem_append_right _ hc) F w0 E' q.1.2 a' q.2 w' l' e' hm' hf) fun _ _ _ h => Post.later h hA hs
      | exit i =>
        rw [hx] at he
        subst he
        simp only [hx] at e'
        cases e'
        exact ⟨_, hs _ List.mem_cons_self, E', hA, rfl, hf, hm'⟩
      | ret =>
        rw [hx] at he
        subst he
        simp only [hx] at e'
        cases e'
        exact ⟨_, hs _ List.mem_cons_self, E', hA, rfl, hf, hm'⟩
    | cond t x y =>
      unfold runC at ho
      dsimp only at ho
      cases ht : opd tm t with
      | none => rw [ht] at ho; cases ho
      | some v =>
        rw [ht] at ho
        cases v <;> first | (cases ho; done) | skip
        rename_i b
        dsimp only at ho
        unfold X.bind at ho
        split at ho
        · cases ho
        rename_i l hl
        obtain ⟨p, hp, w', hm', hn, rfl, hv⟩ := branch_ok (F := F) (w0 := w0) (E := E) b m w l hl hm
        obtain ⟨l', e', hs⟩ := gather_mem ho p hp
        have hev : a.eval t = .bool (evB E b) := opd_ok ha.tmps ht
        refine wp_cond hev ?_
        rw [← hv]
        cases hp1 : p.1 with
        | true =>
          simp only [hp1, if_true] at e' ⊢
          exact wp_mono (ih.1 x (hb.sub fun id c' hc => List.mem_append_left _ hc) F w0 E tm a p.2 w' l' e' hm' ha) fun _ _ _ h => Post.later h (Later.of hn _) hs
        | false =>
          simp only [hp1, Bool.false_eq_true, if_false] at e' ⊢
          exact wp_mono (ih.1 y (hb.sub fun id c' hc => List.mem_append_right _ hc) F w0 E tm a p.2 w' l' e' hm' ha) fun _ _ _ h => Post.later h (Later.of hn _) hs
    | block id body =>
      unfold runC at ho
      dsimp only at ho
      cases hbx : bx id with
      | some sp =>
        rw [hbx] at ho
        exact hb id sp hbx (.block id body) (by simp [blocksOf]) F w0 E tm a m w outs ho hm ha
      | none =>
        rw [hbx] at ho
        dsimp only at ho
        unfold X.bind at ho
        split at ho
        · cases ho
        rename_i l hl
        refine wp_block (wp_mono (ih.1 body (hb.sub fun id c' hc => List.mem_append_right _ hc) F w0 E tm a m w l hl hm ha) ?_)
        rintro e a' w' ⟨q, hq, E', hA, he, hf, hm'⟩
        obtain ⟨l', e', hs⟩ := gather_mem ho q hq
        cases hx : q.1.1 with
        | normal =>
          rw [hx] at he
          subst he
          simp only [hx] at e'
          cases e'
          exact ⟨_, hs _ List.mem_cons_self, E', hA, by rw [hx], hf, hm'⟩
        | ret =>
          rw [hx] at he
          subst he
          simp only [hx] at e'
          cases e'
          exact ⟨_, hs _ List.mem_cons_self, E', hA, by rw [hx], hf, hm'⟩
        | exit i =>
          rw [hx] at he
          subst he
          simp only [hx] at e'
          show if i = id then _ else _
          by_cases hi : i = id
          · rw [if_pos hi] at e' ⊢
            cases e'
            exact ⟨_, hs _ List.mem_cons_self, E', hA, rfl, hf, hm'⟩
          · rw [if_neg hi] at e' ⊢
            cases e'
            exact ⟨_, hs _ List.mem_cons_self, E', hA, by rw [hx]; rfl, hf, hm'⟩
    | loop body => exact wp_loop_rounds (n + 1) (hloop body hb F w0 E tm a m w outs ho hm ha)
    | scope body =>
      refine wp_scope_straight (wp_mono (ih.1 body hb F w0 E tm a m w outs ho hm ha) ?_)
      intro e a' w' h
      cases e with
      | goto l => obtain ⟨q, _, _, _, he, _⟩ := h; cases hq : q.1.1 <;> rw [hq] at he <;> cases he
      | _ => exact h
    | rangeFunc f ps as body => cases ho
    | goto l => cases ho
    | refuse s => cases ho

/- calls -/
noncomputable def collect {P : Program} (T : Tab P) (tm : Fr) : List ResultVar → X (List SV)
  | [] => X.pure []
  | .tmp t :: rest => X.bind (collect T tm rest) fun l => X.pure (tm.getD t .undef :: l)
  | .cell a t :: rest => X.bind (loadS T t (tm.getD a .undef)) fun v => X.bind (collect T tm rest) fun l => X.pure (v :: l)
noncomputable def resS {P : Program} (T : Tab P) (fn : Func) (tm : Fr) : X SV :=
  X.bind (collect T tm fn.results.toList) fun l => match l with
    | [v] => X.pure v
    | l => X.bind (X.ofOption (chainOf l)) fun c => X.pure (.tup c)
theorem getD_map {E : Env} {tm : Fr} {a : Act} (ha : a.tmps = (tm.map (dv E)).toArray) (t : Nat) : a.tmps.getD t undef = dv E (tm.getD t .undef) :=
  opd_ok (E := E) ha (x := .tmp t) rfl
def oneRes (tmps : Array Value) (r : ResultVar) : Sem Value :=
  match r with
  | .tmp t => pure (tmps.getD t undef)
  | .cell a t => do loadVar t (← asAddr (tmps.getD a undef))
theorem loadS_as {E : Env} {P : Program} {t : Nat} {v : SV} {r : Value} {w : World} (hv : ∃ s k off, v = .ptr s k off) (h : (Instr.loadAt t (dv E v)).run P w = .ok r w) :
    (do loadVar t (← asAddr (dv E v)) : Sem Value).run P w = .ok r w := by
  obtain ⟨s, k, off, rfl⟩ := hv
  exact h
theorem loadS_ptr {P : Program} {T : Tab P} {t : Nat} {v : SV} {m : Mem} {l : List (SV × Mem)} (h : loadS T t v m = some l) : ∃ s k off, v = .ptr s k off := by
  unfold loadS at h
  split at h
  · exact ⟨_, _, _, rfl⟩
  · cases h
theorem collect_ok {F : Nat → Prop} {w0 : World} {E : Env} {P : Program} (T : Tab P) {tm : Fr} {a : Act} (ha : a.tmps = (tm.map (dv E)).toArray) : ∀ (rs : List ResultVar) (m : Mem) (w : World),
    GX F w0 E (collect T tm rs) m w fun l w' => w' = w ∧ (rs.mapM (oneRes a.tmps)).run P w = .ok (l.map (dv E)) w := by
  intro rs
  induction rs with
  | nil => intro m w; exact GX.pure fun _ => ⟨rfl, rfl⟩
  | cons r rest ih =>
    intro m w
    cases r with
    | tmp t =>
      unfold collect
      refine GX.bind (ih m w) ?_
      rintro l m1 w1 ⟨rfl, h⟩
      refine GX.pure fun _ => ⟨rfl, ?_⟩
      simp only [List.mapM_cons, Sem.run_bind, oneRes, Sem.run_pure, Result.andThen_ok, h, getD_map ha, List.map_cons]
    | cell x t =>
      unfold collect
      have key : GX F w0 E (loadS T t (tm.getD x .undef)) m w fun v w' => w' = w ∧ (oneRes a.tmps (.cell x t)).run P w = .ok (dv E v) w := by
        intro outs ho hm
        obtain ⟨p, hp, w', hm', hn, rfl, _, hl⟩ := loadS_ok T t (tm.getD x .undef) m w outs ho hm
        refine ⟨p, hp, w', hm', hn, rfl, ?_⟩
        show (do loadVar t (← asAddr (a.tmps.getD x undef)) : Sem Value).run P w' = _
        rw [getD_map ha]
        exact loadS_as (loadS_ptr ho) hl
      refine GX.bind key ?_
      rintro v m1 w1 ⟨rfl, h1⟩
      refine GX.bind (ih m1 w1) ?_
      rintro l m2 w2 ⟨rfl, h⟩
      refine GX.pure fun _ => ⟨rfl, ?_⟩
      simp only [List.mapM_cons, Sem.run_bind, h1, Sem.run_pure, Result.andThen_ok, h, List.map_cons]
theorem resS_ok {F : Nat → Prop} {w0 : World} {E : Env} {P : Program} (T : Tab P) (fn : Func) {tm : Fr} {a : Act} (ha : a.tmps = (tm.map (dv E)).toArray) (m : Mem) (w : World) :
    GX F w0 E (resS T fn tm) m w fun v w' => w' = w ∧ (results fn a.tmps).run P w = .ok (dv E v) w := by
  have hres : ∀ (l : List Value), (fn.results.toList.mapM (oneRes a.tmps)).run P w = .ok l w → (results fn a.tmps).run P w = .ok (if h : l.toArray.size = 1 then l.toArray[0] else .tuple l.toArray) w := by
    intro l hl
    have e : results fn a.tmps = (do let vs ← fn.results.mapM (oneRes a.tmps); pure (if h : vs.size = 1 then vs[0] else .tuple vs)) := rfl
    have : (fn.results.mapM (oneRes a.tmps)).run P w = .ok l.toArray w := by
      rw [Array.mapM_eq_mapM_toList]
      simp only [Sem.run_map, hl, Result.andThen_ok]
    rw [e, Sem.run_bind, this]
    rfl
  unfold resS
  refine GX.bind (collect_ok T ha fn.results.toList m w) ?_
  rintro l m1 w1 ⟨rfl, h⟩
  split
  · rename_i v
    refine GX.pure fun _ => ⟨rfl, ?_⟩
    rw [hres _ h]
    rfl
  · rename_i hne
    refine GX.bind (GX.ofOption (Q := fun c w' => w' = w1 ∧ chainOf l = some c) fun _ h => ⟨rfl, h⟩) ?_
    rintro c m2 w2 ⟨rfl, hc⟩
    refine GX.pure fun _ => ⟨rfl, ?_⟩
    rw [hres _ h]
    have : ¬ (l.map (dv E)).toArray.size = 1 := by
      intro h1
      simp only [List.size_toArray, List.length_map] at h1
      match l, h1 with
      | [v], _ => exact hne v rfl
    rw [dif_neg this]
    show _ = Result.ok (Value.tuple (dl E c).toArray) w2
    rw [chainOf_ok E l c hc]

/- what a call made and nobody can reach is forgotten -/
noncomputable def refsN (sg n0 : Nat) (v : SV) : List Nat → List Nat :=
  SV.rec (motive := fun _ => List Nat → List Nat)
    (fun l => l) (fun _ l => l) (fun _ _ l => l) (fun _ l => l) (fun l => l)
    (fun s i _ l => cond (Nat.beq s sg && Nat.ble n0 i) (i :: l) l) (fun l => l)
    (fun s i _ _ _ l => cond (Nat.beq s sg && Nat.ble n0 i) (i :: l) l)
    (fun _ _ ih l => ih l) (fun l => l) (fun _ _ ih l => ih l) (fun l => l)
    (fun _ ih l => ih l) (fun _ ih l => ih l) (fun l => l) (fun _ _ ha hb l => ha (hb l))
    (fun _ _ _ _ _ l => l) (fun _ _ _ _ l => l) v
def isNew (sg n0 : Nat) (x : Ent) : Bool := Nat.ble n0 x.k && Nat.beq x.s sg
def hasN (k : Nat) : List Nat → Bool
  | [] => false
  | x :: r => cond (Nat.beq x k) true (hasN k r)
noncomputable def reachN (sg n0 : Nat) (h : List Ent) : Nat → List Nat → List Nat
  | 0, R => R
  | n + 1, R => nfSp (h.foldr (fun x R' => cond (isNew sg n0 x && hasN x.k R) (refsN sg n0 x.c R') R') R) fun R' => reachN sg n0 h n R'
noncomputable def kept (sg n0 : Nat) (v : SV) (h : List Ent) : List Ent :=
  nfSp (h.foldr (fun x R => cond (isNew sg n0 x) R (refsN sg n0 x.c R)) (refsN sg n0 v [])) fun R =>
    match R with
    | [] => h.filter fun x => !isNew sg n0 x
    | R => nfSp (reachN sg n0 h 3 R) fun R => h.filter fun x => !isNew sg n0 x || hasN x.k R
noncomputable def gcX (sg n0 : Nat) (v : SV) : X SV := fun m => match m with
  | ⟨kn, h, s, nx, nv⟩ => cond (Nat.beq s sg && !Nat.beq nx n0) (nfSp (kept sg n0 v h) fun h' => some [(v, ⟨kn, h', s, nx, nv⟩)]) (some [(v, ⟨kn, h, s, nx, nv⟩)])
theorem kept_sub (sg n0 : Nat) (v : SV) (h : List Ent) : (kept sg n0 v h).Sublist h := by
  unfold kept
  rw [nfSp_eq]
  split
  · exact List.filter_sublist
  · rw [nfSp_eq]; exact List.filter_sublist
theorem MemOk.sub {F : Nat → Prop} {w0 : World} {E : Env} {kn : Know} {h h' : List Ent} {s nx nv : Nat} {w : World} (hm : MemOk F w0 E ⟨kn, h, s, nx, nv⟩ w) (hs : h'.Sublist h) : MemOk F w0 E ⟨kn, h', s, nx, nv⟩ w :=
  ⟨hm.know, hm.size, fun e he => hm.ents e (hs.subset he), hm.apart.sublist hs, fun e he => hm.mine e (hs.subset he), hm.ext, hm.seg0⟩
theorem gcX_ok {F : Nat → Prop} {w0 : World} {E : Env} (sg n0 : Nat) (v : SV) (m : Mem) (w : World) : GX F w0 E (gcX sg n0 v) m w fun r w' => w' = w ∧ r = v := by
  intro outs ho hm
  obtain ⟨kn, h, s, nx, nv⟩ := m
  unfold gcX at ho
  dsimp only at ho
  rw [nfSp_eq] at ho
  cases hb : (Nat.beq s sg && !Nat.beq nx n0) with
  | true =>
    rw [hb] at ho
    cases ho
    exact ⟨_, List.mem_cons_self, w, hm.sub (kept_sub _ _ _ _), rfl, rfl, rfl⟩
  | false =>
    rw [hb] at ho
    cases ho
    exact ⟨_, List.mem_cons_self, w, hm, rfl, rfl, rfl⟩
noncomputable def inlineS {P : Program} (T : Tab P) (cx : CX) (bx : Nat → BX) (fuel : Nat) (f : Nat) (args : List SV) : X SV :=
  match T.func f with
  | some fn => match fn.body with
    | some c => fun m => X.bind (nfSp (args ++ List.replicate (fn.ntmps - args.length) .undef) fun tm => runC T cx (bx f) fuel c tm) (fun r => match r.1 with
      | .exit _ => X.none
      | _ => X.bind (resS T fn r.2) fun v => gcX m.seg m.next v) m
    | none => X.none
  | none => X.none
/-- what is known of the calls -/
abbrev Specs := Nat → Option (List SV → X SV)
noncomputable def callD {P : Program} (T : Tab P) (sp : Specs) (bx : Nat → BX) (fuel : Nat) : Nat → CX
  | 0 => fun _ _ => X.none
  | d + 1 => fun f args => match sp f with
    | some s => s args
    | none => inlineS T (callD T sp bx fuel d) bx fuel f args
def SpecOk (P : Program) (f : Nat) (s : List SV → X SV) : Prop :=
  ∀ (F : Nat → Prop) (w0 : World) (E : Env) (args : List SV) (m : Mem) (outs : List (SV × Mem)) (w : World), s args m = some outs → MemOk F w0 E m w →
    Calls P f (args.map (dv E)).toArray w fun e w' => ∃ p ∈ outs, ∃ E', Later m.nv p.2.nv E E' ∧ e = .returned (dv E' p.1) ∧ MemOk F w0 E' p.2 w'
def SpecsOk (P : Program) (sp : Specs) : Prop := ∀ f s, sp f = some s → SpecOk P f s
def BxOk (P : Program) (bx : Nat → BX) : Prop := ∀ (f : Nat) (fn : Func) (c : Code), P.funcs[f]? = some fn → fn.body = some c → BlocksOk P (bx f) c
theorem inlineS_ok {P : Program} {T : Tab P} {cx : CX} (hcx : CallsOk P cx) {bx : Nat → BX} (hbx : BxOk P bx) (fuel f : Nat) : SpecOk P f (inlineS T cx bx fuel f) := by
  intro F w0 E args m outs w ho hm
  unfold inlineS at ho
  cases hf : T.func f with
  | none => rw [hf] at ho; cases ho
  | some fn =>
    rw [hf] at ho
    dsimp only at ho
    cases hc : fn.body with
    | none => rw [hc] at ho; cases ho
    | some c =>
      rw [hc] at ho
      dsimp only at ho
      rw [nfSp_eq] at ho
      unfold X.bind at ho
      split at ho
      · cases ho
      rename_i l hl
      have hfr : FrOk E (args ++ List.replicate (fn.ntmps - args.length) SV.undef) { tmps := (args.map (dv E)).toArray ++ Array.replicate (fn.ntmps - (args.map (dv E)).toArray.size) undef, defers := [] } := by
        refine ⟨?_, rfl⟩
        apply Array.ext'
        simp only [List.map_append, List.map_replicate, Array.toList_append, Array.toList_replicate, List.size_toArray, List.length_map]
        rfl
      refine calls_of_wp (T.func_ok _ _ hf) hc (wp_mono ((runC_ok hcx fuel).1 c (hbx f fn c (T.func_ok _ _ hf) hc) F w0 E _ _ m w l hl hm hfr) ?_)
      rintro e a' w' ⟨q, hq, E', hA, he, hfr', hm'⟩
      obtain ⟨l', e', hs⟩ := gather_mem ho q hq
      have fin : (∀ i, q.1.1 ≠ .exit i) → (X.bind (resS T fn q.1.2) fun v => gcX m.seg m.next v) q.2 = some l' → a'.defers = [] ∧ ∃ v, (results fn a'.tmps).run P w' = .ok v w' ∧ ∃ p ∈ outs, ∃ E', Later m.nv p.2.nv E E' ∧ Ending.returned v = .returned (dv E' p.1) ∧ MemOk F w0 E' p.2 w' := by
        intro _ hres
        have hboth : GX F w0 E' (X.bind (resS T fn q.1.2) fun v => gcX m.seg m.next v) q.2 w' fun v w2 => w2 = w' ∧ (results fn a'.tmps).run P w' = .ok (dv E' v) w' :=
          GX.bind (resS_ok T fn hfr'.tmps q.2 w') (by
            rintro v m1 w1 ⟨rfl, hr⟩
            exact (gcX_ok m.seg m.next v m1 w1).mono fun r w2 h => ⟨h.1, by rw [h.2]; exact hr⟩)
        obtain ⟨p, hp, w2, hm2, hn2, rfl, hr⟩ := hboth l' hres hm'
        exact ⟨hfr'.defers, _, hr, p, hs p hp, E', by rw [hn2]; exact hA, rfl, hm2⟩
      cases hx : q.1.1 with
      | normal =>
        simp only [hx] at e' he
        subst he
        exact fin (by simp [hx]) e'
      | ret =>
        simp only [hx] at e' he
        subst he
        exact fin (by simp [hx]) e'
      | exit i => simp only [hx] at e'; cases e'
theorem callD_ok {P : Program} {T : Tab P} {sp : Specs} (hsp : SpecsOk P sp) {bx : Nat → BX} (hbx : BxOk P bx) (fuel : Nat) : ∀ d, CallsOk P (callD T sp bx fuel d) := by
  intro d
  induction d with
  | zero => intro F w0 E f args m outs w ho; cases ho
  | succ d ih =>
    intro F w0 E f args m outs w ho hm
    unfold callD at ho
    cases hs : sp f with
    | some s =>
      rw [hs] at ho
      exact hsp f s hs F w0 E args m outs w ho hm
    | none =>
      rw [hs] at ho
      exact inlineS_ok ih hbx fuel f F w0 E args m outs w ho hm
end Go.Sx
