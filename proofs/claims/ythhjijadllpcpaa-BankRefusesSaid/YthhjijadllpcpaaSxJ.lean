/- The executor over regions. -/
import Derived.Test.YthhjijadllpcpaaSxI
import Derived.Test.YthhjijadllpcpaaSxW
import Derived.Orders
namespace Go.Sx
open Go

/- frames -/
structure FrOk (E : Env) (tm : Fr) (a : Act) : Prop where
  tmps : FrT E tm a
  defers : a.defers = []
noncomputable def putS (tm : Fr) (dst : Option Nat) (v : SV) : Fr :=
  match dst with
  | some d => tm.set d v
  | none => tm
theorem FrOk.put {E : Env} {tm : Fr} {a : Act} (h : FrOk E tm a) (dst : Option Nat) (v : SV) : FrOk E (putS tm dst v) (a.put dst (dv E v)) := by
  cases dst with
  | none => exact h
  | some d =>
    refine ⟨⟨?_, fun i => ?_, Fr.set_wf h.tmps.wf d v⟩, h.defers⟩
    · simp only [Act.put, Array.size_setIfInBounds]; exact h.tmps.size
    · have hs := h.tmps.size
      have hg : (tm.set d v).get i = if i = d ∧ d < tm.n then v else tm.get i := by
        show (tm.t.set d v).get i = _
        rw [FT.get_set, h.tmps.wf d]
        simp only [decide_eq_true_eq]; rfl
      show (tm.set d v).get i = .nil ∨ (a.tmps.setIfInBounds d (dv E v)).getD i undef = dv E ((tm.set d v).get i)
      rw [hg]
      by_cases hi : i = d ∧ d < tm.n
      · right
        rw [if_pos hi, hi.1, Array.getD_eq_getD_getElem?, Array.getElem?_setIfInBounds, if_pos rfl, if_pos (by omega)]; rfl
      · rw [if_neg hi]
        rcases h.tmps.slot i with h1 | h1
        · exact .inl h1
        · right
          rw [← h1, Array.getD_eq_getD_getElem?, Array.getD_eq_getD_getElem?, Array.getElem?_setIfInBounds]
          split
          · rename_i he
            subst he
            have : ¬ d < a.tmps.size := fun hl => hi ⟨rfl, by omega⟩
            rw [if_neg this, Array.getElem?_eq_none (by omega)]
          · rfl
theorem FrOk.agree {n : Nat} {E E' : Env} {tm : Fr} {a : Act} (h : FrOk E tm a) (hb : tm.t.all (SV.nm n) = true) (hA : Agree n E E') : FrOk E' tm a := by
  refine ⟨⟨h.tmps.size, fun i => ?_, h.tmps.wf⟩, h.defers⟩
  rcases h.tmps.slot i with h1 | h1
  · exact .inl h1
  · right
    rw [h1]
    exact (dv_agree hA (FT.all_get (p := SV.nm n) rfl tm.t hb i)).symm

/- which operations are wanted -/
noncomputable def wantedX (ops : Array Oper) (tm : Fr) (o : Oper) : X Bool :=
  match o.guard with
  | none => X.pure true
  | some (j, want) => match (ops[j]?).bind (·.dst) with
    | none => X.pure false
    | some d => match tm.get d with
      | .bool b => X.bind (branch b) fun r => X.pure (r == want)
      | v => if v.isV then X.pure false else X.none
theorem wantedX_ok {F : Nat → Prop} {w0 : World} {E : Env} (ops : Array Oper) {tm : Fr} {a : Act} (ha : FrOk E tm a) (o : Oper) (m : Mem) (w : World) :
    GX F w0 E (wantedX ops tm o) m w fun r w' => w' = w ∧ Region.wanted o (yielded ops a.tmps) = r := by
  unfold wantedX
  split
  · rename_i hg
    exact GX.pure fun _ => ⟨rfl, by simp [Region.wanted, hg]⟩
  · rename_i j want hg
    split
    · rename_i hd
      exact GX.pure fun _ => ⟨rfl, by simp [Region.wanted, hg, yielded, hd]⟩
    · rename_i d hd
      have hy : tm.get d ≠ .nil → yielded ops a.tmps j = match dv E (tm.get d) with | .bool b => some b | _ => none := by
        intro hnn
        have h1 : a.tmps.getD d undef = dv E (tm.get d) := by
          rcases ha.tmps.slot d with h1 | h1
          · exact absurd h1 hnn
          · exact h1
        rw [← h1, Array.getD_eq_getD_getElem?]
        simp only [yielded, hd, Option.bind_some]
        cases a.tmps[d]? with
        | none => rfl
        | some v => cases v <;> rfl
      split
      · rename_i b hx
        refine GX.bind (branch_ok b m w) ?_
        rintro r m1 w1 ⟨rfl, hr⟩
        refine GX.pure fun _ => ⟨rfl, ?_⟩
        have e : dv E (.bool b) = .bool (evB E b) := rfl
        rw [Region.wanted, hg]
        dsimp only
        rw [hy (by rw [hx]; intro hc; cases hc)]
        simp only [hx, e, ← hr]
        cases r <;> cases want <;> rfl
      · rename_i v hnb
        split
        · rename_i hv
          refine GX.pure fun _ => ⟨rfl, ?_⟩
          simp only [Region.wanted, hg]
          rw [hy (by intro hc; rw [hc] at hv; cases hv)]
          revert hnb hv
          generalize tm.get d = v
          intro hnb hv
          cases v <;> first | rfl | (exact (hnb _ rfl).elim) | (simp [SV.isV] at hv)
        · exact GX.none

/-- contracts of calls -/
def CX := Nat → List SV → X SV
def CallsOk (P : Program) (cx : CX) : Prop :=
  ∀ (F : Nat → Prop) (w0 : World) (E : Env) (f : Nat) (args : List SV) (m : Mem) (outs : List (SV × Mem)) (w : World), cx f args m = some outs → MemOk F w0 E m w →
    Calls P f (args.map (dv E)).toArray w fun e w' => ∃ p ∈ outs, ∃ E', Later m.nv p.2.nv E E' ∧ e = .returned (dv E' p.1) ∧ MemOk F w0 E' p.2 w'

noncomputable def putX' (tm : Fr) (dst : Option Nat) (v : SV) : X Fr := fun m => match dst with
  | some d => nfS v fun v => tm.setK d v fun tm' => some [(tm', m)]
  | none => some [(tm, m)]
theorem putX'_eq (tm : Fr) (dst : Option Nat) (v : SV) : putX' tm dst v = X.pure (putS tm dst v) := by
  funext m
  unfold putX'
  cases dst with
  | none => rfl
  | some d => dsimp only; rw [nfS_eq, Fr.setK_eq]; rfl
/-- an append: its element's type, the slice, what comes behind -/
noncomputable def appArgs {P : Program} (T : Tab P) (tm : Fr) (o : Oper) : Option (Nat × SV × SV) :=
  match o.op with
  | .call c => match c.callee, c.args.toList, c.argTypes.toList with
    | .builtin .append, [s, x], [t, t'] => if t = t' then match T.under t, opd tm s, opd tm x with
      | some (.slice e), some s, some x => some (e, s, x)
      | _, _, _ => none else none
    | _, _, _ => none
  | _ => none
theorem appArgs_ok {E : Env} {P : Program} {T : Tab P} {tm : Fr} {a : Act} (ha : FrT E tm a) {o : Oper} {e : Nat} {s x : SV} (h : appArgs T tm o = some (e, s, x)) :
    ∃ t, P.underlying t = some (.slice e) ∧ ∀ (v : Value) (w w' : World), (Builtin.append_ #[t, t] o.type #[dv E s, dv E x]).run P w = .ok v w' → (execOp a.eval o).run P w = .ok (.value v) w' := by
  unfold appArgs at h
  split at h
  case h_2 => cases h
  rename_i c hop
  split at h
  case h_2 => cases h
  rename_i so xo t t' hcal hargs htys
  split at h
  case isFalse => cases h
  rename_i htt
  subst htt
  split at h
  case h_2 => cases h
  rename_i e' s' x' hu hs hx
  cases h
  refine ⟨t, T.under_ok _ _ hu, fun v w w' hr => ?_⟩
  have h1 : c.argTypes = #[t, t] := by rw [← Array.toArray_toList (xs := c.argTypes), htys]
  have h2 : c.args = #[so, xo] := by rw [← Array.toArray_toList (xs := c.args), hargs]
  have h3 : c.args.map a.eval = #[dv E s, dv E x] := by rw [h2]; simp [opd_ok ha hs, opd_ok ha hx]
  simp only [execOp, hop, resolve, hcal, Sem.run_bind, Sem.run_pure, Result.andThen_ok, h3, invoke, builtin, h1, hr]
noncomputable def stepOp {P : Program} (T : Tab P) (cx : CX) (ops : Array Oper) (tm : Fr) (o : Oper) : X Fr :=
  X.bind (wantedX ops tm o) fun wnt =>
    if wnt then match appArgs T tm o with
    | some (e, s, x) => fun m => X.bind (appS T e s x) (fun v m' => if Nat.beq m'.nv m.nv || tm.t.all (SV.nm m.nv) then putX' tm o.dst v m' else none) m
    | none => X.bind (opS T tm o) fun nx =>
      match nx with
      | .val v => putX' tm o.dst v
      | .skip => putX' tm o.dst .undef
      | .enter f args => fun m => X.bind (cx f args) (fun v m' => if Nat.beq m'.nv m.nv || tm.t.all (SV.nm m.nv) then putX' tm o.dst v m' else none) m
    else putX' tm o.dst .undef

/-- what holds of every way out -/
def Goes (F : Nat → Prop) (w0 : World) (E : Env) (m : Mem) (outs : List (Fr × Mem)) (K : Act → World → Prop) : Prop :=
  ∀ q ∈ outs, ∀ (E' : Env) (a' : Act) (w' : World), Later m.nv q.2.nv E E' → MemOk F w0 E' q.2 w' → FrOk E' q.1 a' → K a' w'
theorem Goes.later {F : Nat → Prop} {w0 : World} {E E' : Env} {m m' : Mem} {outs outs' : List (Fr × Mem)} {K : Act → World → Prop} (h : Goes F w0 E m outs K) (hA : Later m.nv m'.nv E E')
    (hs : ∀ q ∈ outs', q ∈ outs) : Goes F w0 E' m' outs' K :=
  fun q hq E'' a'' w'' hA' hm' hf' => h q (hs q hq) E'' a'' w'' (hA.trans hA') hm' hf'

theorem stepOp_ok {F : Nat → Prop} {w0 : World} {E : Env} {P : Program} {T : Tab P} {cx : CX} (hcx : CallsOk P cx) {ops : Array Oper} {tm : Fr} {o : Oper} {a : Act} {m : Mem} {w : World} {outs : List (Fr × Mem)}
    (ho : stepOp T cx ops tm o m = some outs) (hm : MemOk F w0 E m w) (ha : FrOk E tm a) {K : Act → World → Prop} {Q : Exit → Act → World → Prop} (hK : Goes F w0 E m outs K) :
    if Region.wanted o (yielded ops a.tmps) = true then Oper.wp P o a w K Q else K (a.put o.dst undef) w := by
  have hun : dv E .undef = undef := rfl
  unfold stepOp at ho
  simp only [putX'_eq] at ho
  obtain ⟨l, hl, ho⟩ := bind_inv ho
  obtain ⟨p, hp, w1, hm1, hn1, rfl, hw⟩ := wantedX_ok ops ha o m w l hl hm
  obtain ⟨l1, e1, s1⟩ := gather_mem ho p hp
  rw [hw]
  split at e1
  · rename_i hp1
    rw [if_pos hp1]
    rcases happ : appArgs T tm o with _ | ⟨e, s, x⟩
    case some =>
      rw [happ] at e1
      obtain ⟨l2, hl2, e1⟩ := bind_inv e1
      obtain ⟨t, ht, hex⟩ := appArgs_ok ha.tmps happ
      obtain ⟨q, hq, E', w2, hA, hm2, hrun⟩ := appS_ok T ht o.type s x p.2 w1 hl2 hm1
      obtain ⟨l3, e3, s3⟩ := gather_mem e1 q hq
      split at e3
      · rename_i hb
        cases e3
        unfold Oper.wp
        rw [hex _ _ _ hrun]
        show K _ _
        have haa : FrOk E' tm a := by
          rw [Bool.or_eq_true] at hb
          rcases hb with hb | hb
          · rw [hA.same (Nat.eq_of_beq_eq_true hb)]; exact ha
          · exact ha.agree hb hA.agree
        exact hK _ (s1 _ (s3 _ List.mem_cons_self)) E' _ w2 (by rw [← hn1]; exact hA) hm2 (haa.put o.dst q.1)
      · cases e3
    rw [happ] at e1
    obtain ⟨l2, hl2, e1⟩ := bind_inv e1
    obtain ⟨p2, hp2, w2, hm2, hn2, hrun⟩ := opS_ok T ha.tmps o p.2 w1 l2 hl2 hm1
    obtain ⟨l3, e3, s3⟩ := gather_mem e1 p2 hp2
    unfold Oper.wp
    rw [hrun]
    cases hv : p2.1 with
    | val v =>
      simp only [hv] at e3
      cases e3
      show K _ _
      exact hK _ (s1 _ (s3 _ List.mem_cons_self)) E _ w2 (Later.of (by rw [hn2, hn1]) E) hm2 (ha.put o.dst v)
    | skip =>
      simp only [hv] at e3
      cases e3
      show K _ _
      exact hK _ (s1 _ (s3 _ List.mem_cons_self)) E _ w2 (Later.of (by rw [hn2, hn1]) E) hm2 (hun ▸ ha.put o.dst .undef)
    | enter f args =>
      simp only [hv] at e3
      show Calls P f (args.map (dv E)).toArray w2 _
      obtain ⟨l4, hl4, e3⟩ := bind_inv e3
      refine (hcx F w0 E f args p2.2 l4 w2 hl4 hm2).mono ?_
      rintro e w3 ⟨q, hq, E', hA, rfl, hm3⟩
      obtain ⟨l5, e5, s5⟩ := gather_mem e3 q hq
      split at e5
      · rename_i hb
        cases e5
        show K _ _
        have hnv : m.nv = p2.2.nv := by rw [hn2, hn1]
        have haa : FrOk E' tm a := by
          rw [Bool.or_eq_true] at hb
          rcases hb with hb | hb
          · rw [hA.same (Nat.eq_of_beq_eq_true hb)]; exact ha
          · exact ha.agree hb hA.agree
        exact hK _ (s1 _ (s3 _ (s5 _ List.mem_cons_self))) E' _ w3 (by rw [hnv]; exact hA) hm3 (haa.put o.dst q.1)
      · cases e5
  · rename_i hp1
    cases e1
    rw [if_neg hp1]
    exact hK _ (s1 _ List.mem_cons_self) E _ w1 (Later.of hn1 E) hm1 (hun ▸ ha.put o.dst .undef)

/-- a pair, taken apart at once -/
noncomputable def spl {α β γ : Type} (g : α → β → γ) (r : α × β) : γ := Prod.rec (motive := fun _ => γ) g r
theorem spl_eq {α β γ : Type} (g : α → β → γ) (r : α × β) : spl g r = g r.1 r.2 := rfl
/- in the order of the text -/
noncomputable def seqOps {P : Program} (T : Tab P) (cx : CX) (ops : Array Oper) : List Oper → Fr → X Fr
  | [], tm => X.pure tm
  | o :: rest, tm => X.bind (stepOp T cx ops tm o) fun tm' => seqOps T cx ops rest tm'
theorem seqOps_ok {F : Nat → Prop} {w0 : World} {P : Program} {T : Tab P} {cx : CX} (hcx : CallsOk P cx) {ops : Array Oper} {Q : Exit → Act → World → Prop} : ∀ (l : List Oper) (k : Nat), ops.toList.drop k = l → ∀ {E : Env} {tm : Fr} {a : Act} {m : Mem} {w : World} {outs : List (Fr × Mem)},
    seqOps T cx ops l tm m = some outs → MemOk F w0 E m w → FrOk E tm a → Goes F w0 E m outs (Q .normal) → wpOps P ops Q (List.range' k l.length) a w := by
  intro l
  induction l with
  | nil =>
    intro k _ E tm a m w outs ho hm ha hK
    cases ho
    exact hK _ List.mem_cons_self E a w (Later.refl _ _) hm ha
  | cons o rest ih =>
    intro k hk E tm a m w outs ho hm ha hK
    have hok : ops[k]? = some o := by
      have h1 := List.getElem?_drop (xs := ops.toList) (i := k) (j := 0)
      rw [hk] at h1
      simpa using h1.symm
    have hrest : ops.toList.drop (k + 1) = rest := by
      have := congrArg (List.drop 1) hk
      simpa [List.drop_drop, Nat.add_comm] using this
    rw [List.length_cons, List.range'_succ, wpOps_cons]
    unfold wpOp
    obtain ⟨l1, hl1, ho⟩ := bind_inv ho
    simp only [hok]
    have := stepOp_ok (Q := Q) (K := wpOps P ops Q (List.range' (k + 1) rest.length)) hcx hl1 hm ha (fun q hq E' a' w' hA hm' ha' => by
      obtain ⟨l2, e2, s2⟩ := gather_mem ho q hq
      exact ih (k + 1) hrest e2 hm' ha' (hK.later hA s2))
    by_cases hw : Region.wanted o (yielded ops a.tmps) = true
    · rw [if_pos hw] at this ⊢; exact .inl this
    · rw [if_neg hw] at this ⊢; exact this
end Go.Sx
