/- The executor over regions. -/
import Derived.Test.YtgjbhgdmgncoaaaSxI
import Derived.Orders
namespace Go.Sx
open Go

/- environments that agree on what has been named so far -/
structure Agree (n : Nat) (E E' : Env) : Prop where
  i : ∀ k, k < n → E'.i k = E.i k
  b : ∀ k, k < n → E'.b k = E.b k
  l : ∀ k, k < n → E'.l k = E.l k
  base : ∀ k, k < n → E'.base k = E.base k
  o : ∀ k, k < n → E'.o k = E.o k
  v : ∀ k, k < n → E'.v k = E.v k
  f : E'.f = E.f
/-- one environment behind another -/
structure Later (n n' : Nat) (E E' : Env) : Prop where
  agree : Agree n E E'
  le : n ≤ n'
  same : n' = n → E' = E
theorem Agree.refl (n : Nat) (E : Env) : Agree n E E := ⟨fun _ _ => rfl, fun _ _ => rfl, fun _ _ => rfl, fun _ _ => rfl, fun _ _ => rfl, fun _ _ => rfl, rfl⟩
theorem Agree.trans {n n' : Nat} {A B C : Env} (h : Agree n A B) (h' : Agree n' B C) (hn : n ≤ n') : Agree n A C :=
  ⟨fun k hk => (h'.i k (by omega)).trans (h.i k hk), fun k hk => (h'.b k (by omega)).trans (h.b k hk), fun k hk => (h'.l k (by omega)).trans (h.l k hk),
   fun k hk => (h'.base k (by omega)).trans (h.base k hk), fun k hk => (h'.o k (by omega)).trans (h.o k hk), fun k hk => (h'.v k (by omega)).trans (h.v k hk), h'.f.trans h.f⟩

theorem Later.refl (n : Nat) (E : Env) : Later n n E E := ⟨Agree.refl _ _, Nat.le_refl _, fun _ => rfl⟩
theorem Later.of {n n' : Nat} (h : n' = n) (E : Env) : Later n n' E E := ⟨Agree.refl _ _, by omega, fun _ => rfl⟩
theorem Later.trans {n n' n'' : Nat} {A B C : Env} (h : Later n n' A B) (h' : Later n' n'' B C) : Later n n'' A C :=
  ⟨h.agree.trans h'.agree h.le, Nat.le_trans h.le h'.le, fun e => by
    have h1 := h.le
    have h2 := h'.le
    rw [h'.same (by omega), h.same (by omega)]⟩

def IE.nm (n : Nat) : IE → Bool
  | .lit _ => true
  | .var i => decide (i < n)
  | .sel r i => (decide (r = 0) || decide (r < n)) && i.nm n
  | .add a b | .sub a b | .mul a b | .quo a b | .rem a b | .bit _ _ a b | .arg a b => a.nm n && b.nm n
  | .wrap _ a | .shr a _ | .app _ a => a.nm n
  | .noarg => true
def BE.nm (n : Nat) : BE → Bool
  | .lit _ => true
  | .var i => decide (i < n)
  | .lt a b | .eq a b => a.nm n && b.nm n
  | .not a => a.nm n
def SV.nm (n : Nat) : SV → Bool
  | .opq j => decide (j < n)
  | .int _ e => e.nm n
  | .bool b => b.nm n
  | .ptr s _ off => decide (s < n) && off.nm n
  | .sli s _ off len cap => decide (s < n) && off.nm n && len.nm n && cap.nm n
  | .fn _ c | .ifc _ c | .agg c | .tup c => c.nm n
  | .cons a b => a.nm n && b.nm n
  | .arr _ r e ws => (decide (r = 0) || decide (r < n)) && e.nm n && ws.nm n
  | .wr i x ws => i.nm n && x.nm n && ws.nm n
  | _ => true
section
theorem row_agree {n : Nat} {E E' : Env} (h : Agree n E E') {r : Nat} (hr : (decide (r = 0) || decide (r < n)) = true) : E'.row r = E.row r := by
  simp only [Bool.or_eq_true, decide_eq_true_eq] at hr
  unfold Env.row
  split
  · rfl
  · exact h.l r (by omega)
theorem evp_agree {n : Nat} {E E' : Env} (h : Agree n E E') : ∀ e : IE, e.nm n = true → evp E' e = evp E e := by
  intro e
  induction e with
  | var i => intro hb; simp only [IE.nm, decide_eq_true_eq] at hb; simp only [evp, h.i i hb]
  | sel r i ih => intro hb; simp only [IE.nm, Bool.and_eq_true] at hb; simp only [evp, ih hb.2, row_agree h hb.1]
  | app f a ih => intro hb; simp only [evp, ih hb, h.f]
  | lit _ => intro _; rfl
  | noarg => intro _; rfl
  | wrap k a ih => intro hb; simp only [evp, ih hb]
  | shr a n ih => intro hb; simp only [evp, ih hb]
  | _ => rename_i a b iha ihb; intro hb; simp only [IE.nm, Bool.and_eq_true] at hb; simp only [evp, iha hb.1, ihb hb.2]
theorem ev_agree {n : Nat} {E E' : Env} (h : Agree n E E') {e : IE} (hb : e.nm n = true) : ev E' e = ev E e := by unfold ev; rw [evp_agree h e hb]
theorem evB_agree {n : Nat} {E E' : Env} (h : Agree n E E') : ∀ c : BE, c.nm n = true → evB E' c = evB E c := by
  intro c
  induction c with
  | lit _ => intro _; rfl
  | var i => intro hb; simp only [BE.nm, decide_eq_true_eq] at hb; simp only [evB, h.b i hb]
  | lt a b => intro hb; simp only [BE.nm, Bool.and_eq_true] at hb; simp only [evB, ev_agree h hb.1, ev_agree h hb.2]
  | eq a b => intro hb; simp only [BE.nm, Bool.and_eq_true] at hb; simp only [evB, ev_agree h hb.1, ev_agree h hb.2]
  | not a ih => intro hb; simp only [evB, ih hb]
theorem wsVal_agree {n : Nat} {E E' : Env} (h : Agree n E E') {r : Nat} (hr : E'.row r = E.row r) : ∀ ws : SV, ws.nm n = true → ∀ j, wsVal E' r ws j = wsVal E r ws j := by
  intro ws
  induction ws with
  | wr i x ws ih =>
    intro hb j
    simp only [SV.nm, Bool.and_eq_true] at hb
    simp only [wsVal, ev_agree h hb.1.1, ev_agree h hb.1.2, ih hb.2]
  | _ => intro _ j; simp only [wsVal, hr]
theorem dl_agree {n : Nat} {E E' : Env} (h : Agree n E E') : ∀ v : SV, v.nm n = true → dl E' v = dl E v := by
  intro v
  induction v with
  | opq j => intro hb; simp only [SV.nm, decide_eq_true_eq] at hb; simp only [dl, h.v j hb]
  | int k e => intro hb; simp only [dl, ev_agree h hb]
  | bool b => intro hb; simp only [dl, evB_agree h b hb]
  | ptr s k off => intro hb; simp only [SV.nm, Bool.and_eq_true, decide_eq_true_eq] at hb; simp only [dl, addrOf, ev_agree h hb.2, h.base s hb.1, h.o s hb.1]
  | sli s k off len cap =>
    intro hb
    simp only [SV.nm, Bool.and_eq_true, decide_eq_true_eq] at hb
    obtain ⟨⟨⟨h1, h2⟩, h3⟩, h4⟩ := hb
    simp only [dl, addrOf, ev_agree h h2, ev_agree h h3, ev_agree h h4, h.base s h1, h.o s h1]
  | fn f c ih => intro hb; simp only [dl, ih hb]
  | ifc t c ih => intro hb; simp only [dl, ih hb]
  | agg c ih => intro hb; simp only [dl, ih hb]
  | tup c ih => intro hb; simp only [dl, ih hb]
  | cons a b iha ihb => intro hb; simp only [SV.nm, Bool.and_eq_true] at hb; simp only [dl, iha hb.1, ihb hb.2]
  | arr k r e ws =>
    intro hb
    simp only [SV.nm, Bool.and_eq_true] at hb
    have hr := row_agree h hb.1.1
    simp only [dl, arrCells, ev_agree h hb.1.2, wsVal_agree h hr ws hb.2]
  | _ => intro _; rfl
theorem dv_agree {n : Nat} {E E' : Env} (h : Agree n E E') {v : SV} (hb : v.nm n = true) : dv E' v = dv E v := by unfold dv; rw [dl_agree h v hb]
end

/- frames -/
abbrev Fr := List SV
structure FrOk (E : Env) (tm : Fr) (a : Act) : Prop where
  tmps : a.tmps = (tm.map (dv E)).toArray
  defers : a.defers = []
def putS (tm : Fr) (dst : Option Nat) (v : SV) : Fr :=
  match dst with
  | some d => tm.set d v
  | none => tm
theorem FrOk.put {E : Env} {tm : Fr} {a : Act} (h : FrOk E tm a) (dst : Option Nat) (v : SV) : FrOk E (putS tm dst v) (a.put dst (dv E v)) := by
  cases dst with
  | none => exact h
  | some d =>
    refine ⟨?_, h.defers⟩
    simp only [Act.put, putS, h.tmps, List.map_set, List.setIfInBounds_toArray]
theorem FrOk.agree {n : Nat} {E E' : Env} {tm : Fr} {a : Act} (h : FrOk E tm a) (hb : tm.all (SV.nm n) = true) (hA : Agree n E E') : FrOk E' tm a := by
  refine ⟨?_, h.defers⟩
  rw [h.tmps]
  congr 1
  refine List.map_congr_left fun v hv => ?_
  exact (dv_agree hA (List.all_eq_true.1 hb v hv)).symm

/- which operations are wanted -/
noncomputable def wantedX (ops : Array Oper) (tm : Fr) (o : Oper) : X Bool :=
  match o.guard with
  | none => X.pure true
  | some (j, want) => match (ops[j]?).bind (·.dst) with
    | none => X.pure false
    | some d => match tm[d]? with
      | none => X.pure false
      | some (.bool b) => X.bind (branch b) fun r => X.pure (r == want)
      | some v => if v.isV then X.pure false else X.none
theorem wantedX_ok {F : Nat → Prop} {w0 : World} {E : Env} (ops : Array Oper) {tm : Fr} {a : Act} (ha : FrOk E tm a) (o : Oper) (m : Mem) (w : World) :
    GX F w0 E (wantedX ops tm o) m w fun r w' => w' = w ∧ Region.wanted o (yielded ops a.tmps) = r := by
  unfold wantedX
  split
  · rename_i hg
    exact GX.pure fun _ => ⟨rfl, by simp [Region.wanted, hg]⟩
  · rename_i j want hg
    split
    · rename_i hd
      exact GX.pure fun _ => ⟨rfl, by simp [Region.wanted, hg, yielded, hd]⟩
    · rename_i d hd
      have hy : ∀ x : Option SV, tm[d]? = x → yielded ops a.tmps j = match x.map (dv E) with | some (.bool b) => some b | _ => none := by
        intro x hx
        simp only [yielded, hd, ha.tmps, Option.bind_some, List.getElem?_toArray, List.getElem?_map, hx]
        rfl
      split
      · rename_i hx
        exact GX.pure fun _ => ⟨rfl, by simp [Region.wanted, hg, hy _ hx]⟩
      · rename_i b hx
        refine GX.bind (branch_ok b m w) ?_
        rintro r m1 w1 ⟨rfl, hr⟩
        refine GX.pure fun _ => ⟨rfl, ?_⟩
        have e : dv E (.bool b) = .bool (evB E b) := rfl
        simp only [Region.wanted, hg, hy _ hx, Option.map_some, e, ← hr]
        cases r <;> cases want <;> rfl
      · rename_i v hnb hx
        split
        · rename_i hv
          refine GX.pure fun _ => ⟨rfl, ?_⟩
          simp only [Region.wanted, hg, hy _ hx, Option.map_some]
          cases v <;> first | rfl | (exact (hnb _ rfl).elim) | (simp [SV.isV] at hv)
        · exact GX.none

/-- contracts of calls -/
def CX := Nat → List SV → X SV
def CallsOk (P : Program) (cx : CX) : Prop :=
  ∀ (F : Nat → Prop) (w0 : World) (E : Env) (f : Nat) (args : List SV) (m : Mem) (outs : List (SV × Mem)) (w : World), cx f args m = some outs → MemOk F w0 E m w →
    Calls P f (args.map (dv E)).toArray w fun e w' => ∃ p ∈ outs, ∃ E', Later m.nv p.2.nv E E' ∧ e = .returned (dv E' p.1) ∧ MemOk F w0 E' p.2 w'

noncomputable def putX' (tm : Fr) (dst : Option Nat) (v : SV) : X Fr := fun m => nfS v fun v => nfSp (putS tm dst v) fun tm' => some [(tm', m)]
theorem putX'_eq (tm : Fr) (dst : Option Nat) (v : SV) : putX' tm dst v = X.pure (putS tm dst v) := by
  funext m
  unfold putX'
  rw [nfS_eq, nfSp_eq]
  rfl
noncomputable def stepOp {P : Program} (T : Tab P) (cx : CX) (ops : Array Oper) (tm : Fr) (o : Oper) : X Fr :=
  X.bind (wantedX ops tm o) fun wnt =>
    if wnt then X.bind (opS T tm o) fun nx =>
      match nx with
      | .val v => putX' tm o.dst v
      | .skip => putX' tm o.dst .undef
      | .enter f args => fun m => X.bind (cx f args) (fun v m' => if Nat.beq m'.nv m.nv || tm.all (SV.nm m.nv) then putX' tm o.dst v m' else none) m
    else putX' tm o.dst .undef

/-- what holds of every way out -/
def Goes (F : Nat → Prop) (w0 : World) (E : Env) (m : Mem) (outs : List (Fr × Mem)) (K : Act → World → Prop) : Prop :=
  ∀ q ∈ outs, ∀ (E' : Env) (a' : Act) (w' : World), Later m.nv q.2.nv E E' → MemOk F w0 E' q.2 w' → FrOk E' q.1 a' → K a' w'
theorem Goes.later {F : Nat → Prop} {w0 : World} {E E' : Env} {m m' : Mem} {outs outs' : List (Fr × Mem)} {K : Act → World → Prop} (h : Goes F w0 E m outs K) (hA : Later m.nv m'.nv E E')
    (hs : ∀ q ∈ outs', q ∈ outs) : Goes F w0 E' m' outs' K :=
  fun q hq E'' a'' w'' hA' hm' hf' => h q (hs q hq) E'' a'' w'' (hA.trans hA') hm' hf'

theorem stepOp_ok {F : Nat → Prop} {w0 : World} {E : Env} {P : Program} {T : Tab P} {cx : CX} (hcx : CallsOk P cx) {ops : Array Oper} {tm : Fr} {o : Oper} {a : Act} {m : Mem} {w : World} {outs : List (Fr × Mem)}
    (ho : stepOp T cx ops tm o m = some outs) (hm : MemOk F w0 E m w) (ha : FrOk E tm a) {K : Act → World → Prop} {Q : Exit → Act → World → Prop} (hK : Goes F w0 E m outs K) :
    if Region.wanted o (yielded ops a.tmps) = true then Oper.wp P o a w K Q else K (a.put o.dst undef) w := by
  have hun : dv E .undef = undef := rfl
  unfold stepOp X.bind at ho
  simp only [putX'_eq] at ho
  split at ho
  · cases ho
  rename_i l hl
  obtain ⟨p, hp, w1, hm1, hn1, rfl, hw⟩ := wantedX_ok ops ha o m w l hl hm
  obtain ⟨l1, e1, s1⟩ := gather_mem ho p hp
  rw [hw]
  split at e1
  · rename_i hp1
    rw [if_pos hp1]
    dsimp only at e1
    split at e1
    · cases e1
    rename_i l2 hl2
    obtain ⟨p2, hp2, w2, hm2, hn2, hrun⟩ := opS_ok T ha.tmps o p.2 w1 l2 hl2 hm1
    obtain ⟨l3, e3, s3⟩ := gather_mem e1 p2 hp2
    unfold Oper.wp
    rw [hrun]
    cases hv : p2.1 with
    | val v =>
      simp only [hv] at e3
      cases e3
      show K _ _
      exact hK _ (s1 _ (s3 _ List.mem_cons_self)) E _ w2 (Later.of (by rw [hn2, hn1]) E) hm2 (ha.put o.dst v)
    | skip =>
      simp only [hv] at e3
      cases e3
      show K _ _
      exact hK _ (s1 _ (s3 _ List.mem_cons_self)) E _ w2 (Later.of (by rw [hn2, hn1]) E) hm2 (hun ▸ ha.put o.dst .undef)
    | enter f args =>
      simp only [hv] at e3
      show Calls P f (args.map (dv E)).toArray w2 _
      split at e3
      · cases e3
      rename_i l4 hl4
      refine (hcx F w0 E f args p2.2 l4 w2 hl4 hm2).mono ?_
      rintro e w3 ⟨q, hq, E', hA, rfl, hm3⟩
      obtain ⟨l5, e5, s5⟩ := gather_mem e3 q hq
      split at e5
      · rename_i hb
        cases e5
        show K _ _
        have hnv : m.nv = p2.2.nv := by rw [hn2, hn1]
        have haa : FrOk E' tm a := by
          rw [Bool.or_eq_true] at hb
          rcases hb with hb | hb
          · rw [hA.same (Nat.eq_of_beq_eq_true hb)]; exact ha
          · exact ha.agree hb hA.agree
        exact hK _ (s1 _ (s3 _ (s5 _ List.mem_cons_self))) E' _ w3 (by rw [hnv]; exact hA) hm3 (haa.put o.dst q.1)
      · cases e5
  · rename_i hp1
    cases e1
    rw [if_neg hp1]
    exact hK _ (s1 _ List.mem_cons_self) E _ w1 (Later.of hn1 E) hm1 (hun ▸ ha.put o.dst .undef)

/- in the order of the text -/
noncomputable def seqOps {P : Program} (T : Tab P) (cx : CX) (ops : Array Oper) : List Oper → Fr → X Fr
  | [], tm => X.pure tm
  | o :: rest, tm => X.bind (stepOp T cx ops tm o) fun tm' => seqOps T cx ops rest tm'
theorem seqOps_ok {F : Nat → Prop} {w0 : World} {P : Program} {T : Tab P} {cx : CX} (hcx : CallsOk P cx) {ops : Array Oper} {Q : Exit → Act → World → Prop} : ∀ (l : List Oper) (k : Nat), ops.toList.drop k = l → ∀ {E : Env} {tm : Fr} {a : Act} {m : Mem} {w : World} {outs : List (Fr × Mem)},
    seqOps T cx ops l tm m = some outs → MemOk F w0 E m w → FrOk E tm a → Goes F w0 E m outs (Q .normal) → wpOps P ops Q (List.range' k l.length) a w := by
  intro l
  induction l with
  | nil =>
    intro k _ E tm a m w outs ho hm ha hK
    cases ho
    exact hK _ List.mem_cons_self E a w (Later.refl _ _) hm ha
  | cons o rest ih =>
    intro k hk E tm a m w outs ho hm ha hK
    have hok : ops[k]? = some o := by
      have h1 := List.getElem?_drop (xs := ops.toList) (i := k) (j := 0)
      rw [hk] at h1
      simpa using h1.symm
    have hrest : ops.toList.drop (k + 1) = rest := by
      have := congrArg (List.drop 1) hk
      simpa [List.drop_drop, Nat.add_comm] using this
    rw [List.length_cons, List.range'_succ, wpOps_cons]
    unfold wpOp
    unfold seqOps X.bind at ho
    split at ho
    · cases ho
    rename_i l1 hl1
    simp only [hok]
    have := stepOp_ok (Q := Q) (K := wpOps P ops Q (List.range' (k + 1) rest.length)) hcx hl1 hm ha (fun q hq E' a' w' hA hm' ha' => by
      obtain ⟨l2, e2, s2⟩ := gather_mem ho q hq
      exact ih (k + 1) hrest e2 hm' ha' (hK.later hA s2))
    by_cases hw : Region.wanted o (yielded ops a.tmps) = true
    · rw [if_pos hw] at this ⊢; exact .inl this
    · rw [if_neg hw] at this ⊢; exact this
end Go.Sx
