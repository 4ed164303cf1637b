/- The executor over loops: by a pattern of the state at a round's head. -/
import Derived.Test.YtgjbhgdmgncoaaaSxM
namespace Go.Sx
open Go

/- finding what a pattern's names stand for; that it fits is looked at behind -/
def Sub.setI (σ : Sub) (k : Nat) (e : IE) : Sub := if (look k σ.i).isSome then σ else { σ with i := (k, e) :: σ.i }
def Sub.setB (σ : Sub) (k : Nat) (e : BE) : Sub := if (look k σ.b).isSome then σ else { σ with b := (k, e) :: σ.b }
def Sub.setL (σ : Sub) (k : Nat) (e : Nat × Nat × SV) : Sub := if (look k σ.l).isSome then σ else { σ with l := (k, e) :: σ.l }
def Sub.setBase (σ : Sub) (k : Nat) (e : Nat × Nat) : Sub := if (look k σ.base).isSome then σ else { σ with base := (k, e) :: σ.base }
def Sub.setV (σ : Sub) (k : Nat) (e : SV) : Sub := if (look k σ.v).isSome then σ else { σ with v := (k, e) :: σ.v }
def matchI (n : Nat) (p e : IE) (σ : Sub) : Sub :=
  match p with
  | .var i => if n ≤ i then σ.setI i e else σ
  | _ => σ
def matchB (n : Nat) (p e : BE) (σ : Sub) : Sub :=
  match p with
  | .var i => if n ≤ i then σ.setB i e else σ
  | _ => σ
def matchS (n : Nat) : SV → SV → Sub → Sub
  | .opq j, v, σ => if n ≤ j then σ.setV j v else σ
  | .int _ p, .int _ e, σ => matchI n p e σ
  | .bool p, .bool e, σ => matchB n p e σ
  | .ptr s k p, .ptr s' k' e, σ => matchI n p e (if n ≤ s then σ.setBase s (s', k' - k) else σ)
  | .sli s k p pl pc, .sli s' k' e el ec, σ => matchI n pc ec (matchI n pl el (matchI n p e (if n ≤ s then σ.setBase s (s', k' - k) else σ)))
  | .fn _ p, .fn _ v, σ => matchS n p v σ
  | .ifc _ p, .ifc _ v, σ => matchS n p v σ
  | .agg p, .agg v, σ => matchS n p v σ
  | .tup p, .tup v, σ => matchS n p v σ
  | .cons p q, .cons v u, σ => matchS n q u (matchS n p v σ)
  | .arr _ r pn .nil, .arr _ r' e ws, σ => matchI n pn e (match e with
    | .lit z => if n ≤ r then σ.setL r (r', z.toNat, ws) else σ
    | _ => σ)
  | _, _, σ => σ
def matchF (n : Nat) : Fr → Fr → Sub → Sub
  | p :: ps, v :: vs, σ => matchF n ps vs (matchS n p v σ)
  | _, _, σ => σ
noncomputable def matchH (n : Nat) (m : Mem) : List Ent → Sub → Sub
  | [], σ => σ
  | p :: r, σ => matchH n m r (match m.find (blockOf σ p.s p.k).1 (blockOf σ p.s p.k).2 with
    | some e => matchS n p.c e.c (matchI n p.base e.base σ)
    | none => σ)
noncomputable def matchAll (n : Nat) (tmH : Fr) (mH : Mem) (tm : Fr) (m : Mem) : Sub :=
  matchH n m mH.heap (matchH n m mH.heap (matchF n tmH tm { i := [], b := [], l := [], base := if n ≤ mH.seg then [(mH.seg, m.seg, m.next - mH.next)] else [], v := [] }))

noncomputable def decr (kn : Know) (σ : Sub) (μ : IE) : Bool :=
  match instI σ μ with
  | some μ' => nonneg kn (norm μ') && isLt kn (norm μ') μ
  | none => false
noncomputable def loopOuts (n id : Nat) (μ : IE) (tmH : Fr) (mH : Mem) : List ((SX × Fr) × Mem) → Option (List ((SX × Fr) × Mem))
  | [] => some []
  | q :: rest => match loopOuts n id μ tmH mH rest with
    | none => none
    | some r => match q.1.1 with
      | .normal =>
        if reroot n (matchAll n tmH mH q.1.2 q.2) tmH mH q.1.2 q.2 && decr q.2.know (matchAll n tmH mH q.1.2 q.2) μ then some r else none
      | .exit i => some (((if i = id then .normal else .exit i), q.1.2), q.2) |>.map (· :: r)
      | .ret => some (((.ret, q.1.2), q.2) :: r)
noncomputable def loopX {P : Program} (T : Tab P) (cx : CX) (bx : BX) (fuel id : Nat) (body : Code) (n : Nat) (μ : IE) (tmH : Fr) (mH : Mem) : Fr → X (SX × Fr) := fun tm m =>
  if Nat.beq m.nv n && Nat.ble (n + 1) mH.nv && μ.nm mH.nv && reroot n (matchAll n tmH mH tm m) tmH mH tm m then
    match runC T cx bx fuel body tmH mH with
    | none => none
    | some outs => loopOuts n id μ tmH mH outs
  else none

theorem loopOuts_ok {n id : Nat} {μ : IE} {tmH : Fr} {mH : Mem} : ∀ {outs exits : List ((SX × Fr) × Mem)}, loopOuts n id μ tmH mH outs = some exits → ∀ q ∈ outs,
    match q.1.1 with
    | .normal => ∃ σ, reroot n σ tmH mH q.1.2 q.2 = true ∧ decr q.2.know σ μ = true
    | .exit i => (((if i = id then .normal else .exit i), q.1.2), q.2) ∈ exits
    | .ret => ((.ret, q.1.2), q.2) ∈ exits := by
  intro outs
  induction outs with
  | nil => intro exits _ q hq; cases hq
  | cons a rest ih =>
    intro exits h q hq
    unfold loopOuts at h
    split at h
    · cases h
    · rename_i r hr
      have sub : (∀ x, x ∈ r → x ∈ exits) ∧ (q = a → match q.1.1 with
          | .normal => ∃ σ, reroot n σ tmH mH q.1.2 q.2 = true ∧ decr q.2.know σ μ = true
          | .exit i => (((if i = id then .normal else .exit i), q.1.2), q.2) ∈ exits
          | .ret => ((.ret, q.1.2), q.2) ∈ exits) := by
        split at h
        · rename_i hx
          split at h
          · rename_i hc
            cases h
            refine ⟨fun x hx => hx, fun e => ?_⟩
            subst e
            rw [hx]
            simp only [Bool.and_eq_true] at hc
            exact ⟨_, hc.1, hc.2⟩
          · cases h
        · rename_i i hx
          cases h
          refine ⟨fun x hx => List.mem_cons_of_mem _ hx, fun e => ?_⟩
          subst e
          rw [hx]
          exact List.mem_cons_self
        · rename_i hx
          cases h
          refine ⟨fun x hx => List.mem_cons_of_mem _ hx, fun e => ?_⟩
          subst e
          rw [hx]
          exact List.mem_cons_self
      rcases List.mem_cons.1 hq with rfl | hq
      · exact sub.2 rfl
      · have := ih hr q hq
        split at this
        · exact this
        · exact sub.1 _ this
        · exact sub.1 _ this

theorem loopX_ok {P : Program} {T : Tab P} {cx : CX} (hcx : CallsOk P cx) {bx : BX} (fuel id : Nat) (body : Code) (hb : BlocksOk P bx body) (n : Nat) (μ : IE) (tmH : Fr) (mH : Mem) :
    CodeOk P (.block id (.loop body)) (loopX T cx bx fuel id body n μ tmH mH) := by
  intro F w0 E0 tm a m w exits ho hm ha
  unfold loopX at ho
  split at ho
  case isFalse => cases ho
  rename_i hc
  simp only [Bool.and_eq_true] at hc
  obtain ⟨⟨⟨hn, hlt⟩, hμ⟩, hre⟩ := hc
  have hn := Nat.eq_of_beq_eq_true hn
  have hlt := Nat.le_of_ble_eq_true hlt
  split at ho
  · cases ho
  rename_i outs hrun
  have hall := loopOuts_ok ho
  obtain ⟨hA0, hm0, ha0⟩ := reroot_ok hre hm ha
  -- the state at a round's head
  have key : ∀ (k : Nat) (E : Env) (a : Act) (w : World), Later m.nv mH.nv E0 E → MemOk F w0 E mH w → FrOk E tmH a → (ev E μ).toNat < k →
      Code.rounds P body (Exit.inBlock id (Post F w0 E0 m exits)) k a w := by
    intro k
    induction k with
    | zero => intro E a w _ _ _ h; omega
    | succ k ih =>
      intro E a w hL hm ha hk
      rw [rounds_succ]
      refine wp_mono ((runC_ok hcx fuel).1 body hb F w0 E tmH a mH w outs hrun hm ha) ?_
      rintro e a' w' ⟨q, hq, E', hA, he, hf, hm'⟩
      have hq' := hall q hq
      cases hx : q.1.1 with
      | normal =>
        rw [hx] at he hq'
        subst he
        obtain ⟨σ, hσ, hd⟩ := hq'
        unfold decr at hd
        cases hμ' : instI σ μ with
        | none => rw [hμ'] at hd; cases hd
        | some μ' =>
        rw [hμ'] at hd
        simp only [Bool.and_eq_true] at hd
        obtain ⟨hnn, hlt'⟩ := hd
        obtain ⟨hA2, hm2, ha2⟩ := reroot_ok hσ hm' hf
        have e1 : ev (E'.by σ) μ = ev E' μ' := instI_ev hμ'
        have e2 := isLt_ok hm'.know hlt'
        have e3 := nonneg_ok hm'.know hnn
        rw [norm_ok] at e2 e3
        have e4 : ev E' μ = ev E μ := ev_agree hA.agree hμ
        show Code.rounds P body (Exit.inBlock id (Post F w0 E0 m exits)) k a' w'
        refine ih (E'.by σ) a' w' ⟨?_, hL.le, fun e => ?_⟩ hm2 ha2 ?_
        · have h1 : Agree m.nv E0 E' := hL.agree.trans hA.agree hL.le
          exact h1.trans (hn ▸ hA2) (Nat.le_refl _)
        · omega
        · rw [e1]; omega
      | exit i =>
        rw [hx] at he hq'
        dsimp only at hq'
        subst he
        show if i = id then _ else _
        by_cases hi : i = id
        · rw [if_pos hi] at hq' ⊢
          exact ⟨_, hq', E', hL.trans hA, rfl, hf, hm'⟩
        · rw [if_neg hi] at hq' ⊢
          exact ⟨_, hq', E', hL.trans hA, rfl, hf, hm'⟩
      | ret =>
        rw [hx] at he hq'
        subst he
        exact ⟨_, hq', E', hL.trans hA, rfl, hf, hm'⟩
  refine wp_block (wp_loop_rounds ((ev (E0.by (matchAll n tmH mH tm m)) μ).toNat + 1) ?_)
  exact key _ _ a w ⟨hn ▸ hA0, by omega, fun e => by omega⟩ hm0 ha0 (by omega)

/-- the body of the loop in a block -/
def loopBody (id : Nat) (c : Code) : Code :=
  match blocksOf id c with
  | .block _ (.loop b) :: _ => b
  | _ => .skip
end Go.Sx
