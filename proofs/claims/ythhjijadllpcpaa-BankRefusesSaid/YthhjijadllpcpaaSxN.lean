/- The executor over loops: by a pattern of the state at a round's head. -/
import Derived.Test.YthhjijadllpcpaaSxL
namespace Go.Sx
open Go

noncomputable def decr (kn : Know) (σ : Sub) (μ : IE) : Bool :=
  match instI σ μ with
  | some μ' => nonneg kn (norm μ') && isLt kn (norm μ') μ
  | none => false
noncomputable def loopOuts (n id : Nat) (μ : IE) (tmH : List SV) (mH : Mem) : List ((SX × Fr) × Mem) → Option (List ((SX × Fr) × Mem))
  | [] => some []
  | q :: rest => match loopOuts n id μ tmH mH rest with
    | none => none
    | some r => match q.1.1 with
      | .normal =>
        if rerootF n (matchAll n tmH mH q.1.2.toL q.2) tmH mH q.1.2.toL q.2 && decr q.2.know (matchAll n tmH mH q.1.2.toL q.2) μ then some r else none
      | .exit i => some (((if i = id then .normal else .exit i), q.1.2), q.2) |>.map (· :: r)
      | .ret => some (((.ret, q.1.2), q.2) :: r)
noncomputable def loopX {P : Program} (T : Tab P) (cx : CX) (bx : BX) (jm : Option Nat) (fuel id : Nat) (body : Code) (n : Nat) (μ : IE) (tmH : List SV) (mH : Mem) : Fr → X (SX × Fr) := fun tm m =>
  if Nat.beq m.nv n && Nat.ble (n + 1) mH.nv && μ.nm mH.nv && rerootF n (matchAll n tmH mH tm.toL m) tmH mH tm.toL m then
    match runC T cx bx jm fuel body (Fr.ofL tmH) mH with
    | none => none
    | some outs => loopOuts n id μ tmH mH outs
  else none

theorem loopOuts_ok {n id : Nat} {μ : IE} {tmH : List SV} {mH : Mem} : ∀ {outs exits : List ((SX × Fr) × Mem)}, loopOuts n id μ tmH mH outs = some exits → ∀ q ∈ outs,
    match q.1.1 with
    | .normal => ∃ σ, rerootF n σ tmH mH q.1.2.toL q.2 = true ∧ decr q.2.know σ μ = true
    | .exit i => (((if i = id then .normal else .exit i), q.1.2), q.2) ∈ exits
    | .ret => ((.ret, q.1.2), q.2) ∈ exits := by
  intro outs
  induction outs with
  | nil => intro exits _ q hq; cases hq
  | cons a rest ih =>
    intro exits h q hq
    unfold loopOuts at h
    split at h
    · cases h
    · rename_i r hr
      have sub : (∀ x, x ∈ r → x ∈ exits) ∧ (q = a → match q.1.1 with
          | .normal => ∃ σ, rerootF n σ tmH mH q.1.2.toL q.2 = true ∧ decr q.2.know σ μ = true
          | .exit i => (((if i = id then .normal else .exit i), q.1.2), q.2) ∈ exits
          | .ret => ((.ret, q.1.2), q.2) ∈ exits) := by
        split at h
        · rename_i hx
          split at h
          · rename_i hc
            cases h
            refine ⟨fun x hx => hx, fun e => ?_⟩
            subst e
            rw [hx]
            simp only [Bool.and_eq_true] at hc
            exact ⟨_, hc.1, hc.2⟩
          · cases h
        · rename_i i hx
          cases h
          refine ⟨fun x hx => List.mem_cons_of_mem _ hx, fun e => ?_⟩
          subst e
          rw [hx]
          exact List.mem_cons_self
        · rename_i hx
          cases h
          refine ⟨fun x hx => List.mem_cons_of_mem _ hx, fun e => ?_⟩
          subst e
          rw [hx]
          exact List.mem_cons_self
      rcases List.mem_cons.1 hq with rfl | hq
      · exact sub.2 rfl
      · have := ih hr q hq
        split at this
        · exact this
        · exact sub.1 _ this
        · exact sub.1 _ this

theorem loopX_ok {P : Program} {T : Tab P} {cx : CX} (hcx : CallsOk P cx) {bx : BX} (jm : Option Nat) (fuel id : Nat) (body : Code) (hb : BlocksOk P bx body) (n : Nat) (μ : IE) (tmH : List SV) (mH : Mem) :
    CodeOk P (.block id (.loop body)) (loopX T cx bx jm fuel id body n μ tmH mH) := by
  intro F w0 E0 tm a m w exits ho hm ha
  unfold loopX at ho
  split at ho
  case isFalse => cases ho
  rename_i hc
  simp only [Bool.and_eq_true] at hc
  obtain ⟨⟨⟨hn, hlt⟩, hμ⟩, hre⟩ := hc
  have hn := Nat.eq_of_beq_eq_true hn
  have hlt := Nat.le_of_ble_eq_true hlt
  split at ho
  · cases ho
  rename_i outs hrun
  have hall := loopOuts_ok ho
  obtain ⟨hA0, hm0, hl0⟩ := rerootF_ok hre hm
  have toFr : ∀ {E E' : Env} {tm : Fr} {a : Act}, FrOk E tm a → Slots E' E tmH tm.toL → FrOk E' (Fr.ofL tmH) a := fun h he => h.slots he
  have ha0 := toFr ha hl0
  -- the state at a round's head
  have key : ∀ (k : Nat) (E : Env) (a : Act) (w : World), Later m.nv mH.nv E0 E → MemOk F w0 E mH w → FrOk E (Fr.ofL tmH) a → (ev E μ).toNat < k →
      Code.rounds P body (Exit.inBlock id (Post F w0 E0 m exits)) k a w := by
    intro k
    induction k with
    | zero => intro E a w _ _ _ h; omega
    | succ k ih =>
      intro E a w hL hm ha hk
      rw [rounds_succ]
      refine wp_mono ((runC_ok hcx fuel).1 body hb F w0 E (Fr.ofL tmH) a mH w outs hrun hm ha) ?_
      rintro e a' w' ⟨q, hq, E', hA, he, hf, hm'⟩
      have hq' := hall q hq
      cases hx : q.1.1 with
      | normal =>
        rw [hx] at he hq'
        subst he
        obtain ⟨σ, hσ, hd⟩ := hq'
        unfold decr at hd
        cases hμ' : instI σ μ with
        | none => rw [hμ'] at hd; cases hd
        | some μ' =>
        rw [hμ'] at hd
        simp only [Bool.and_eq_true] at hd
        obtain ⟨hnn, hlt'⟩ := hd
        obtain ⟨hA2, hm2, hl2⟩ := rerootF_ok hσ hm'
        have ha2 := toFr hf hl2
        have e1 : ev (E'.by σ) μ = ev E' μ' := instI_ev hμ'
        have e2 := isLt_ok hm'.know hlt'
        have e3 := nonneg_ok hm'.know hnn
        rw [norm_ok] at e2 e3
        have e4 : ev E' μ = ev E μ := ev_agree hA.agree hμ
        show Code.rounds P body (Exit.inBlock id (Post F w0 E0 m exits)) k a' w'
        refine ih (E'.by σ) a' w' ⟨?_, hL.le, fun e => ?_⟩ hm2 ha2 ?_
        · have h1 : Agree m.nv E0 E' := hL.agree.trans hA.agree hL.le
          exact h1.trans (hn ▸ hA2) (Nat.le_refl _)
        · omega
        · rw [e1]; omega
      | exit i =>
        rw [hx] at he hq'
        dsimp only at hq'
        subst he
        show if i = id then _ else _
        by_cases hi : i = id
        · rw [if_pos hi] at hq' ⊢
          exact ⟨_, hq', E', hL.trans hA, rfl, hf, hm'⟩
        · rw [if_neg hi] at hq' ⊢
          exact ⟨_, hq', E', hL.trans hA, rfl, hf, hm'⟩
      | ret =>
        rw [hx] at he hq'
        subst he
        exact ⟨_, hq', E', hL.trans hA, rfl, hf, hm'⟩
  refine wp_block (wp_loop_rounds ((ev (E0.by (matchAll n tmH mH tm.toL m)) μ).toNat + 1) ?_)
  exact key _ _ a w ⟨hn ▸ hA0, by omega, fun e => by omega⟩ hm0 ha0 (by omega)

/-- the body of the loop in a block -/
def loopBody (id : Nat) (c : Code) : Code :=
  match blocksOf id c with
  | .block _ (.loop b) :: _ => b
  | _ => .skip
end Go.Sx
