/- Loops by several patterns of the state at a round's head; how they are left is told by patterns, too. Each head is looked at by itself. -/
import Derived.Test.YthhjijadllpcpaaSxXa
namespace Go.Sx
open Go

/-- a round's head: the slots, the memory, what shrinks -/
structure HeadP where
  tm : List SV
  mem : Mem
  mu : IE
  deriving Inhabited
/-- a way out of a loop -/
structure LeaveP where
  e : SX
  tm : List SV
  mem : Mem
  deriving Inhabited
noncomputable def fits (n : Nat) (ptm : List SV) (pm : Mem) (tm : List SV) (m : Mem) : Bool := rerootF n (matchAll n ptm pm tm m) ptm pm tm m
noncomputable def anyS {α : Type} (p : α → Bool) (l : List α) : Bool := List.rec (motive := fun _ => Bool) false (fun x _ ih => cond (p x) true ih) l
theorem anyS_ok {α : Type} {p : α → Bool} : ∀ {l : List α}, anyS p l = true → ∃ x ∈ l, p x = true := by
  intro l
  induction l with
  | nil => intro h; cases h
  | cons x r ih =>
    intro h
    have h' : cond (p x) true (anyS p r) = true := h
    cases hp : p x with
    | true => exact ⟨x, List.mem_cons_self, hp⟩
    | false =>
      rw [hp] at h'
      obtain ⟨y, hy, h2⟩ := ih h'
      exact ⟨y, List.mem_cons_of_mem _ hy, h2⟩
def leaveOf (id : Nat) : SX → SX
  | .exit i => if i = id then .normal else .exit i
  | e => e
noncomputable def nonnegI (kn : Know) (σ : Sub) (μ : IE) : Bool := match instI σ μ with
  | some μ' => nonneg kn (norm μ')
  | none => false
noncomputable def headOk {P : Program} (T : Tab P) (cx : CX) (bx : BX) (jm : Option Nat) (fuel id : Nat) (body : Code) (n : Nat) (heads : List HeadP) (leaves : List LeaveP) (h : HeadP) : Bool :=
  match runC T cx bx jm fuel body (Fr.ofL h.tm) h.mem with
  | none => false
  | some outs => outs.all fun q => match q.1.1 with
    | .normal => anyS (fun g => fits n g.tm g.mem q.1.2.toL q.2 && nonnegI q.2.know (matchAll n g.tm g.mem q.1.2.toL q.2) g.mu && (match instI (matchAll n g.tm g.mem q.1.2.toL q.2) g.mu with
        | some μ' => isLt q.2.know (norm μ') h.mu
        | none => false)) heads
    | e => anyS (fun x => (x.e == leaveOf id e) && fits n x.tm x.mem q.1.2.toL q.2) leaves
noncomputable def loopP (n : Nat) (heads : List HeadP) (leaves : List LeaveP) : Fr → X (SX × Fr) := fun tm m =>
  if Nat.beq m.nv n && heads.all (fun h => Nat.ble (n + 1) h.mem.nv && h.mu.nm h.mem.nv) && leaves.all (fun x => Nat.ble (n + 1) x.mem.nv) && anyS (fun h => fits n h.tm h.mem tm.toL m) heads then
    some (leaves.map fun x => ((x.e, Fr.ofL x.tm), x.mem))
  else none

theorem loopP_ok {P : Program} {T : Tab P} {cx : CX} (hcx : CallsOk P cx) {bx : BX} {jm : Option Nat} {fuel id : Nat} {body : Code} (hb : BlocksOk P bx body) {n : Nat} {heads : List HeadP} {leaves : List LeaveP}
    (hall : ∀ h ∈ heads, headOk T cx bx jm fuel id body n heads leaves h = true) : CodeOk P (.block id (.loop body)) (loopP n heads leaves) := by
  intro F w0 E0 tm a m w exits ho hm ha
  unfold loopP at ho
  split at ho
  case isFalse => cases ho
  rename_i hc
  simp only [Bool.and_eq_true, List.all_eq_true] at hc
  obtain ⟨⟨⟨hn, hh⟩, hl⟩, hany⟩ := hc
  have hn := Nat.eq_of_beq_eq_true hn
  cases ho
  obtain ⟨h0, hh0, hf0⟩ := anyS_ok hany
  obtain ⟨hA0, hm0, hl0⟩ := rerootF_ok hf0 hm
  have toFr : ∀ {E E' : Env} {tm : Fr} {tmH : List SV} {a : Act}, FrOk E tm a → Slots E' E tmH tm.toL → FrOk E' (Fr.ofL tmH) a := fun h he => h.slots he
  have ha0 := toFr ha hl0
  have nvh : ∀ h ∈ heads, n + 1 ≤ h.mem.nv ∧ h.mu.nm h.mem.nv = true := fun h hm => ⟨Nat.le_of_ble_eq_true (hh h hm).1, (hh h hm).2⟩
  have nvl : ∀ x ∈ leaves, n + 1 ≤ x.mem.nv := fun x hx => Nat.le_of_ble_eq_true (hl x hx)
  have key : ∀ (k : Nat) (h : HeadP), h ∈ heads → ∀ (E : Env) (a : Act) (w : World), Agree n E0 E → MemOk F w0 E h.mem w → FrOk E (Fr.ofL h.tm) a → (ev E h.mu).toNat < k →
      Code.rounds P body (Exit.inBlock id (Post F w0 E0 m (leaves.map fun x => ((x.e, Fr.ofL x.tm), x.mem)))) k a w := by
    intro k
    induction k with
    | zero => intro h _ E a w _ _ _ hlt; omega
    | succ k ih =>
      intro h hmem E a w hL hm ha hk
      have hok := hall h hmem
      unfold headOk at hok
      split at hok
      · cases hok
      rename_i outs hrun
      rw [List.all_eq_true] at hok
      rw [rounds_succ]
      refine wp_mono ((runC_ok hcx fuel).1 body hb F w0 E (Fr.ofL h.tm) a h.mem w outs hrun hm ha) ?_
      rintro e a' w' ⟨q, hq, E', hA, he, hf, hm'⟩
      have hq' := hok q hq
      have leave : ∀ e0 : SX, q.1.1 = e0 → anyS (fun x => (x.e == leaveOf id e0) && fits n x.tm x.mem q.1.2.toL q.2) leaves = true →
          ∃ y ∈ leaves.map (fun x => ((x.e, Fr.ofL x.tm), x.mem)), ∃ E'', Later m.nv y.2.nv E0 E'' ∧ leaveOf id e0 = y.1.1 ∧ FrOk E'' y.1.2 a' ∧ MemOk F w0 E'' y.2 w' := by
        intro e0 _ hany
        obtain ⟨x, hx, hfx⟩ := anyS_ok hany
        simp only [Bool.and_eq_true, beq_iff_eq] at hfx
        obtain ⟨hxe, hfx⟩ := hfx
        obtain ⟨hA2, hm2, hl2⟩ := rerootF_ok hfx hm'
        refine ⟨_, List.mem_map.2 ⟨x, hx, rfl⟩, E'.by (matchAll n x.tm x.mem q.1.2.toL q.2), ⟨?_, ?_, ?_⟩, hxe.symm, toFr hf hl2, hm2⟩
        · rw [hn]
          exact (hL.trans ⟨fun k hk => hA.agree.i k (by have := (nvh h hmem).1; omega), fun k hk => hA.agree.b k (by have := (nvh h hmem).1; omega), fun k hk => hA.agree.l k (by have := (nvh h hmem).1; omega), fun k hk => hA.agree.base k (by have := (nvh h hmem).1; omega), fun k hk => hA.agree.o k (by have := (nvh h hmem).1; omega), fun k hk => hA.agree.v k (by have := (nvh h hmem).1; omega), hA.agree.f⟩ (Nat.le_refl _)).trans hA2 (Nat.le_refl _)
        · have := nvl x hx; dsimp only; omega
        · intro hnv; have := nvl x hx; dsimp only at hnv; omega
      cases hx : q.1.1 with
      | normal =>
        rw [hx] at he hq'
        subst he
        obtain ⟨g, hg, hfg⟩ := anyS_ok hq'
        simp only [Bool.and_eq_true] at hfg
        obtain ⟨⟨hfit, hd⟩, hlt⟩ := hfg
        obtain ⟨hA2, hm2, hl2⟩ := rerootF_ok hfit hm'
        generalize hσ : matchAll n g.tm g.mem q.1.2.toL q.2 = σ at *
        unfold nonnegI at hd
        cases hμ' : instI σ g.mu with
        | none => rw [hμ'] at hd; cases hd
        | some μ' =>
        rw [hμ'] at hd hlt
        have e1 : ev (E'.by σ) g.mu = ev E' μ' := instI_ev hμ'
        have e2 := isLt_ok hm'.know hlt
        have e3 := nonneg_ok hm'.know hd
        rw [norm_ok] at e2 e3
        have e4 : ev E' h.mu = ev E h.mu := ev_agree hA.agree (nvh h hmem).2
        show Code.rounds P body (Exit.inBlock id _) k a' w'
        refine ih g hg (E'.by σ) a' w' ?_ hm2 (toFr hf hl2) ?_
        · exact (hL.trans ⟨fun k hk => hA.agree.i k (by have := (nvh h hmem).1; omega), fun k hk => hA.agree.b k (by have := (nvh h hmem).1; omega), fun k hk => hA.agree.l k (by have := (nvh h hmem).1; omega), fun k hk => hA.agree.base k (by have := (nvh h hmem).1; omega), fun k hk => hA.agree.o k (by have := (nvh h hmem).1; omega), fun k hk => hA.agree.v k (by have := (nvh h hmem).1; omega), hA.agree.f⟩ (Nat.le_refl _)).trans hA2 (Nat.le_refl _)
        · rw [e1]; omega
      | exit i =>
        rw [hx] at he hq'
        subst he
        obtain ⟨y, hy, E'', h1, h2, h3, h4⟩ := leave (.exit i) hx hq'
        show if i = id then _ else _
        replace h2 : (if i = id then SX.normal else .exit i) = y.1.1 := h2
        by_cases hi : i = id
        · rw [if_pos hi] at h2 ⊢
          exact ⟨y, hy, E'', h1, by rw [← h2]; rfl, h3, h4⟩
        · rw [if_neg hi] at h2 ⊢
          exact ⟨y, hy, E'', h1, by rw [← h2]; rfl, h3, h4⟩
      | ret =>
        rw [hx] at he hq'
        subst he
        obtain ⟨y, hy, E'', h1, h2, h3, h4⟩ := leave .ret hx hq'
        exact ⟨y, hy, E'', h1, by rw [← h2]; rfl, h3, h4⟩
  refine wp_block (wp_loop_rounds ((ev (E0.by (matchAll n h0.tm h0.mem tm.toL m)) h0.mu).toNat + 1) ?_)
  exact key _ h0 hh0 _ a w hA0 hm0 ha0 (by omega)
end Go.Sx
