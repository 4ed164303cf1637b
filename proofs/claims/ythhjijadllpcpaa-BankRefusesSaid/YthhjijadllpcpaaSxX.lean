/- Contracts whose ways are made one again: what differs by way stands behind its test. -/
import Derived.Test.YthhjijadllpcpaaSxQ
namespace Go.Sx
open Go

def numbV (m : Mem) : Nat → List (SV × Mem) → List (List BE × Nat)
  | _, [] => []
  | k, q :: rest => (newC m q.2, k) :: numbV m (k + 1) rest
theorem numbV_mem (m : Mem) : ∀ (outs : List (SV × Mem)) (k : Nat), ∀ q ∈ outs, ∃ j, outs[j]? = some q ∧ (newC m q.2, k + j) ∈ numbV m k outs := by
  intro outs
  induction outs with
  | nil => intro k q hq; cases hq
  | cons a rest ih =>
    intro k q hq
    rcases List.mem_cons.1 hq with rfl | hq
    · exact ⟨0, rfl, List.mem_cons_self⟩
    · obtain ⟨j, h1, h2⟩ := ih (k + 1) q hq
      refine ⟨j + 1, by simpa using h1, List.mem_cons_of_mem _ ?_⟩
      rw [show k + (j + 1) = k + 1 + j by omega]; exact h2
noncomputable def mergeV (m : Mem) (outs : List (SV × Mem)) : Option SV := match mkT 400 (numbV m 0 outs) with
  | some T => nfT T fun T => T.val fun j => outs[j]?.map (·.1)
  | none => none
theorem mergeV_ok {E : Env} {m : Mem} {outs : List (SV × Mem)} {V : SV} (h : mergeV m outs = some V) : ∀ q ∈ outs, (∀ c ∈ q.2.know.conds, evB E c = true) → dl E V = dl E q.1 := by
  intro q hq hc
  unfold mergeV at h
  split at h
  case h_2 => cases h
  rename_i T hT
  rw [nfT_eq] at h
  obtain ⟨j, hj, hm⟩ := numbV_mem m outs 0 q hq
  have hw := mkT_ok E 400 _ T hT _ hm (fun c h => hc c (List.mem_of_mem_take (List.mem_reverse.1 h)))
  rw [Nat.zero_add] at hw
  obtain ⟨v, h1, h2⟩ := DT.val_ok E _ T V j h hw
  rw [hj] at h1
  cases h1
  exact h2
def sameM (m q : Mem) : Bool := Nat.beq q.nv m.nv && Nat.beq q.seg m.seg && decide (q.heap = m.heap)
noncomputable def mergeL (m : Mem) (outs : List (SV × Mem)) : List (SV × Mem) :=
  match outs with
  | q :: _ :: _ =>
    if outs.all (fun p => sameM m p.2) then
      match mergeV m outs with
      | some V => if outs.all (fun p => Nat.beq p.2.next q.2.next) then nfS V fun V => [(V, { m with next := q.2.next })]
        else if m.nm m.nv && V.nm m.nv then nfS V fun V => nfN (m.nv + 1) fun s => nfN (m.nv + 2) fun v => [(V, { m with seg := s, next := 0, nv := v })]
        else outs
      | none => outs
    else outs
  | _ => outs
noncomputable def mergeX (s : List SV → X SV) : List SV → X SV := fun args m => match s args m with
  | some outs => some (mergeL m outs)
  | none => none
theorem mergeX_ok {P : Program} {f : Nat} {s : List SV → X SV} (hs : SpecOk P f s) : SpecOk P f (mergeX s) := by
  intro F w0 E args m outs' w ho hm
  unfold mergeX at ho
  cases hr : s args m with
  | none => rw [hr] at ho; cases ho
  | some outs =>
  rw [hr] at ho
  cases ho
  refine (hs F w0 E args m outs w hr hm).mono ?_
  rintro e w' ⟨q, hq, E', hL, rfl, hm'⟩
  have plain : ∃ p ∈ outs, ∃ E'', Later m.nv p.2.nv E E'' ∧ Ending.returned (dv E' q.1) = .returned (dv E'' p.1) ∧ MemOk F w0 E'' p.2 w' := ⟨q, hq, E', hL, rfl, hm'⟩
  unfold mergeL
  split
  case h_2 => exact plain
  rename_i q0 q1 rest
  split
  case isFalse => exact plain
  rename_i hall
  split
  case h_2 => exact plain
  rename_i V hV
  rw [List.all_eq_true] at hall
  have hsame := hall q hq
  simp only [sameM, Bool.and_eq_true, decide_eq_true_eq] at hsame
  obtain ⟨⟨s1, s2⟩, s3⟩ := hsame
  have s1 := Nat.eq_of_beq_eq_true s1
  have s2 := Nat.eq_of_beq_eq_true s2
  have hEE : E' = E := hL.same s1
  subst hEE
  have hval : dv E' V = dv E' q.1 := by
    unfold dv
    rw [mergeV_ok hV q hq hm'.know.conds]
  have hnext : ∀ nx, q.2.next = nx → MemOk F w0 E' { m with next := nx } w' := by
    intro nx hnx
    refine ⟨hm.know, by rw [← hnx, ← s2]; exact hm'.size, ?_, ?_, ?_, hm'.ext, hm.seg0⟩
    · rw [← s3]; exact hm'.ents
    · rw [← s3]; exact hm'.apart
    · rw [← s3]; exact hm'.mine
  split
  · rename_i hnx
    rw [List.all_eq_true] at hnx
    rw [nfS_eq]
    exact ⟨_, List.mem_cons_self, E', Later.of rfl E', by rw [hval], hnext _ (Nat.eq_of_beq_eq_true (hnx q hq))⟩
  · split
    case isFalse => exact plain
    rename_i hnm
    rw [Bool.and_eq_true] at hnm
    rw [nfS_eq, nfN_eq, nfN_eq]
    have hA := two_agree E' m.nv 0 w'.heap.size
    refine ⟨_, List.mem_cons_self, E'.two m.nv 0 w'.heap.size, ⟨hA, by show m.nv ≤ m.nv + 2; omega, fun h => by have : m.nv + 2 = m.nv := h; omega⟩, ?_, ?_⟩
    · rw [dv_agree hA hnm.2, hval]
    · have hmid := hnext q.2.next rfl
      exact hmid.moved (n := m.nv) hnm.1 hA ⟨hm.know.env.i, hm.know.env.l, hm.know.env.f⟩ (Ext.refl _ _) (by simp [Env.two]) (by simp [Env.two])
end Go.Sx
