/- Contracts whose ways are made one where they are of one shape. -/
import Derived.Test.YthhjijadllpcpaaSxX
namespace Go.Sx
open Go

/-- a value's shape: numbers and tests struck -/
def skel : SV → SV
  | .int k _ => .int k (.lit 0)
  | .bool _ => .bool (.lit true)
  | .agg c => .agg (skel c)
  | .tup c => .tup (skel c)
  | .cons a b => .cons (skel a) (skel b)
  | .arr k r n _ => .arr k r n .nil
  | .ptr s k _ => .ptr s k (.lit 0)
  | .sli s k _ _ _ => .sli s k (.lit 0) (.lit 0) (.lit 0)
  | .ifc t v => .ifc t (skel v)
  | v => v
abbrev Shape := SV × Nat × List (Nat × Nat)
def shapeOf (p : SV × Mem) : Shape := (skel p.1, p.2.next, p.2.heap.map fun e => (e.s, e.k))
def uniqS : List Shape → List Shape
  | [] => []
  | x :: l => if l.contains x then uniqS l else x :: uniqS l
def placeOf (x : Shape) : List Shape → Nat
  | [] => 0
  | y :: l => if x = y then 0 else placeOf x l + 1
def fr1 (v : SV) : Fr := ⟨1, .node v .tip .tip⟩
theorem fr1_get (v : SV) : (fr1 v).get 0 = v := rfl
theorem fr1_wf (v : SV) : (fr1 v).WF := by
  intro i
  show (FT.node v .tip .tip).has i = decide (i < 1)
  rw [FT.has_node]
  split
  · rename_i h; simp [h]
  · rename_i h
    have : ¬ i < 1 := by omega
    simp only [this, decide_false]
    split <;> rfl
def actOf (v : Value) : Act := { tmps := #[v], defers := [] }
theorem fr1_ok (E : Env) (v : SV) : FrOk E (fr1 v) (actOf (dv E v)) := by
  refine ⟨⟨rfl, fun i => .inr ?_, fr1_wf v⟩, rfl⟩
  cases i with
  | zero => rfl
  | succ i =>
    have : (fr1 v).get (i + 1) = .undef := Fr.get_out (fr1_wf v) (by show 1 ≤ i + 1; omega)
    rw [this]
    rfl
noncomputable def groupL (m : Mem) (outs : List (SV × Mem)) : List (SV × Mem) :=
  match outs with
  | q0 :: q1 :: rest => nfSp (uniqS ((q0 :: q1 :: rest).map shapeOf)) fun us =>
    if Nat.beq us.length (q0 :: q1 :: rest).length then q0 :: q1 :: rest
    else nfSp (joinL 0 m ((q0 :: q1 :: rest).map fun p => nfN (placeOf (shapeOf p) us) fun n => ((SX.exit n, fr1 p.1), p.2))) fun res =>
      if res.all fun q => !(q.1.2.get 0).isNil then res.map fun q => (q.1.2.get 0, q.2) else q0 :: q1 :: rest
  | l => l
noncomputable def groupX (s : List SV → X SV) : List SV → X SV := fun args m => match s args m with
  | some outs => some (groupL m outs)
  | none => none
theorem groupX_ok {P : Program} {f : Nat} {s : List SV → X SV} (hs : SpecOk P f s) : SpecOk P f (groupX s) := by
  intro F w0 E args m outs' w ho hm
  unfold groupX at ho
  cases hr : s args m with
  | none => rw [hr] at ho; cases ho
  | some outs =>
  rw [hr] at ho
  cases ho
  refine (hs F w0 E args m outs w hr hm).mono ?_
  rintro e w' ⟨q, hq, E', hL, rfl, hm'⟩
  have plain : ∃ p ∈ outs, ∃ E'', Later m.nv p.2.nv E E'' ∧ Ending.returned (dv E' q.1) = .returned (dv E'' p.1) ∧ MemOk F w0 E'' p.2 w' := ⟨q, hq, E', hL, rfl, hm'⟩
  unfold groupL
  split
  case h_2 => exact plain
  rename_i q0 q1 rest
  rw [nfSp_eq]
  split
  · exact plain
  rw [nfSp_eq]
  split
  case isFalse => exact plain
  rename_i hall
  rw [List.all_eq_true] at hall
  simp only [nfN_eq] at hall ⊢
  generalize uniqS ((q0 :: q1 :: rest).map shapeOf) = us at *
  have hpost : Post F w0 E m ((q0 :: q1 :: rest).map fun p => ((SX.exit (placeOf (shapeOf p) us), fr1 p.1), p.2)) (SX.exit (placeOf (shapeOf q) us)).to (actOf (dv E' q.1)) w' :=
    ⟨_, List.mem_map.2 ⟨q, hq, rfl⟩, E', hL, rfl, fr1_ok E' q.1, hm'⟩
  obtain ⟨p, hp, E'', hL', _, hf, hm''⟩ := joinL_ok hm.know 0 hpost
  have hn := hall p hp
  rw [Bool.not_eq_true'] at hn
  refine ⟨_, List.mem_map.2 ⟨p, hp, rfl⟩, E'', hL', ?_, hm''⟩
  rcases hf.tmps.slot 0 with h | h
  · rw [h] at hn; cases hn
  · congr 1
/-- one contract, and where it does not serve another one -/
noncomputable def orX (s t : List SV → X SV) : List SV → X SV := fun args m => match s args m with
  | some outs => some outs
  | none => t args m
theorem orX_ok {P : Program} {f : Nat} {s t : List SV → X SV} (hs : SpecOk P f s) (ht : SpecOk P f t) : SpecOk P f (orX s t) := by
  intro F w0 E args m outs w ho hm
  unfold orX at ho
  split at ho
  · rename_i outs' hr; cases ho; exact hs F w0 E args m _ w hr hm
  · exact ht F w0 E args m outs w ho hm
end Go.Sx
