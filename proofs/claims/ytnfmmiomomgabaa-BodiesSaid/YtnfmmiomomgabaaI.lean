/- an unknown function's values get names, with their ranges. -/
import Derived.Test.YtnfmmiomomgabaaP
namespace Go.Proofs.Ytnfmmiomomgabaa
open Go.Sx Go
set_option maxRecDepth 100000
noncomputable def nameA {α : Type} (cs : List BE) (n : Nat) (a : IE) (es : List IE) (k : IE → List IE → α) : α := match a with
 | .app f A => match defOf (.app f A) cs with
  | some j => nfN j fun j => k (.var j) es
  | none => match esIdx (.app f A) es n with
   | some j => nfN j fun j => k (.var j) es
   | none => nfN (n + es.length) fun j => nfSp (es ++ [.app f A]) fun es => k (.var j) es
 | a => k a es
noncomputable def nameW {α : Type} (cs : List BE) (n : Nat) : SV → List IE → (SV → List IE → α) → α
 | .int kd e, es, k => nameA cs n e es fun e es => k (.int kd e) es
 | .cons a b, es, k => nameW cs n a es fun a es => nameW cs n b es fun b es => k (.cons a b) es
 | .agg c, es, k => nameW cs n c es fun c es => k (.agg c) es
 | .tup c, es, k => nameW cs n c es fun c es => k (.tup c) es
 | .arr kd r z ws, es, k => nameW cs n ws es fun ws es => k (.arr kd r z ws) es
 | .wr i x ws, es, k => nameA cs n x es fun x es => nameW cs n ws es fun ws es => k (.wr i x ws) es
 | v, es, k => k v es
theorem nameA_use {α : Type} (cs : List BE) (n : Nat) (a : IE) (es : List IE) (k : IE → List IE → α) : ∃ b es', nameA cs n a es k = k b es' := by
 unfold nameA
 split
 ·split
  ·rw [nfN_eq]; exact ⟨_, _, rfl⟩
  ·split
   ·rw [nfN_eq]; exact ⟨_, _, rfl⟩
   ·rw [nfN_eq, nfSp_eq]; exact ⟨_, _, rfl⟩
 ·exact ⟨_, _, rfl⟩
theorem nameW_use {α : Type} (cs : List BE) (n : Nat) : ∀ (v : SV) (es : List IE) (k : SV → List IE → α), ∃ b es', nameW cs n v es k = k b es' := by
 intro v
 induction v with
 | int kd e =>
  intro es k
  unfold nameW
  obtain ⟨b, es', h⟩ := nameA_use cs n e es fun e es => k (.int kd e) es
  exact ⟨_, _, h⟩
 | cons a b iha ihb =>
  intro es k
  unfold nameW
  obtain ⟨a', es1, h1⟩ := iha es fun a es => nameW cs n b es fun b es => k (.cons a b) es
  obtain ⟨b', es2, h2⟩ := ihb es1 fun b es => k (.cons a' b) es
  exact ⟨_, _, h1.trans h2⟩
 | agg c ih =>
  intro es k
  unfold nameW
  obtain ⟨a', es1, h1⟩ := ih es fun c es => k (.agg c) es
  exact ⟨_, _, h1⟩
 | tup c ih =>
  intro es k
  unfold nameW
  obtain ⟨a', es1, h1⟩ := ih es fun c es => k (.tup c) es
  exact ⟨_, _, h1⟩
 | arr kd r z ws ih =>
  intro es k
  unfold nameW
  obtain ⟨a', es1, h1⟩ := ih es fun ws es => k (.arr kd r z ws) es
  exact ⟨_, _, h1⟩
 | wr i x ws ih =>
  intro es k
  unfold nameW
  obtain ⟨x', es1, h1⟩ := nameA_use cs n x es fun x es => nameW cs n ws es fun ws es => k (.wr i x ws) es
  obtain ⟨b', es2, h2⟩ := ih es1 fun ws es => k (.wr i x' ws) es
  exact ⟨_, _, h1.trans h2⟩
 | _ => intro es k; exact ⟨_, _, rfl⟩
noncomputable def letWayA (q : SV × Mem) : List (SV × Mem) := match q.2.heap with
 | e :: rest => nameW q.2.know.conds q.2.nv q.1 [] fun v es => nameW q.2.know.conds q.2.nv e.c es fun c es => match es with
  | [] => cond (svEq q.1 v && svEq e.c c) [q] (letTo q e rest v c [])
  | x :: r => letTo q e rest v c (x :: r)
 | [] => [q]
theorem letWayA_ok {F : Nat → Prop} {w0 w : World} {E : Env} {q : SV × Mem} (hm : MemOk F w0 E q.2 w) : ∃ p ∈ letWayA q, ∃ E', Later q.2.nv p.2.nv E E' ∧ dv E' p.1 = dv E q.1 ∧ MemOk F w0 E' p.2 w := by
 have self : ∃ p ∈ [q], ∃ E', Later q.2.nv p.2.nv E E' ∧ dv E' p.1 = dv E q.1 ∧ MemOk F w0 E' p.2 w := ⟨q, List.mem_singleton.2 rfl, E, Later.of rfl E, rfl, hm⟩
 unfold letWayA
 split
 ·rename_i e rest hh
  obtain ⟨v, es1, h1⟩ := nameW_use q.2.know.conds q.2.nv q.1 [] (fun v es => nameW q.2.know.conds q.2.nv e.c es fun c es => match es with
   | [] => cond (svEq q.1 v && svEq e.c c) [q] (letTo q e rest v c [])
   | x :: r => letTo q e rest v c (x :: r))
  obtain ⟨c, es2, h2⟩ := nameW_use q.2.know.conds q.2.nv e.c es1 (fun c es => match es with
   | [] => cond (svEq q.1 v && svEq e.c c) [q] (letTo q e rest v c [])
   | x :: r => letTo q e rest v c (x :: r))
  rw [h1, h2]
  cases es2 with
  | nil =>
   dsimp only
   cases (svEq q.1 v && svEq e.c c) with
   | true => exact self
   | false => exact letTo_ok hh hm
  | cons x r => exact letTo_ok hh hm
 ·exact self
noncomputable def factsOf (n : Nat) (fs : List Fact) : List BE → List Fact
 | [] => []
 | c :: r => match c with
  | .eq (.var j) t => cond (Nat.ble n j) ((.var j, (rng fs t).1, (rng fs t).2) :: factsOf n fs r) (factsOf n fs r)
  | _ => factsOf n fs r
theorem factsOf_ok {E : Env} {n : Nat} {fs : List Fact} (hE : E.Ok) (hf : ∀ f ∈ fs, FactOk E f) : ∀ {cs : List BE}, (∀ c ∈ cs, evB E c = true) → ∀ f ∈ factsOf n fs cs, FactOk E f
 | [], _, f, h => by cases h
 | c :: r, hc, f, h => by
  have ih := factsOf_ok (n := n) hE hf (cs := r) fun c h => hc c (List.mem_cons_of_mem _ h)
  unfold factsOf at h
  split at h
  ·rename_i j t
   cases hb : Nat.ble n j with
   | false => rw [hb] at h; exact ih f h
   | true =>
    rw [hb] at h
    rcases List.mem_cons.1 h with rfl | h
    ·have h1 : ev E (.var j) = ev E t := of_decide_eq_true (hc _ List.mem_cons_self)
     unfold FactOk
     rw [h1]
     exact rng_ok hE hf t
    ·exact ih f h
  ·exact ih f h
noncomputable def notApp (f : Fact) : Bool := match f.1 with
 | .app _ _ => false
 | _ => true
noncomputable def addF (n : Nat) (q : SV × Mem) : SV × Mem := (q.1, { q.2 with know := ⟨factsOf n q.2.know.facts q.2.know.conds ++ q.2.know.facts.filter notApp, q.2.know.conds⟩ })
theorem addF_ok {F : Nat → Prop} {w0 w : World} {E : Env} {n : Nat} {q : SV × Mem} (hm : MemOk F w0 E q.2 w) : MemOk F w0 E (addF n q).2 w :=
 ⟨⟨hm.know.env, fun f hf => (List.mem_append.1 hf).elim (factsOf_ok hm.know.env hm.know.facts hm.know.conds f) (fun h => hm.know.facts f (List.mem_filter.1 h).1), hm.know.conds⟩, hm.size, hm.ents, hm.apart, hm.mine, hm.ext, hm.seg0⟩
noncomputable def letA (s : List SV → X SV) : List SV → X SV := fun args m => match s args m with
 | some outs => some (nfL (fun p k => nfS p.1 fun v => nfMem p.2 fun m => k (v, m)) ((outs.flatMap letWayA).map (addF m.nv)) fun l => l)
 | none => none
theorem letA_ok {G : Gf} {P : Program} {f : Nat} {s : List SV → X SV} (hs : SpecOk G P f s) : SpecOk G P f (letA s) := by
 intro F w0 E args m outs' w hgf ho hm
 unfold letA at ho
 cases hr : s args m with
 | none => rw [hr] at ho; cases ho
 | some outs =>
 rw [hr] at ho
 cases ho
 rw [nfL_eq (fun p k => by rw [nfS_eq, nfMem_eq])]
 refine (hs F w0 E args m outs w hgf hr hm).mono ?_
 rintro e w' ⟨q, hq, E', hL, rfl, hm'⟩
 obtain ⟨p, hp, E2, h1, h2, h3⟩ := letWayA_ok hm'
 refine ⟨addF m.nv p, List.mem_map_of_mem (List.mem_flatMap.2 ⟨q, hq, hp⟩), E2, ⟨hL.agree.trans h1.agree hL.le, Nat.le_trans hL.le h1.le, fun h => ?_⟩, ?_, addF_ok h3⟩
 ·have a1 := hL.le
  have a2 := h1.le
  replace h : p.2.nv = m.nv := h
  rw [h1.same (by omega), hL.same (by omega)]
 ·show Ending.returned (dv E' q.1) = Ending.returned (dv E2 p.1)
  rw [h2]
end Go.Proofs.Ytnfmmiomomgabaa
