/- an unknown function's values get names, with their ranges. -/
import Derived.Test.YtojpmbkbeoolcaaP
namespace Go.Proofs.Ytojpmbkbeoolcaa
open Go.Sx Go
set_option maxRecDepth 100000
noncomputable def nameA {α : Type} (cs : List BE) (n : Nat) (a : IE) (es : List IE) (k : IE → List IE → α) : α := match a with
 | .app f A => match defOf (.app f A) cs with
  | some j => nfN j fun j => k (.var j) es
  | none => match esIdx (.app f A) es n with
   | some j => nfN j fun j => k (.var j) es
   | none => nfN (n + es.length) fun j => nfSp (es ++ [.app f A]) fun es => k (.var j) es
 | a => k a es
noncomputable def nameW {α : Type} (cs : List BE) (n : Nat) : SV → List IE → (SV → List IE → α) → α
 | .int kd e, es, k => nameA cs n e es fun e es => k (.int kd e) es
 | .cons a b, es, k => nameW cs n a es fun a es => nameW cs n b es fun b es => k (.cons a b) es
 | .agg c, es, k => nameW cs n c es fun c es => k (.agg c) es
 | .tup c, es, k => nameW cs n c es fun c es => k (.tup c) es
 | .arr kd r z ws, es, k => nameW cs n ws es fun ws es => k (.arr kd r z ws) es
 | .wr i x ws, es, k => nameA cs n x es fun x es => nameW cs n ws es fun ws es => k (.wr i x ws) es
 | .bool (.eq e z), es, k => nameA cs n e es fun e es => k (.bool (.eq e z)) es
 | v, es, k => k v es
theorem nameA_use {α : Type} (cs : List BE) (n : Nat) (a : IE) (es : List IE) (k : IE → List IE → α) : ∃ b es', nameA cs n a es k = k b es' := by
 unfold nameA
 split
 ·split
  ·rw [nfN_eq]; exact ⟨_, _, rfl⟩
  ·split
   ·rw [nfN_eq]; exact ⟨_, _, rfl⟩
   ·rw [nfN_eq, nfSp_eq]; exact ⟨_, _, rfl⟩
 ·exact ⟨_, _, rfl⟩
theorem nameW_use {α : Type} (cs : List BE) (n : Nat) : ∀ (v : SV) (es : List IE) (k : SV → List IE → α), ∃ b es', nameW cs n v es k = k b es' := by
 intro v
 induction v with
 | int kd e =>
  intro es k
  unfold nameW
  obtain ⟨b, es', h⟩ := nameA_use cs n e es fun e es => k (.int kd e) es
  exact ⟨_, _, h⟩
 | cons a b iha ihb =>
  intro es k
  unfold nameW
  obtain ⟨a', es1, h1⟩ := iha es fun a es => nameW cs n b es fun b es => k (.cons a b) es
  obtain ⟨b', es2, h2⟩ := ihb es1 fun b es => k (.cons a' b) es
  exact ⟨_, _, h1.trans h2⟩
 | agg c ih =>
  intro es k
  unfold nameW
  obtain ⟨a', es1, h1⟩ := ih es fun c es => k (.agg c) es
  exact ⟨_, _, h1⟩
 | tup c ih =>
  intro es k
  unfold nameW
  obtain ⟨a', es1, h1⟩ := ih es fun c es => k (.tup c) es
  exact ⟨_, _, h1⟩
 | arr kd r z ws ih =>
  intro es k
  unfold nameW
  obtain ⟨a', es1, h1⟩ := ih es fun ws es => k (.arr kd r z ws) es
  exact ⟨_, _, h1⟩
 | wr i x ws ih =>
  intro es k
  unfold nameW
  obtain ⟨x', es1, h1⟩ := nameA_use cs n x es fun x es => nameW cs n ws es fun ws es => k (.wr i x ws) es
  obtain ⟨b', es2, h2⟩ := ih es1 fun ws es => k (.wr i x' ws) es
  exact ⟨_, _, h1.trans h2⟩
 | bool b =>
  intro es k
  cases b with
  | eq e z =>
   unfold nameW
   obtain ⟨b, es', h⟩ := nameA_use cs n e es fun e es => k (.bool (.eq e z)) es
   exact ⟨_, _, h⟩
  | _ => exact ⟨_, _, rfl⟩
 | _ => intro es k; exact ⟨_, _, rfl⟩
noncomputable def sameN (cs : List BE) : SV → SV → Bool
 | .int k e, .int k' e' => Nat.beq (kindNo k) (kindNo k') && eqD cs e e'
 | .bool (.eq e z), .bool (.eq e' z') => eqD cs e e' && ieEq z z'
 | .cons a b, .cons a' b' => sameN cs a a' && sameN cs b b'
 | .agg a, .agg b => sameN cs a b
 | .tup a, .tup b => sameN cs a b
 | .arr k r z ws, .arr k' r' z' ws' => Nat.beq (kindNo k) (kindNo k') && Nat.beq r r' && ieEq z z' && sameN cs ws ws'
 | .wr i x ws, .wr i' x' ws' => ieEq i i' && eqD cs x x' && sameN cs ws ws'
 | a, b => svEq a b
theorem sameN_ok {E : Env} {cs : List BE} (hc : ∀ c ∈ cs, evB E c = true) : ∀ {v v' : SV}, sameN cs v v' = true → dl E v = dl E v' ∧ ∀ r j, wsVal E r v j = wsVal E r v' j := by
 intro v v' h
 induction v, v' using sameN.induct with
 | case1 k e k' e' =>
  unfold sameN at h
  rw [Bool.and_eq_true] at h
  have h1 := kindNo_eq h.1
  subst h1
  refine ⟨?_, fun _ _ => rfl⟩
  show [Value.int k (ev E e)] = [Value.int k (ev E e')]
  rw [eqD_ok hc h.2]
 | case2 e z e' z' =>
  unfold sameN at h
  rw [Bool.and_eq_true] at h
  refine ⟨?_, fun _ _ => rfl⟩
  show [Value.bool (decide (ev E e = ev E z))] = [Value.bool (decide (ev E e' = ev E z'))]
  rw [eqD_ok hc h.1, ieEq_ok h.2]
 | case3 a b a' b' iha ihb =>
  unfold sameN at h
  rw [Bool.and_eq_true] at h
  refine ⟨?_, fun _ _ => rfl⟩
  show dl E a ++ dl E b = dl E a' ++ dl E b'
  rw [(iha h.1).1, (ihb h.2).1]
 | case4 a b ih =>
  unfold sameN at h
  refine ⟨?_, fun _ _ => rfl⟩
  show [Value.agg (dl E a).toArray] = [Value.agg (dl E b).toArray]
  rw [(ih h).1]
 | case5 a b ih =>
  unfold sameN at h
  refine ⟨?_, fun _ _ => rfl⟩
  show [Value.tuple (dl E a).toArray] = [Value.tuple (dl E b).toArray]
  rw [(ih h).1]
 | case6 k r z ws k' r' z' ws' ih =>
  unfold sameN at h
  simp only [Bool.and_eq_true] at h
  obtain ⟨⟨⟨h1, h2⟩, h3⟩, h4⟩ := h
  have h1 := kindNo_eq h1
  have h2 := Nat.eq_of_beq_eq_true h2
  have h3 := ieEq_ok h3
  subst h1 h2 h3
  refine ⟨?_, fun _ _ => rfl⟩
  show arrCells E k r _ ws = arrCells E k r _ ws'
  unfold arrCells
  exact List.map_congr_left fun j _ => by rw [(ih h4).2]
 | case7 i x ws i' x' ws' ih =>
  unfold sameN at h
  simp only [Bool.and_eq_true] at h
  obtain ⟨⟨h1, h2⟩, h3⟩ := h
  have h1 := ieEq_ok h1
  subst h1
  refine ⟨?_, fun r j => ?_⟩
  ·show (dl E ws).map toMap = (dl E ws').map toMap
   rw [(ih h3).1]
  ·show (if ev E i = (j : Int) then ev E x else wsVal E r ws j) = (if ev E i = (j : Int) then ev E x' else wsVal E r ws' j)
   rw [eqD_ok hc h2, (ih h3).2]
 | case8 a b =>
  unfold sameN at h
  have := svEq_ok (by simpa using h)
  subst this
  exact ⟨rfl, fun _ _ => rfl⟩
noncomputable def letWayA (q : SV × Mem) : List (SV × Mem) := nameW q.2.know.conds q.2.nv q.1 [] fun v es => match es with
 | [] => cond (sameN q.2.know.conds q.1 v) [(v, q.2)] [q]
 | x :: r => nfSp (defC q.2.nv (x :: r) ++ q.2.know.conds) fun cs =>
  cond (letsOk q.2 (x :: r) && q.2.nm q.2.nv && q.1.nm q.2.nv && sameN cs q.1 v) (nfN (q.2.nv + (x :: r).length) fun nv => [(v, { q.2 with know := ⟨q.2.know.facts, cs⟩, nv := nv })]) [q]
theorem letWayA_ok {F : Nat → Prop} {w0 w : World} {E : Env} {q : SV × Mem} (hm : MemOk F w0 E q.2 w) : ∃ p ∈ letWayA q, ∃ E', Later q.2.nv p.2.nv E E' ∧ dv E' p.1 = dv E q.1 ∧ MemOk F w0 E' p.2 w := by
 have self : ∃ p ∈ [q], ∃ E', Later q.2.nv p.2.nv E E' ∧ dv E' p.1 = dv E q.1 ∧ MemOk F w0 E' p.2 w := ⟨q, List.mem_singleton.2 rfl, E, Later.of rfl E, rfl, hm⟩
 unfold letWayA
 obtain ⟨v, es, h1⟩ := nameW_use q.2.know.conds q.2.nv q.1 [] (fun v es => match es with
  | [] => cond (sameN q.2.know.conds q.1 v) [(v, q.2)] [q]
  | x :: r => nfSp (defC q.2.nv (x :: r) ++ q.2.know.conds) fun cs =>
   cond (letsOk q.2 (x :: r) && q.2.nm q.2.nv && q.1.nm q.2.nv && sameN cs q.1 v) (nfN (q.2.nv + (x :: r).length) fun nv => [(v, { q.2 with know := ⟨q.2.know.facts, cs⟩, nv := nv })]) [q])
 rw [h1]
 cases es with
 | nil =>
  dsimp only
  cases hs : sameN q.2.know.conds q.1 v with
  | false => exact self
  | true => exact ⟨_, List.mem_singleton.2 rfl, E, Later.of rfl E, (by show dv E v = dv E q.1; unfold dv; rw [(sameN_ok hm.know.conds hs).1]), hm⟩
 | cons x r =>
 dsimp only
 generalize x :: r = es
 rw [nfSp_eq]
 cases hc : (letsOk q.2 es && q.2.nm q.2.nv && q.1.nm q.2.nv && sameN (defC q.2.nv es ++ q.2.know.conds) q.1 v) with
 | false => exact self
 | true =>
 simp only [Bool.and_eq_true] at hc
 obtain ⟨⟨⟨h1, h2⟩, h3⟩, h5⟩ := hc
 dsimp only [cond]
 unfold letsOk at h1
 rw [List.all_eq_true] at h1
 rw [nfN_eq]
 let E' := E.more q.2.nv es
 have hA : Agree q.2.nv E E' := more_agree E _ es
 have getm : ∀ i, i < es.length → es.getD i (.lit 0) ∈ es := fun i hi => by
  rw [List.getD_eq_getElem?_getD, List.getElem?_eq_getElem hi]
  exact List.getElem_mem hi
 have hOk : E'.Ok := ⟨fun k => by
  show in64 (if q.2.nv ≤ k ∧ k < q.2.nv + es.length then ev E (es.getD (k - q.2.nv) (.lit 0)) else E.i k)
  split
  ·rename_i hk
   have := h1 _ (getm (k - q.2.nv) (by omega))
   rw [Bool.and_eq_true] at this
   exact in64S_ok hm.know this.2
  ·exact hm.know.env.i k, hm.know.env.l, hm.know.env.f⟩
 have hm2 : MemOk F w0 E' { q.2 with nv := q.2.nv + es.length } w := hm.moved h2 hA hOk (Ext.refl _ _) (sg := q.2.seg) (nx := q.2.next) hm.size hm.seg0
 have hcs : ∀ x ∈ defC q.2.nv es ++ q.2.know.conds, evB E' x = true := by
  intro x hx
  rcases List.mem_append.1 hx with hx | hx
  ·obtain ⟨i, hi, rfl⟩ := defC_mem hx
   have hn := h1 _ (getm i hi)
   rw [Bool.and_eq_true] at hn
   show decide (ev E' (.var (q.2.nv + i)) = ev E' (es.getD i (.lit 0))) = true
   rw [ev_agree hA hn.1]
   refine decide_eq_true ?_
   show (if q.2.nv ≤ q.2.nv + i ∧ q.2.nv + i < q.2.nv + es.length then ev E (es.getD (q.2.nv + i - q.2.nv) (.lit 0)) else E.i (q.2.nv + i)) = _
   rw [if_pos (by omega), Nat.add_sub_cancel_left]
  ·exact hm2.know.conds x hx
 refine ⟨_, List.mem_singleton.2 rfl, E', ⟨hA, by show q.2.nv ≤ q.2.nv + es.length; omega, fun h => ?_⟩, ?_, ⟨⟨hm2.know.env, hm2.know.facts, hcs⟩, hm2.size, hm2.ents, hm2.apart, hm2.mine, hm2.ext, hm2.seg0⟩⟩
 ·have h : q.2.nv + es.length = q.2.nv := h
  have : es = [] := List.length_eq_zero_iff.1 (by omega)
  show E.more q.2.nv es = E
  rw [this]
  unfold Env.more
  simp only [List.length_nil, Nat.add_zero]
  have : (fun k => if q.2.nv ≤ k ∧ k < q.2.nv then ev E (([] : List IE).getD (k - q.2.nv) (.lit 0)) else E.i k) = E.i := by
   funext k
   rw [if_neg (by omega)]
  rw [this]
 ·show dv E' v = dv E q.1
  unfold dv
  rw [← (sameN_ok hcs h5).1, dl_agree hA _ h3]
noncomputable def factsOf (n : Nat) (fs : List Fact) : List BE → List Fact
 | [] => []
 | c :: r => match c with
  | .eq (.var j) t => cond (Nat.ble n j) ((.var j, (rng fs t).1, (rng fs t).2) :: factsOf n fs r) (factsOf n fs r)
  | _ => factsOf n fs r
theorem factsOf_ok {E : Env} {n : Nat} {fs : List Fact} (hE : E.Ok) (hf : ∀ f ∈ fs, FactOk E f) : ∀ {cs : List BE}, (∀ c ∈ cs, evB E c = true) → ∀ f ∈ factsOf n fs cs, FactOk E f
 | [], _, f, h => by cases h
 | c :: r, hc, f, h => by
  have ih := factsOf_ok (n := n) hE hf (cs := r) fun c h => hc c (List.mem_cons_of_mem _ h)
  unfold factsOf at h
  split at h
  ·rename_i j t
   cases hb : Nat.ble n j with
   | false => rw [hb] at h; exact ih f h
   | true =>
    rw [hb] at h
    rcases List.mem_cons.1 h with rfl | h
    ·have h1 : ev E (.var j) = ev E t := of_decide_eq_true (hc _ List.mem_cons_self)
     unfold FactOk
     rw [h1]
     exact rng_ok hE hf t
    ·exact ih f h
  ·exact ih f h
noncomputable def notApp (f : Fact) : Bool := match f.1 with
 | .app _ _ => false
 | _ => true
noncomputable def addF (n : Nat) (q : SV × Mem) : SV × Mem := (q.1, { q.2 with know := ⟨factsOf n q.2.know.facts q.2.know.conds ++ q.2.know.facts.filter notApp, q.2.know.conds⟩ })
theorem addF_ok {F : Nat → Prop} {w0 w : World} {E : Env} {n : Nat} {q : SV × Mem} (hm : MemOk F w0 E q.2 w) : MemOk F w0 E (addF n q).2 w :=
 ⟨⟨hm.know.env, fun f hf => (List.mem_append.1 hf).elim (factsOf_ok hm.know.env hm.know.facts hm.know.conds f) (fun h => hm.know.facts f (List.mem_filter.1 h).1), hm.know.conds⟩, hm.size, hm.ents, hm.apart, hm.mine, hm.ext, hm.seg0⟩
noncomputable def letA (s : List SV → X SV) : List SV → X SV := fun args m => match s args m with
 | some outs => some (nfL (fun p k => nfS p.1 fun v => nfMem p.2 fun m => k (v, m)) ((outs.flatMap letWayA).map (addF m.nv)) fun l => l)
 | none => none
theorem letA_ok {G : Gf} {P : Program} {f : Nat} {s : List SV → X SV} (hs : SpecOk G P f s) : SpecOk G P f (letA s) := by
 intro F w0 E args m outs' w hgf ho hm
 unfold letA at ho
 cases hr : s args m with
 | none => rw [hr] at ho; cases ho
 | some outs =>
 rw [hr] at ho
 cases ho
 rw [nfL_eq (fun p k => by rw [nfS_eq, nfMem_eq])]
 refine (hs F w0 E args m outs w hgf hr hm).mono ?_
 rintro e w' ⟨q, hq, E', hL, rfl, hm'⟩
 obtain ⟨p, hp, E2, h1, h2, h3⟩ := letWayA_ok hm'
 refine ⟨addF m.nv p, List.mem_map_of_mem (List.mem_flatMap.2 ⟨q, hq, hp⟩), E2, ⟨hL.agree.trans h1.agree hL.le, Nat.le_trans hL.le h1.le, fun h => ?_⟩, ?_, addF_ok h3⟩
 ·have a1 := hL.le
  have a2 := h1.le
  replace h : p.2.nv = m.nv := h
  rw [h1.same (by omega), hL.same (by omega)]
 ·show Ending.returned (dv E' q.1) = Ending.returned (dv E2 p.1)
  rw [h2]
end Go.Proofs.Ytojpmbkbeoolcaa
