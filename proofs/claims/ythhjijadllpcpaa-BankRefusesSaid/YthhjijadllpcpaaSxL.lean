/- The executor over code and calls. -/
import Derived.Test.YthhjijadllpcpaaSxMa
import Derived.LoopN
import Derived.Scope
namespace Go.Sx
open Go

inductive SX where
  | normal
  | exit (n : Nat)
  | ret
  deriving DecidableEq, Repr, Inhabited
def SX.to : SX → Exit
  | .normal => .normal
  | .exit n => .exit n
  | .ret => .ret

def Post (F : Nat → Prop) (w0 : World) (E : Env) (m : Mem) (outs : List ((SX × Fr) × Mem)) (e : Exit) (a : Act) (w : World) : Prop :=
  ∃ q ∈ outs, ∃ E', Later m.nv q.2.nv E E' ∧ e = q.1.1.to ∧ FrOk E' q.1.2 a ∧ MemOk F w0 E' q.2 w
theorem Post.later {F : Nat → Prop} {w0 : World} {E E' : Env} {m m' : Mem} {outs outs' : List ((SX × Fr) × Mem)} {e : Exit} {a : Act} {w : World} (h : Post F w0 E' m' outs' e a w)
    (hA : Later m.nv m'.nv E E') (hs : ∀ q ∈ outs', q ∈ outs) : Post F w0 E m outs e a w := by
  obtain ⟨q, hq, E'', hA', he, hf, hm⟩ := h
  exact ⟨q, hs q hq, E'', hA.trans hA', he, hf, hm⟩
def CodeOk (P : Program) (c : Code) (x : Fr → X (SX × Fr)) : Prop :=
  ∀ (F : Nat → Prop) (w0 : World) (E : Env) (tm : Fr) (a : Act) (m : Mem) (w : World) (outs : List ((SX × Fr) × Mem)), x tm m = some outs → MemOk F w0 E m w → FrOk E tm a →
    c.wp P (Post F w0 E m outs) a w

/- ways that end alike, made one -/
/-- the tests that a way was answered, the eldest first -/
def newC (m q : Mem) : List BE := (q.know.conds.take (q.know.conds.length - m.know.conds.length)).reverse
def numb (m : Mem) : Nat → List ((SX × Fr) × Mem) → List (List BE × Nat)
  | _, [] => []
  | k, q :: rest => (newC m q.2, k) :: numb m (k + 1) rest
theorem numb_mem (m : Mem) : ∀ (outs : List ((SX × Fr) × Mem)) (k : Nat), ∀ q ∈ outs, ∃ j, outs[j]? = some q ∧ (newC m q.2, k + j) ∈ numb m k outs := by
  intro outs
  induction outs with
  | nil => intro k q hq; cases hq
  | cons a rest ih =>
    intro k q hq
    rcases List.mem_cons.1 hq with rfl | hq
    · exact ⟨0, rfl, List.mem_cons_self⟩
    · obtain ⟨j, h1, h2⟩ := ih (k + 1) q hq
      refine ⟨j + 1, by simpa using h1, List.mem_cons_of_mem _ ?_⟩
      rw [show k + (j + 1) = k + 1 + j by omega]; exact h2
def isK (es : List SX) (e : SX) (j : Nat) : Bool := match es[j]? with
  | some x => decide (x = e)
  | none => false
def uniqK : List SX → List SX
  | [] => []
  | x :: l => if l.contains x then uniqK l else x :: uniqK l
theorem mem_uniqK : ∀ (l : List SX) (j : SX), j ∈ l → j ∈ uniqK l := by
  intro l
  induction l with
  | nil => intro j h; exact h
  | cons x l ih =>
    intro j h
    unfold uniqK
    split
    · rename_i hx
      rcases List.mem_cons.1 h with rfl | h
      · exact ih _ (by simpa using hx)
      · exact ih _ h
    · rcases List.mem_cons.1 h with rfl | h
      · exact List.mem_cons_self
      · exact List.mem_cons_of_mem _ (ih _ h)
def getSt (outs : List ((SX × Fr) × Mem)) (j : Nat) : Option (Fr × Mem) := match outs[j]? with
  | some q => some (q.1.2, q.2)
  | none => none
noncomputable def grpJ (dead : Nat) (m : Mem) (outs : List ((SX × Fr) × Mem)) (es : List SX) (T : DT) (e : SX) (P : List BE) : Option ((SX × Fr) × Mem) :=
  match T.only (isK es e) with
  | .leaf j => match outs[j]? with
    | some q => nfSp (q.2.know.conds.take (q.2.know.conds.length - m.know.conds.length) ++ (P ++ m.know.conds)) fun cs => some ((e, q.1.2), ⟨⟨q.2.know.facts, cs⟩, q.2.heap, q.2.seg, q.2.next, q.2.nv⟩)
    | none => none
  | T' => match T'.st dead m.know (getSt outs) with
    | some s => nfSp (P ++ m.know.conds) fun cs => some ((e, s.1), ⟨⟨s.2.know.facts, cs⟩, s.2.heap, s.2.seg, s.2.next, s.2.nv⟩)
    | none => none
/-- a way as it is, told that it is none of the others -/
noncomputable def keepJ (m : Mem) (P : List BE) (q : (SX × Fr) × Mem) : (SX × Fr) × Mem :=
  nfSp (q.2.know.conds.take (q.2.know.conds.length - m.know.conds.length) ++ (P ++ m.know.conds)) fun cs => (q.1, ⟨⟨q.2.know.facts, cs⟩, q.2.heap, q.2.seg, q.2.next, q.2.nv⟩)
noncomputable def grpL (dead : Nat) (m : Mem) (outs : List ((SX × Fr) × Mem)) (es : List SX) (T : DT) (e : SX) (P : List BE) : Option (List ((SX × Fr) × Mem)) :=
  match e with
  | .ret => some ((outs.filter fun q => decide (q.1.1 = .ret)).map (keepJ m P))
  | e => match grpJ dead m outs es T e P with
    | some s => some [s]
    | none => none
noncomputable def grpsJ (dead : Nat) (m : Mem) (outs : List ((SX × Fr) × Mem)) (es : List SX) (T : DT) : List SX → List BE → Option (List ((SX × Fr) × Mem))
  | [], _ => some []
  | e :: rest, P => match rest with
    | [] => grpL dead m outs es T e P
    | k :: rest => nfB (T.test (isK es e)) fun c => match grpL dead m outs es T e (c :: P) with
      | some s => nfB (mkNot c) fun d => match grpsJ dead m outs es T (k :: rest) (d :: P) with
        | some r => some (s ++ r)
        | none => none
      | none => none
/-- do two ways go on alike? -/
def dupK : List SX → Bool
  | [] => false
  | x :: l => (!(x == .ret) && l.contains x) || dupK l
noncomputable def nfX {α : Type} (e : SX) (k : SX → α) : α := SX.rec (motive := fun _ => α) (k .normal) (fun n => nfN n fun n => k (.exit n)) (k .ret) e
theorem nfX_eq {α : Type} (e : SX) (k : SX → α) : nfX e k = k e := by
  cases e with
  | exit n => exact nfN_eq n fun n => k (.exit n)
  | _ => rfl
noncomputable def nfT {α : Type} (T : DT) : (DT → α) → α :=
  DT.rec (motive := fun _ => (DT → α) → α) (fun k => k .no) (fun j k => nfN j fun j => k (.leaf j)) (fun c _ _ ha hb k => nfB c fun c => ha fun a => hb fun b => k (.node c a b)) T
theorem nfT_eq {α : Type} (T : DT) : ∀ k : DT → α, nfT T k = k T := by
  induction T with
  | no => intro k; rfl
  | leaf j => intro k; exact nfN_eq j fun j => k (.leaf j)
  | node c a b iha ihb => intro k; show (nfB c fun c => nfT a fun a => nfT b fun b => k (.node c a b)) = _; rw [nfB_eq, iha]; exact ihb _
noncomputable def joinL (dead : Nat) (m : Mem) (outs : List ((SX × Fr) × Mem)) : List ((SX × Fr) × Mem) :=
  match outs with
  | q0 :: q1 :: rest => nfL nfX ((q0 :: q1 :: rest).map fun q => q.1.1) fun es =>
    if !dupK es then q0 :: q1 :: rest
    else if ((q0 :: q1 :: rest).all fun q => Nat.beq q.2.nv q0.2.nv) && (Nat.beq q0.2.nv m.nv || (m.know.facts.all (fun f => f.1.nm m.nv) && m.know.conds.all (BE.nm m.nv))) then match mkT 400 (numb m 0 (q0 :: q1 :: rest)) with
      | some T => nfT T fun T => match grpsJ dead m (q0 :: q1 :: rest) es T (uniqK es) [] with
        | some r => r
        | none => q0 :: q1 :: rest
      | none => q0 :: q1 :: rest
    else q0 :: q1 :: rest
  | l => l
theorem grpJ_ok {F : Nat → Prop} {w0 : World} {E : Env} {a : Act} {w : World} {dead : Nat} {m : Mem} (hk : KnowOk E m.know) {outs : List ((SX × Fr) × Mem)} {es : List SX} {T : DT} {e : SX} {P : List BE} {s : (SX × Fr) × Mem}
    (h : grpJ dead m outs es T e P = some s) (hP : ∀ c ∈ P, evB E c = true) {j : Nat} (hw : T.walk E = some j) (hj : isK es e j = true) (hst : ∀ q, outs[j]? = some q → FrOk E q.1.2 a ∧ MemOk F w0 E q.2 w) {n : Nat} (_hnv : ∀ q ∈ outs, q.2.nv = n) :
    s.1.1 = e ∧ FrOk E s.1.2 a ∧ MemOk F w0 E s.2 w := by
  have hw' := DT.only_ok E _ T j hw hj
  have know : ∀ (fs : List Fact) (own : List BE), (∀ f ∈ fs, FactOk E f) → (∀ c ∈ own, evB E c = true) → KnowOk E ⟨fs, own ++ (P ++ m.know.conds)⟩ := by
    intro fs own h1 h2
    refine ⟨hk.env, h1, fun c hc => ?_⟩
    rcases List.mem_append.1 hc with hc | hc
    · exact h2 c hc
    · rcases List.mem_append.1 hc with hc | hc
      · exact hP c hc
      · exact hk.conds c hc
  unfold grpJ at h
  split at h
  · rename_i i hi
    rw [hi] at hw'
    cases hw'
    split at h
    · rename_i q hq
      rw [nfSp_eq] at h
      cases h
      obtain ⟨h1, h2⟩ := hst q hq
      exact ⟨rfl, h1, ⟨know _ _ h2.know.facts fun c hc => h2.know.conds c (List.mem_of_mem_take hc), h2.size, h2.ents, h2.apart, h2.mine, h2.ext, h2.seg0⟩⟩
    · cases h
  · split at h
    · rename_i s' hs
      rw [nfSp_eq] at h
      cases h
      have := DT.st_ok (F := F) (w0 := w0) (a := a) (w := w) hk _ s' j hs hw' (fun x hx => by
        unfold getSt at hx
        split at hx
        · rename_i q hq; cases hx; exact ⟨(hst q hq).1, (hst q hq).2⟩
        · cases hx)
      have h2 := this.mem
      exact ⟨rfl, this.fr, ⟨know _ [] h2.know.facts (fun c hc => by cases hc), h2.size, h2.ents, h2.apart, h2.mine, h2.ext, h2.seg0⟩⟩
    · cases h
theorem grpJ_nv {dead : Nat} {m : Mem} {outs : List ((SX × Fr) × Mem)} {es : List SX} {T : DT} {e : SX} {P : List BE} {s : (SX × Fr) × Mem}
    (h : grpJ dead m outs es T e P = some s) {n : Nat} (hnv : ∀ q ∈ outs, q.2.nv = n) : s.2.nv = n := by
  have stn : ∀ (T' : DT) (x : Fr × Mem), T'.st dead m.know (getSt outs) = some x → x.2.nv = n := by
    intro T'
    induction T' with
    | no => intro x h; cases h
    | leaf i =>
      intro x h
      have h' : getSt outs i = some x := h
      unfold getSt at h'
      split at h'
      · rename_i q hq; cases h'; exact hnv q (List.mem_of_getElem? hq)
      · cases h'
    | node c y z ihy _ =>
      intro x h
      have h' : (match y.st dead m.know (getSt outs) with
        | none => none
        | some x => match z.st dead m.know (getSt outs) with
          | none => none
          | some y => stJ dead m.know c x y) = some x := h
      split at h'
      · cases h'
      rename_i s1 h1
      split at h'
      · cases h'
      unfold stJ at h'
      split at h'
      · split at h'
        · cases h'
        · split at h'
          · cases h'
          · rw [nfSp_eq] at h'
            cases h'
            exact ihy s1 h1
      · cases h'
  unfold grpJ at h
  split at h
  · split at h
    · rename_i q hq
      rw [nfSp_eq] at h
      cases h
      exact hnv q (List.mem_of_getElem? hq)
    · cases h
  · split at h
    · rename_i s' hs
      rw [nfSp_eq] at h
      cases h
      exact stn _ s' hs
    · cases h
theorem grpL_ok {F : Nat → Prop} {w0 : World} {E : Env} {a : Act} {w : World} {dead : Nat} {m : Mem} (hk : KnowOk E m.know) {outs : List ((SX × Fr) × Mem)} {es : List SX} {T : DT} {e : SX} {P : List BE} {r : List ((SX × Fr) × Mem)}
    (h : grpL dead m outs es T e P = some r) (hP : ∀ c ∈ P, evB E c = true) {j : Nat} (hw : T.walk E = some j) (hj : isK es e j = true) {q : (SX × Fr) × Mem} (hq : outs[j]? = some q) (hqe : q.1.1 = e) (hst : FrOk E q.1.2 a ∧ MemOk F w0 E q.2 w) {n : Nat} (hnv : ∀ q ∈ outs, q.2.nv = n) :
    ∃ s ∈ r, s.2.nv = n ∧ s.1.1 = e ∧ FrOk E s.1.2 a ∧ MemOk F w0 E s.2 w := by
  unfold grpL at h
  split at h
  · cases h
    refine ⟨keepJ m P q, List.mem_map.2 ⟨q, List.mem_filter.2 ⟨List.mem_of_getElem? hq, by simpa using hqe⟩, rfl⟩, ?_⟩
    unfold keepJ
    rw [nfSp_eq]
    obtain ⟨h1, h2⟩ := hst
    refine ⟨hnv q (List.mem_of_getElem? hq), hqe, h1, ⟨⟨hk.env, h2.know.facts, fun c hc => ?_⟩, h2.size, h2.ents, h2.apart, h2.mine, h2.ext, h2.seg0⟩⟩
    rcases List.mem_append.1 hc with hc | hc
    · exact h2.know.conds c (List.mem_of_mem_take hc)
    · rcases List.mem_append.1 hc with hc | hc
      · exact hP c hc
      · exact hk.conds c hc
  · split at h
    · rename_i s hs
      cases h
      exact ⟨s, List.mem_cons_self, grpJ_nv hs hnv, grpJ_ok hk hs hP hw hj (fun q' hq' => by rw [hq] at hq'; cases hq'; exact hst) hnv⟩
    · cases h
theorem grpsJ_ok {F : Nat → Prop} {w0 : World} {E : Env} {a : Act} {w : World} {dead : Nat} {m : Mem} (hk : KnowOk E m.know) {outs : List ((SX × Fr) × Mem)} {es : List SX} {T : DT} {j : Nat} (hw : T.walk E = some j)
    {q : (SX × Fr) × Mem} (hq : outs[j]? = some q) (hst : FrOk E q.1.2 a ∧ MemOk F w0 E q.2 w) {n : Nat} (hnv : ∀ q ∈ outs, q.2.nv = n) (he : es[j]? = some q.1.1) : ∀ (ks : List SX) (P : List BE) (r : List ((SX × Fr) × Mem)), grpsJ dead m outs es T ks P = some r → (∀ c ∈ P, evB E c = true) → q.1.1 ∈ ks →
    ∃ s ∈ r, s.2.nv = n ∧ s.1.1 = q.1.1 ∧ FrOk E s.1.2 a ∧ MemOk F w0 E s.2 w := by
  have hK : ∀ e, isK es e j = decide (q.1.1 = e) := by intro e; unfold isK; rw [he]
  intro ks
  induction ks with
  | nil => intro P r _ _ h; cases h
  | cons e rest ih =>
    intro P r h hP hmem
    unfold grpsJ at h
    split at h
    · simp only [List.mem_cons, List.not_mem_nil, or_false] at hmem
      subst hmem
      exact grpL_ok hk h hP hw (by rw [hK]; simp) hq rfl hst hnv
    · rename_i k rest'
      rw [nfB_eq] at h
      have ht := DT.test_ok E (isK es e) T j hw
      split at h
      · rename_i s hs
        rw [nfB_eq] at h
        split at h
        · rename_i r' hr
          cases h
          by_cases hee : q.1.1 = e
          · subst hee
            obtain ⟨s', h1, h2⟩ := grpL_ok hk hs (by
              intro c hc
              rcases List.mem_cons.1 hc with rfl | hc
              · rw [ht, hK]; simp
              · exact hP c hc) hw (by rw [hK]; simp) hq rfl hst hnv
            exact ⟨s', List.mem_append_left _ h1, h2⟩
          · obtain ⟨s', h1, h2⟩ := ih _ r' hr (fun c hc => by
              rcases List.mem_cons.1 hc with rfl | hc
              · rw [mkNot_ok, ht, hK]; simp [hee]
              · exact hP c hc) (by
              rcases List.mem_cons.1 hmem with h | h
              · exact absurd h hee
              · exact h)
            exact ⟨s', List.mem_append_right _ h1, h2⟩
        · cases h
      · cases h
theorem joinL_ok {F : Nat → Prop} {w0 : World} {E : Env} {m : Mem} (hk : KnowOk E m.know) (dead : Nat) {outs : List ((SX × Fr) × Mem)} {e : Exit} {a : Act} {w : World} (h : Post F w0 E m outs e a w) : Post F w0 E m (joinL dead m outs) e a w := by
  unfold joinL
  split
  case h_2 => exact h
  rename_i q0 q1 rest
  rw [nfL_eq (fun _ _ => nfX_eq _ _)]
  generalize q0 :: q1 :: rest = outs at *
  split
  · exact h
  split
  case isFalse => exact h
  rename_i hall
  rw [Bool.and_eq_true, List.all_eq_true] at hall
  obtain ⟨hall, hnm⟩ := hall
  split
  case h_2 => exact h
  rename_i T hT
  rw [nfT_eq]
  split
  case h_2 => exact h
  rename_i r hr
  obtain ⟨q, hq, E', hL, he, hf, hm⟩ := h
  have hnv : ∀ q ∈ outs, q.2.nv = q0.2.nv := fun q hq => Nat.eq_of_beq_eq_true (hall q hq)
  have hk' : KnowOk E' m.know := by
    rw [Bool.or_eq_true] at hnm
    rcases hnm with h1 | h1
    · rw [hL.same ((hnv q hq).trans (Nat.eq_of_beq_eq_true h1))]; exact hk
    · rw [Bool.and_eq_true] at h1
      exact know_agree hk hm.know.env hL.agree h1.1 h1.2
  obtain ⟨j, hj, hmem⟩ := numb_mem m outs 0 q hq
  have hw := mkT_ok E' 400 _ T hT _ hmem (fun c hc => hm.know.conds c (List.mem_of_mem_take (List.mem_reverse.1 hc)))
  rw [Nat.zero_add] at hw
  have hes : (outs.map fun q => q.1.1)[j]? = some q.1.1 := by rw [List.getElem?_map, hj]; rfl
  obtain ⟨s, hs, h1, h2, h3, h4⟩ := grpsJ_ok (a := a) (F := F) (w0 := w0) (w := w) hk' hw hj ⟨hf, hm⟩ hnv hes _ _ r hr (fun c hc => by cases hc) (mem_uniqK _ _ (List.mem_map.2 ⟨q, hq, rfl⟩))
  exact ⟨s, hs, E', by rw [h1, ← hnv q hq]; exact hL, by rw [he, h2], h3, h4⟩
noncomputable def joinX (jm : Option Nat) (x : X (SX × Fr)) : X (SX × Fr) := match jm with
  | none => x
  | some dead => fun m => match x m with
    | some outs => some (joinL dead m outs)
    | none => none
theorem joinX_inv {jm : Option Nat} {x : X (SX × Fr)} {m : Mem} {outs : List ((SX × Fr) × Mem)} (h : joinX jm x m = some outs) :
    ∃ outs', x m = some outs' ∧ ∀ {F : Nat → Prop} {w0 : World} {E : Env} {e : Exit} {a : Act} {w : World}, KnowOk E m.know → Post F w0 E m outs' e a w → Post F w0 E m outs e a w := by
  cases jm with
  | none => exact ⟨outs, h, fun _ hp => hp⟩
  | some dead =>
    have h' : (match x m with
      | some outs => some (joinL dead m outs)
      | none => none) = some outs := h
    split at h'
    · rename_i outs' ho
      cases h'
      exact ⟨outs', ho, fun hk hp => joinL_ok hk dead hp⟩
    · cases h'

abbrev BX := Nat → Option (Fr → X (SX × Fr))
def blocksOf (id : Nat) : Code → List Code
  | .seq a b => blocksOf id a ++ blocksOf id b
  | .cond _ a b => blocksOf id a ++ blocksOf id b
  | .block i body => (if i = id then [.block i body] else []) ++ blocksOf id body
  | .loop b => blocksOf id b
  | .scope b => blocksOf id b
  | _ => []
def BlocksOk (P : Program) (bx : BX) (c : Code) : Prop := ∀ id sp, bx id = some sp → ∀ c' ∈ blocksOf id c, CodeOk P c' sp

noncomputable def region {P : Program} (T : Tab P) (cx : CX) (ops : Array Oper) (draw : Bool) (tm : Fr) : X (SX × Fr) :=
  if draw then
    if okS ops then fun m => match bfsE (everyNext T cx ops) T ops ops.size [(0, tm, m)] with
      | some l => some ((canonF m l).map (spl fun tm m => ((.normal, tm), m)))
      | none => none
    else if Region.noSelect ops then fun m => match bfs T cx ops ops.size [(0, tm, m)] with
      | some l => some ((canonF m l).map (spl fun tm m => ((.normal, tm), m)))
      | none => none
    else X.none
  else X.bind (seqOps T cx ops ops.toList tm) fun tm' => X.pure (.normal, tm')

noncomputable def runC {P : Program} (T : Tab P) (cx : CX) (bx : BX) (jm : Option Nat) : Nat → Code → Fr → X (SX × Fr)
  | 0, _, _ => X.none
  | n + 1, c, tm => match c with
    | .skip => X.pure (.normal, tm)
    | .label _ => X.pure (.normal, tm)
    | .region _ ops draw => region T cx ops draw tm
    | .seq x y => X.bind (runC T cx bx jm n x tm) (spl fun e tm => match e with
      | .normal => runC T cx bx jm n y tm
      | e => X.pure (e, tm))
    | .cond c x y => match opd tm c with
      | some (.bool b) => joinX jm (X.bind (branch b) fun r => if r then runC T cx bx jm n x tm else runC T cx bx jm n y tm)
      | _ => X.none
    | .block id body => match bx id with
      | some sp => sp tm
      | none => joinX jm (X.bind (runC T cx bx jm n body tm) (spl fun e tm => match e with
        | .exit i => if i = id then X.pure (.normal, tm) else X.pure (.exit i, tm)
        | e => X.pure (e, tm)))
    | .loop body => X.bind (runC T cx bx jm n body tm) (spl fun e tm => match e with
      | .normal => runC T cx bx jm n (.loop body) tm
      | e => X.pure (e, tm))
    | .exit i => X.pure (.exit i, tm)
    | .ret => X.pure (.ret, tm)
    | .scope body => runC T cx bx jm n body tm
    | _ => X.none

theorem MemOk.drew {F : Nat → Prop} {w0 : World} {E : Env} {m : Mem} {w : World} (h : MemOk F w0 E m w) : MemOk F w0 E m { w with drawn := w.drawn + 1 } :=
  ⟨h.know, h.size, fun e he => ⟨(h.ents e he).lt, (h.ents e he).ro, (h.ents e he).own⟩, h.apart, h.mine, ⟨h.ext.os, h.ext.tape, h.ext.output, h.ext.size, h.ext.block⟩, h.seg0⟩

theorem region_ok {P : Program} {T : Tab P} {cx : CX} (hcx : CallsOk P cx) (id : Nat) (ops : Array Oper) (draw : Bool) : CodeOk P (.region id ops draw) (region T cx ops draw) := by
  intro F w0 E tm a m w outs ho hm ha
  cases draw with
  | true =>
    unfold region at ho
    rw [if_pos rfl] at ho
    split at ho
    · rename_i hh
      dsimp only at ho
      split at ho
      · rename_i l hl
        cases ho
        refine wp_region_any T.mixed (early_any (early_static' hh) (fun c a w h => ?_) (bfsE_ok hcx ops.size hl _ List.mem_cons_self (Rep.start _) hm.drew ha ?_))
        · obtain ⟨q, _, E', _, he, _⟩ := h
          cases hq : q.1.1 <;> rw [hq] at he <;> cases he
        · intro q hq E' a' w' hA hm' ha'
          obtain ⟨p, hp, E'', hL, hf, hmp⟩ := canonF_ok hq hA hm' ha'
          exact ⟨_, List.mem_map.2 ⟨p, hp, rfl⟩, E'', hL, rfl, hf, hmp⟩
      · cases ho
    · split at ho
      · rename_i hh
        dsimp only at ho
        split at ho
        · rename_i l hl
          cases ho
          refine wp_region_any T.mixed ?_
          refine bfs_ok hcx hh (fun c a w h => ?_) ops.size hl _ List.mem_cons_self (Rep.start _) hm.drew ha ?_
          · obtain ⟨q, _, E', _, he, _⟩ := h
            cases hq : q.1.1 <;> rw [hq] at he <;> cases he
          · intro q hq E' a' w' hA hm' ha'
            obtain ⟨p, hp, E'', hL, hf, hmp⟩ := canonF_ok hq hA hm' ha'
            exact ⟨_, List.mem_map.2 ⟨p, hp, rfl⟩, E'', hL, rfl, hf, hmp⟩
        · cases ho
      · cases ho
  | false =>
    unfold region at ho
    simp only [Bool.false_eq_true, if_false] at ho
    unfold X.bind at ho
    split at ho
    · cases ho
    rename_i l hl
    refine wp_region ?_
    rw [List.range_eq_range', ← Array.length_toList]
    refine seqOps_ok hcx ops.toList 0 (by simp) hl hm ha ?_
    intro q hq E' a' w' hA hm' ha'
    obtain ⟨l', e', hs⟩ := gather_mem ho q hq
    cases e'
    exact ⟨_, hs _ List.mem_cons_self, E', hA, rfl, ha', hm'⟩

theorem BlocksOk.sub {P : Program} {bx : BX} {c d : Code} (h : BlocksOk P bx c) (hs : ∀ id, ∀ c' ∈ blocksOf id d, c' ∈ blocksOf id c) : BlocksOk P bx d :=
  fun id sp hb c' hc => h id sp hb c' (hs id c' hc)

theorem runC_ok {P : Program} {T : Tab P} {cx : CX} (hcx : CallsOk P cx) {bx : BX} {jm : Option Nat} : ∀ (n : Nat),
    (∀ c, BlocksOk P bx c → CodeOk P c (runC T cx bx jm n c)) ∧
    (∀ c, BlocksOk P bx c → ∀ (F : Nat → Prop) (w0 : World) (E : Env) (tm : Fr) (a : Act) (m : Mem) (w : World) (outs : List ((SX × Fr) × Mem)), runC T cx bx jm n (.loop c) tm m = some outs → MemOk F w0 E m w → FrOk E tm a →
      Code.rounds P c (Post F w0 E m outs) n a w) := by
  intro n
  induction n with
  | zero => exact ⟨fun c _ F w0 E tm a m w outs ho => (by cases ho), fun c _ F w0 E tm a m w outs ho => (by cases ho)⟩
  | succ n ih =>
    have hloop : ∀ c, BlocksOk P bx c → ∀ (F : Nat → Prop) (w0 : World) (E : Env) (tm : Fr) (a : Act) (m : Mem) (w : World) (outs : List ((SX × Fr) × Mem)), runC T cx bx jm (n + 1) (.loop c) tm m = some outs → MemOk F w0 E m w → FrOk E tm a →
        Code.rounds P c (Post F w0 E m outs) (n + 1) a w := by
      intro c hb F w0 E tm a m w outs ho hm ha
      rw [rounds_succ]
      unfold runC X.bind at ho
      dsimp only at ho
      split at ho
      · cases ho
      rename_i l hl
      refine wp_mono (ih.1 c hb F w0 E tm a m w l hl hm ha) ?_
      rintro e a' w' ⟨q, hq, E', hA, he, hf, hm'⟩
      obtain ⟨l', e', hs⟩ := gather_mem ho q hq
      rw [spl_eq] at e'
      cases hx : q.1.1 with
      | normal =>
        rw [hx] at he
        subst he
        simp only [hx] at e'
        have hr := ih.2 c hb F w0 E' q.1.2 a' q.2 w' l' e' hm' hf
        show Code.rounds P c (Post F w0 E m outs) n a' w'
        have mono : ∀ (k : Nat) (a w), Code.rounds P c (Post F w0 E' q.2 l') k a w → Code.rounds P c (Post F w0 E m outs) k a w := by
          intro k
          induction k with
          | zero => intro a w h; exact h.elim
          | succ k ihk =>
            intro a w h
            rw [rounds_succ] at h ⊢
            refine wp_mono h ?_
            intro e a w hq
            cases e with
            | normal => exact ihk a w hq
            | _ => exact Post.later hq hA hs
        exact mono n a' w' hr
      | exit i =>
        rw [hx] at he
        subst he
        simp only [hx] at e'
        cases e'
        exact ⟨_, hs _ List.mem_cons_self, E', hA, rfl, hf, hm'⟩
      | ret =>
        rw [hx] at he
        subst he
        simp only [hx] at e'
        cases e'
        exact ⟨_, hs _ List.mem_cons_self, E', hA, rfl, hf, hm'⟩
    refine ⟨?_, hloop⟩
    intro c hb F w0 E tm a m w outs ho hm ha
    cases c with
    | skip => cases ho; exact wp_skip ⟨_, List.mem_cons_self, E, Later.refl _ _, rfl, ha, hm⟩
    | label l => cases ho; exact wp_label ⟨_, List.mem_cons_self, E, Later.refl _ _, rfl, ha, hm⟩
    | exit i => cases ho; exact wp_exit ⟨_, List.mem_cons_self, E, Later.refl _ _, rfl, ha, hm⟩
    | ret => cases ho; exact wp_ret ⟨_, List.mem_cons_self, E, Later.refl _ _, rfl, ha, hm⟩
    | region id ops draw => exact region_ok hcx id ops draw F w0 E tm a m w outs ho hm ha
    | seq x y =>
      unfold runC X.bind at ho
      dsimp only at ho
      split at ho
      · cases ho
      rename_i l hl
      refine wp_seq (wp_mono (ih.1 x (hb.sub fun id c' hc => List.mem_append_left _ hc) F w0 E tm a m w l hl hm ha) ?_)
      rintro e a' w' ⟨q, hq, E', hA, he, hf, hm'⟩
      obtain ⟨l', e', hs⟩ := gather_mem ho q hq
      rw [spl_eq] at e'
      cases hx : q.1.1 with
      | normal =>
        rw [hx] at he
        subst he
        simp only [hx] at e'
        exact wp_mono (ih.1 y (hb.sub fun id c' hc => List.mem_append_right _ hc) F w0 E' q.1.2 a' q.2 w' l' e' hm' hf) fun _ _ _ h => Post.later h hA hs
      | exit i =>
        rw [hx] at he
        subst he
        simp only [hx] at e'
        cases e'
        exact ⟨_, hs _ List.mem_cons_self, E', hA, rfl, hf, hm'⟩
      | ret =>
        rw [hx] at he
        subst he
        simp only [hx] at e'
        cases e'
        exact ⟨_, hs _ List.mem_cons_self, E', hA, rfl, hf, hm'⟩
    | cond t x y =>
      unfold runC at ho
      dsimp only at ho
      cases ht : opd tm t with
      | none => rw [ht] at ho; cases ho
      | some v =>
        rw [ht] at ho
        cases v <;> first | (cases ho; done) | skip
        rename_i b
        dsimp only at ho
        obtain ⟨outs', ho, hjoin⟩ := joinX_inv ho
        refine wp_mono ?_ (fun e a w => hjoin hm.know)
        unfold X.bind at ho
        split at ho
        · cases ho
        rename_i l hl
        obtain ⟨p, hp, w', hm', hn, rfl, hv⟩ := branch_ok (F := F) (w0 := w0) (E := E) b m w l hl hm
        obtain ⟨l', e', hs⟩ := gather_mem ho p hp
        have hev : a.eval t = .bool (evB E b) := opd_ok ha.tmps ht
        refine wp_cond hev ?_
        rw [← hv]
        cases hp1 : p.1 with
        | true =>
          simp only [hp1, if_true] at e' ⊢
          exact wp_mono (ih.1 x (hb.sub fun id c' hc => List.mem_append_left _ hc) F w0 E tm a p.2 w' l' e' hm' ha) fun _ _ _ h => Post.later h (Later.of hn _) hs
        | false =>
          simp only [hp1, Bool.false_eq_true, if_false] at e' ⊢
          exact wp_mono (ih.1 y (hb.sub fun id c' hc => List.mem_append_right _ hc) F w0 E tm a p.2 w' l' e' hm' ha) fun _ _ _ h => Post.later h (Later.of hn _) hs
    | block id body =>
      unfold runC at ho
      dsimp only at ho
      cases hbx : bx id with
      | some sp =>
        rw [hbx] at ho
        exact hb id sp hbx (.block id body) (by simp [blocksOf]) F w0 E tm a m w outs ho hm ha
      | none =>
        rw [hbx] at ho
        dsimp only at ho
        obtain ⟨outs', ho, hjoin⟩ := joinX_inv ho
        refine wp_mono ?_ (fun e a w => hjoin hm.know)
        unfold X.bind at ho
        split at ho
        · cases ho
        rename_i l hl
        refine wp_block (wp_mono (ih.1 body (hb.sub fun id c' hc => List.mem_append_right _ hc) F w0 E tm a m w l hl hm ha) ?_)
        rintro e a' w' ⟨q, hq, E', hA, he, hf, hm'⟩
        obtain ⟨l', e', hs⟩ := gather_mem ho q hq
        rw [spl_eq] at e'
        cases hx : q.1.1 with
        | normal =>
          rw [hx] at he
          subst he
          simp only [hx] at e'
          cases e'
          exact ⟨_, hs _ List.mem_cons_self, E', hA, rfl, hf, hm'⟩
        | ret =>
          rw [hx] at he
          subst he
          simp only [hx] at e'
          cases e'
          exact ⟨_, hs _ List.mem_cons_self, E', hA, rfl, hf, hm'⟩
        | exit i =>
          rw [hx] at he
          subst he
          simp only [hx] at e'
          show if i = id then _ else _
          by_cases hi : i = id
          · rw [if_pos hi] at e' ⊢
            cases e'
            exact ⟨_, hs _ List.mem_cons_self, E', hA, rfl, hf, hm'⟩
          · rw [if_neg hi] at e' ⊢
            cases e'
            exact ⟨_, hs _ List.mem_cons_self, E', hA, rfl, hf, hm'⟩
    | loop body => exact wp_loop_rounds (n + 1) (hloop body hb F w0 E tm a m w outs ho hm ha)
    | scope body =>
      refine wp_scope_straight (wp_mono (ih.1 body hb F w0 E tm a m w outs ho hm ha) ?_)
      intro e a' w' h
      cases e with
      | goto l => obtain ⟨q, _, _, _, he, _⟩ := h; cases hq : q.1.1 <;> rw [hq] at he <;> cases he
      | _ => exact h
    | rangeFunc f ps as body => cases ho
    | goto l => cases ho
    | refuse s => cases ho

/- calls -/
noncomputable def collect {P : Program} (T : Tab P) (tm : Fr) : List ResultVar → X (List SV)
  | [] => X.pure []
  | .tmp t :: rest => X.bind (collect T tm rest) fun l => match tm.get t with
    | .nil => X.none
    | v => X.pure (v :: l)
  | .cell a t :: rest => X.bind (loadS T t (tm.get a)) fun v => X.bind (collect T tm rest) fun l => X.pure (v :: l)
noncomputable def resS {P : Program} (T : Tab P) (fn : Func) (tm : Fr) : X SV :=
  X.bind (collect T tm fn.results.toList) fun l => match l with
    | [v] => X.pure v
    | l => X.bind (X.ofOption (chainOf l)) fun c => X.pure (.tup c)
theorem getD_map {E : Env} {tm : Fr} {a : Act} (ha : FrT E tm a) (t : Nat) (hn : tm.get t ≠ .nil) : a.tmps.getD t undef = dv E (tm.get t) := by
  rcases ha.slot t with h | h
  · exact absurd h hn
  · exact h
def oneRes (tmps : Array Value) (r : ResultVar) : Sem Value :=
  match r with
  | .tmp t => pure (tmps.getD t undef)
  | .cell a t => do loadVar t (← asAddr (tmps.getD a undef))
theorem loadS_as {E : Env} {P : Program} {t : Nat} {v : SV} {r : Value} {w : World} (hv : ∃ s k off, v = .ptr s k off) (h : (Instr.loadAt t (dv E v)).run P w = .ok r w) :
    (do loadVar t (← asAddr (dv E v)) : Sem Value).run P w = .ok r w := by
  obtain ⟨s, k, off, rfl⟩ := hv
  exact h
theorem loadS_ptr {P : Program} {T : Tab P} {t : Nat} {v : SV} {m : Mem} {l : List (SV × Mem)} (h : loadS T t v m = some l) : ∃ s k off, v = .ptr s k off := by
  unfold loadS at h
  split at h
  · exact ⟨_, _, _, rfl⟩
  · cases h
theorem collect_ok {F : Nat → Prop} {w0 : World} {E : Env} {P : Program} (T : Tab P) {tm : Fr} {a : Act} (ha : FrT E tm a) : ∀ (rs : List ResultVar) (m : Mem) (w : World),
    GX F w0 E (collect T tm rs) m w fun l w' => w' = w ∧ (rs.mapM (oneRes a.tmps)).run P w = .ok (l.map (dv E)) w := by
  intro rs
  induction rs with
  | nil => intro m w; exact GX.pure fun _ => ⟨rfl, rfl⟩
  | cons r rest ih =>
    intro m w
    cases r with
    | tmp t =>
      unfold collect
      refine GX.bind (ih m w) ?_
      rintro l m1 w1 ⟨rfl, h⟩
      split
      · exact GX.none
      rename_i hn
      refine GX.pure fun _ => ⟨rfl, ?_⟩
      simp only [List.mapM_cons, Sem.run_bind, oneRes, Sem.run_pure, Result.andThen_ok, h, getD_map ha t hn, List.map_cons]
    | cell x t =>
      unfold collect
      have key : GX F w0 E (loadS T t (tm.get x)) m w fun v w' => w' = w ∧ (oneRes a.tmps (.cell x t)).run P w = .ok (dv E v) w := by
        intro outs ho hm
        obtain ⟨p, hp, w', hm', hn, rfl, _, hl⟩ := loadS_ok T t (tm.get x) m w outs ho hm
        refine ⟨p, hp, w', hm', hn, rfl, ?_⟩
        show (do loadVar t (← asAddr (a.tmps.getD x undef)) : Sem Value).run P w' = _
        have hp' := loadS_ptr ho
        rw [getD_map ha x (by intro hc; rw [hc] at hp'; obtain ⟨_, _, _, h⟩ := hp'; cases h)]
        exact loadS_as hp' hl
      refine GX.bind key ?_
      rintro v m1 w1 ⟨rfl, h1⟩
      refine GX.bind (ih m1 w1) ?_
      rintro l m2 w2 ⟨rfl, h⟩
      refine GX.pure fun _ => ⟨rfl, ?_⟩
      simp only [List.mapM_cons, Sem.run_bind, h1, Sem.run_pure, Result.andThen_ok, h, List.map_cons]
theorem resS_ok {F : Nat → Prop} {w0 : World} {E : Env} {P : Program} (T : Tab P) (fn : Func) {tm : Fr} {a : Act} (ha : FrT E tm a) (m : Mem) (w : World) :
    GX F w0 E (resS T fn tm) m w fun v w' => w' = w ∧ (results fn a.tmps).run P w = .ok (dv E v) w := by
  have hres : ∀ (l : List Value), (fn.results.toList.mapM (oneRes a.tmps)).run P w = .ok l w → (results fn a.tmps).run P w = .ok (if h : l.toArray.size = 1 then l.toArray[0] else .tuple l.toArray) w := by
    intro l hl
    have e : results fn a.tmps = (do let vs ← fn.results.mapM (oneRes a.tmps); pure (if h : vs.size = 1 then vs[0] else .tuple vs)) := rfl
    have : (fn.results.mapM (oneRes a.tmps)).run P w = .ok l.toArray w := by
      rw [Array.mapM_eq_mapM_toList]
      simp only [Sem.run_map, hl, Result.andThen_ok]
    rw [e, Sem.run_bind, this]
    rfl
  unfold resS
  refine GX.bind (collect_ok T ha fn.results.toList m w) ?_
  rintro l m1 w1 ⟨rfl, h⟩
  split
  · rename_i v
    refine GX.pure fun _ => ⟨rfl, ?_⟩
    rw [hres _ h]
    rfl
  · rename_i hne
    refine GX.bind (GX.ofOption (Q := fun c w' => w' = w1 ∧ chainOf l = some c) fun _ h => ⟨rfl, h⟩) ?_
    rintro c m2 w2 ⟨rfl, hc⟩
    refine GX.pure fun _ => ⟨rfl, ?_⟩
    rw [hres _ h]
    have : ¬ (l.map (dv E)).toArray.size = 1 := by
      intro h1
      simp only [List.size_toArray, List.length_map] at h1
      match l, h1 with
      | [v], _ => exact hne v rfl
    rw [dif_neg this]
    show _ = Result.ok (Value.tuple (dl E c).toArray) w2
    rw [chainOf_ok E l c hc]

/- what a call made and nobody can reach is forgotten -/
noncomputable def refsN (sg n0 : Nat) (v : SV) : List Nat → List Nat :=
  SV.rec (motive := fun _ => List Nat → List Nat)
    (fun l => l) (fun _ l => l) (fun _ _ l => l) (fun _ l => l) (fun l => l)
    (fun s i _ l => cond (Nat.beq s sg && Nat.ble n0 i) (i :: l) l) (fun l => l)
    (fun s i _ _ _ l => cond (Nat.beq s sg && Nat.ble n0 i) (i :: l) l)
    (fun _ _ ih l => ih l) (fun l => l) (fun _ _ ih l => ih l) (fun l => l)
    (fun _ ih l => ih l) (fun _ ih l => ih l) (fun l => l) (fun _ _ ha hb l => ha (hb l))
    (fun _ _ _ _ _ l => l) (fun _ _ _ _ l => l) (fun _ _ ih l => ih l) v
def isNew (sg n0 : Nat) (x : Ent) : Bool := Nat.ble n0 x.k && Nat.beq x.s sg
def hasN (k : Nat) : List Nat → Bool
  | [] => false
  | x :: r => cond (Nat.beq x k) true (hasN k r)
noncomputable def reachN (sg n0 : Nat) (h : List Ent) : Nat → List Nat → List Nat
  | 0, R => R
  | n + 1, R => nfSp (h.foldr (fun x R' => cond (isNew sg n0 x && hasN x.k R) (refsN sg n0 x.c R') R') R) fun R' => reachN sg n0 h n R'
noncomputable def kept (sg n0 : Nat) (v : SV) (h : List Ent) : List Ent :=
  nfSp (h.foldr (fun x R => cond (isNew sg n0 x) R (refsN sg n0 x.c R)) (refsN sg n0 v [])) fun R =>
    match R with
    | [] => h.filter fun x => !isNew sg n0 x
    | R => nfSp (reachN sg n0 h 3 R) fun R => h.filter fun x => !isNew sg n0 x || hasN x.k R
noncomputable def gcX (sg n0 : Nat) (v : SV) : X SV := fun m => match m with
  | ⟨kn, h, s, nx, nv⟩ => cond (Nat.beq s sg && !Nat.beq nx n0) (nfSp (kept sg n0 v h) fun h' => some [(v, ⟨kn, h', s, nx, nv⟩)]) (some [(v, ⟨kn, h, s, nx, nv⟩)])
theorem kept_sub (sg n0 : Nat) (v : SV) (h : List Ent) : (kept sg n0 v h).Sublist h := by
  unfold kept
  rw [nfSp_eq]
  split
  · exact List.filter_sublist
  · rw [nfSp_eq]; exact List.filter_sublist
theorem MemOk.sub {F : Nat → Prop} {w0 : World} {E : Env} {kn : Know} {h h' : List Ent} {s nx nv : Nat} {w : World} (hm : MemOk F w0 E ⟨kn, h, s, nx, nv⟩ w) (hs : h'.Sublist h) : MemOk F w0 E ⟨kn, h', s, nx, nv⟩ w :=
  ⟨hm.know, hm.size, fun e he => hm.ents e (hs.subset he), hm.apart.sublist hs, fun e he => hm.mine e (hs.subset he), hm.ext, hm.seg0⟩
theorem gcX_ok {F : Nat → Prop} {w0 : World} {E : Env} (sg n0 : Nat) (v : SV) (m : Mem) (w : World) : GX F w0 E (gcX sg n0 v) m w fun r w' => w' = w ∧ r = v := by
  intro outs ho hm
  obtain ⟨kn, h, s, nx, nv⟩ := m
  unfold gcX at ho
  dsimp only at ho
  rw [nfSp_eq] at ho
  cases hb : (Nat.beq s sg && !Nat.beq nx n0) with
  | true =>
    rw [hb] at ho
    cases ho
    exact ⟨_, List.mem_cons_self, w, hm.sub (kept_sub _ _ _ _), rfl, rfl, rfl⟩
  | false =>
    rw [hb] at ho
    cases ho
    exact ⟨_, List.mem_cons_self, w, hm, rfl, rfl, rfl⟩
noncomputable def inlineS {P : Program} (T : Tab P) (cx : CX) (bx : Nat → BX) (fuel : Nat) (f : Nat) (args : List SV) : X SV :=
  match T.func f with
  | some fn => match fn.body with
    | some c => fun m => X.bind (if Nat.blt fn.ntmps (2 ^ 20) && Nat.ble args.length fn.ntmps then Fr.start args fn.ntmps fun tm => runC T cx (bx f) (T.dead f) fuel c tm else X.none) (spl fun e tm => match e with
      | .exit _ => X.none
      | _ => X.bind (resS T fn tm) fun v => gcX m.seg m.next v) m
    | none => X.none
  | none => X.none
/-- what is known of the calls -/
abbrev Specs := Nat → Option (List SV → X SV)
noncomputable def callD {P : Program} (T : Tab P) (sp : Specs) (bx : Nat → BX) (fuel : Nat) : Nat → CX
  | 0 => fun _ _ => X.none
  | d + 1 => fun f args => match sp f with
    | some s => s args
    | none => canonX (inlineS T (callD T sp bx fuel d) bx fuel f) args
def SpecOk (P : Program) (f : Nat) (s : List SV → X SV) : Prop :=
  ∀ (F : Nat → Prop) (w0 : World) (E : Env) (args : List SV) (m : Mem) (outs : List (SV × Mem)) (w : World), s args m = some outs → MemOk F w0 E m w →
    Calls P f (args.map (dv E)).toArray w fun e w' => ∃ p ∈ outs, ∃ E', Later m.nv p.2.nv E E' ∧ e = .returned (dv E' p.1) ∧ MemOk F w0 E' p.2 w'
def SpecsOk (P : Program) (sp : Specs) : Prop := ∀ f s, sp f = some s → SpecOk P f s
def BxOk (P : Program) (bx : Nat → BX) : Prop := ∀ (f : Nat) (fn : Func) (c : Code), P.funcs[f]? = some fn → fn.body = some c → BlocksOk P (bx f) c
theorem inlineS_ok {P : Program} {T : Tab P} {cx : CX} (hcx : CallsOk P cx) {bx : Nat → BX} (hbx : BxOk P bx) (fuel f : Nat) : SpecOk P f (inlineS T cx bx fuel f) := by
  intro F w0 E args m outs w ho hm
  unfold inlineS at ho
  cases hf : T.func f with
  | none => rw [hf] at ho; cases ho
  | some fn =>
    rw [hf] at ho
    dsimp only at ho
    cases hc : fn.body with
    | none => rw [hc] at ho; cases ho
    | some c =>
      rw [hc] at ho
      dsimp only at ho
      unfold X.bind at ho
      split at ho
      · cases ho
      rename_i l hl
      split at hl
      case isFalse => cases hl
      rename_i hsz
      rw [Bool.and_eq_true] at hsz
      obtain ⟨tm, htm, hwf, htl⟩ := Fr.start_eq args fn.ntmps (by simpa [Nat.blt_eq] using hsz.1) (Nat.le_of_ble_eq_true hsz.2) (fun tm => runC T cx (bx f) (T.dead f) fuel c tm)
      rw [htm] at hl
      have hfr : FrOk E tm { tmps := (args.map (dv E)).toArray ++ Array.replicate (fn.ntmps - (args.map (dv E)).toArray.size) undef, defers := [] } := by
        refine ⟨FrT.all ?_ hwf, rfl⟩
        rw [htl]
        apply Array.ext'
        simp only [List.map_append, List.map_replicate, Array.toList_append, Array.toList_replicate, List.size_toArray, List.length_map]
        rfl
      refine calls_of_wp (T.func_ok _ _ hf) hc (wp_mono ((runC_ok hcx fuel).1 c (hbx f fn c (T.func_ok _ _ hf) hc) F w0 E _ _ m w l hl hm hfr) ?_)
      rintro e a' w' ⟨q, hq, E', hA, he, hfr', hm'⟩
      obtain ⟨l', e', hs⟩ := gather_mem ho q hq
      rw [spl_eq] at e'
      have fin : (∀ i, q.1.1 ≠ .exit i) → (X.bind (resS T fn q.1.2) fun v => gcX m.seg m.next v) q.2 = some l' → a'.defers = [] ∧ ∃ v, (results fn a'.tmps).run P w' = .ok v w' ∧ ∃ p ∈ outs, ∃ E', Later m.nv p.2.nv E E' ∧ Ending.returned v = .returned (dv E' p.1) ∧ MemOk F w0 E' p.2 w' := by
        intro _ hres
        have hboth : GX F w0 E' (X.bind (resS T fn q.1.2) fun v => gcX m.seg m.next v) q.2 w' fun v w2 => w2 = w' ∧ (results fn a'.tmps).run P w' = .ok (dv E' v) w' :=
          GX.bind (resS_ok T fn hfr'.tmps q.2 w') (by
            rintro v m1 w1 ⟨rfl, hr⟩
            exact (gcX_ok m.seg m.next v m1 w1).mono fun r w2 h => ⟨h.1, by rw [h.2]; exact hr⟩)
        obtain ⟨p, hp, w2, hm2, hn2, rfl, hr⟩ := hboth l' hres hm'
        exact ⟨hfr'.defers, _, hr, p, hs p hp, E', by rw [hn2]; exact hA, rfl, hm2⟩
      cases hx : q.1.1 with
      | normal =>
        simp only [hx] at e' he
        subst he
        exact fin (by simp [hx]) e'
      | ret =>
        simp only [hx] at e' he
        subst he
        exact fin (by simp [hx]) e'
      | exit i => simp only [hx] at e'; cases e'
theorem canonX_ok {P : Program} {f : Nat} {s : List SV → X SV} (hs : SpecOk P f s) : SpecOk P f (canonX s) := by
  intro F w0 E args m outs w ho hm
  unfold canonX at ho
  split at ho
  · rename_i outs' hr
    cases ho
    refine Calls.mono (hs F w0 E args m outs' w hr hm) ?_
    rintro e w' ⟨p, hp, E', hL, he, hm'⟩
    obtain ⟨q, hq, E'', hL', hv, hmq⟩ := canonV_ok hp hL hm'
    exact ⟨q, hq, E'', hL', by rw [he, hv], hmq⟩
  · cases ho
theorem callD_ok {P : Program} {T : Tab P} {sp : Specs} (hsp : SpecsOk P sp) {bx : Nat → BX} (hbx : BxOk P bx) (fuel : Nat) : ∀ d, CallsOk P (callD T sp bx fuel d) := by
  intro d
  induction d with
  | zero => intro F w0 E f args m outs w ho; cases ho
  | succ d ih =>
    intro F w0 E f args m outs w ho hm
    unfold callD at ho
    cases hs : sp f with
    | some s =>
      rw [hs] at ho
      exact hsp f s hs F w0 E args m outs w ho hm
    | none =>
      rw [hs] at ho
      exact canonX_ok (inlineS_ok ih hbx fuel f) F w0 E args m outs w ho hm
end Go.Sx
