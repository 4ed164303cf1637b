/- Regions of open order: operations that yield the same whenever they come may be taken at once. -/
import Derived.Orders
namespace Go.Sx
open Go

section
variable {P : Program} {ops : Array Oper} {Q : Exit → Act → World → Prop}
/-- two activations agree but for some slots -/
structure Off (T : Nat → Prop) (a a' : Act) : Prop where
  size : a'.tmps.size = a.tmps.size
  slot : ∀ t, ¬ T t → a'.tmps[t]? = a.tmps[t]?
  defers : a'.defers = a.defers
theorem Off.put {T : Nat → Prop} {a a' : Act} (h : Off T a a') (dst : Option Tmp) (v : Value) : Off T (a.put dst v) (a'.put dst v) := by
  cases dst with
  | none => exact h
  | some d =>
    refine ⟨by simp [Act.put, h.size], fun t ht => ?_, h.defers⟩
    simp only [Act.put]
    by_cases e : d = t
    · subst e
      simp only [Array.getElem?_setIfInBounds_self, h.size]
    · rw [Array.getElem?_setIfInBounds_ne e, Array.getElem?_setIfInBounds_ne e]
      exact h.slot t ht
theorem Off.defer {T : Nat → Prop} {a a' : Act} (h : Off T a a') (d : Deferred) : Off T { a with defers := d :: a.defers } { a' with defers := d :: a'.defers } :=
  ⟨h.size, h.slot, by show d :: a'.defers = d :: a.defers; rw [h.defers]⟩
theorem Off.eq {a a' : Act} (h : Off (fun _ => False) a a') : a' = a := by
  obtain ⟨t, d⟩ := a
  obtain ⟨t', d'⟩ := a'
  have h1 : t' = t := Array.ext_getElem? fun i => h.slot i (fun e => e)
  have h2 := h.defers
  dsimp only at h2
  rw [h1, h2]
theorem execOp_off {T : Nat → Prop} {a a' : Act} (h : Off T a a') (o : Oper) (hs : ∀ cs b, o.op ≠ .select cs b) (hT : ∀ t, T t → t ∉ o.looksAt ops) : execOp a'.eval o = execOp a.eval o :=
  execOp_congr o hs fun x hx => by
    cases x with
    | tmp t =>
      have ht : ¬ T t := fun hh => hT t hh (List.mem_append_left _ (List.mem_filterMap.2 ⟨.tmp t, by simpa using hx, rfl⟩))
      simp only [Act.eval, Array.getD_eq_getD_getElem?, h.slot t ht]
    | _ => rfl
theorem wanted_off {T : Nat → Prop} {a a' : Act} (h : Off T a a') (o : Oper) (hT : ∀ t, T t → t ∉ o.looksAt ops) : Region.wanted o (yielded ops a'.tmps) = Region.wanted o (yielded ops a.tmps) := by
  unfold Region.wanted
  cases hg : o.guard with
  | none => rfl
  | some gw =>
    obtain ⟨g, want⟩ := gw
    have hy : yielded ops a'.tmps g = yielded ops a.tmps g := by
      unfold yielded
      cases ht : (ops[g]?).bind (·.dst) with
      | none => rfl
      | some t =>
        have hn : ¬ T t := fun hh => hT t hh (by simp [Oper.looksAt, hg, ht])
        simp [h.slot t hn]
    simp only [hy]
/-- what an operation may have changed -/
structure Chg (d : Option Tmp) (a b : Act) : Prop where
  size : b.tmps.size = a.tmps.size
  slot : ∀ t, d ≠ some t → b.tmps[t]? = a.tmps[t]?
theorem Chg.put (a : Act) (d : Option Tmp) (v : Value) (ds : List Deferred) : Chg d a (({ a with defers := ds } : Act).put d v) := by
  cases d with
  | none => exact ⟨rfl, fun _ _ => rfl⟩
  | some d =>
    refine ⟨by simp [Act.put], fun t ht => ?_⟩
    simp only [Act.put]
    exact Array.getElem?_setIfInBounds_ne (fun e => ht (by rw [e]))
theorem Chg.execOp {d : Option Tmp} {a b : Act} (h : Chg d a b) (o : Oper) (hs : ∀ cs b, o.op ≠ .select cs b) (hd : ∀ t, d = some t → t ∉ o.looksAt ops) : execOp b.eval o = execOp a.eval o :=
  execOp_congr o hs fun x hx => by
    cases x with
    | tmp t =>
      have ht : d ≠ some t := fun hh => hd t hh (List.mem_append_left _ (List.mem_filterMap.2 ⟨.tmp t, by simpa using hx, rfl⟩))
      simp only [Act.eval, Array.getD_eq_getD_getElem?, h.slot t ht]
    | _ => rfl
theorem wpOp_off {T : Nat → Prop} {j : Nat} {oj : Oper} (hj : ops[j]? = some oj) (hT : ∀ t, T t → t ∉ oj.looksAt ops) (hs : ∀ cs b, oj.op ≠ .select cs b)
    (hQ : ∀ c a w, ¬ Q (.panic c) a w) {K : Act → World → Prop} {a a' : Act} {w : World} (hoff : Off T a a') (h : wpOp P ops Q j K a' w) :
    wpOp P ops Q j (fun b w' => ∃ b', Off T b b' ∧ Chg oj.dst a' b' ∧ K b' w') a w := by
  unfold wpOp at *
  simp only [hj] at *
  rw [wanted_off hoff oj hT] at h
  split
  · rename_i hw
    simp only [hw, if_true] at h
    rcases h with h | ⟨hasks, hlets⟩
    case inr => exact .inr ⟨by unfold Oper.asks at *; rw [execOp_off hoff oj hs hT] at hasks; exact hasks, hlets⟩
    refine .inl ?_
    unfold Oper.wp at *
    rw [execOp_off hoff oj hs hT] at h
    generalize (execOp a.eval oj).run P w = r at *
    cases r with
    | ok n w' =>
      cases n <;> simp only [Oper.upon] at h ⊢
      case value u => exact ⟨_, hoff.put _ u, Chg.put _ _ u _, h⟩
      case skip => exact ⟨_, hoff.put _ undef, Chg.put _ _ undef _, h⟩
      case defer d => exact ⟨_, (hoff.defer d).put _ undef, Chg.put _ _ undef _, h⟩
      case enter f args =>
        refine Calls.mono h fun e w'' he => ?_
        cases e with
        | returned u => exact ⟨_, hoff.put _ u, Chg.put _ _ u _, he⟩
        | panicked c => exact absurd he (hQ _ _ _)
        | outgrown => exact he
      case row row args => exact Rows.mono h fun u w'' he => ⟨_, hoff.put _ u, Chg.put _ _ u _, he⟩
    | halt x w' =>
      cases x <;> simp only [Oper.upon] at h ⊢
      case panic u => exact absurd h (hQ _ _ _)
  · rename_i hw
    simp only [hw] at h
    exact ⟨_, hoff.put _ undef, Chg.put _ _ undef _, h⟩
/-- what is listed has all that it waits for listed -/
def Closed (ops : Array Oper) (L : Array Bool) : Prop := ∀ (j : Nat) (o : Oper), ops[j]? = some o → L.getD j false = true → ∀ e ∈ o.after, Region.binds .any e = true → L.getD e.on false = true
structure EarlyOk (ops : Array Oper) (early : Nat → Bool) (tp : Nat → Nat) : Prop where
  nosel : ∀ (j : Nat) (o : Oper), ops[j]? = some o → ∀ cs b, o.op ≠ .select cs b
  down : ∀ (j : Nat) (o : Oper), ops[j]? = some o → ∀ e ∈ o.after, Region.binds .any e = true → e.on < j
  guard : ∀ (i : Nat) (o : Oper), early i = true → ops[i]? = some o → o.guard = none
  dst : ∀ (i : Nat) (o : Oper), early i = true → ops[i]? = some o → ∃ d, o.dst = some d
  inn : ∀ i, early i = true → i < ops.size
  uniq : ∀ (i : Nat) (oi : Oper) (j : Nat) (oj : Oper), early i = true → ops[i]? = some oi → ops[j]? = some oj → j ≠ i → oj.dst ≠ oi.dst
  read : ∀ (i : Nat) (oi : Oper) (j : Nat) (oj : Oper) (d : Nat), early i = true → ops[i]? = some oi → ops[j]? = some oj → oi.dst = some d → j ≠ i → (∃ e ∈ oj.after, Region.binds .any e = true ∧ e.on = i) ∨ d ∉ oj.looksAt ops
  self : ∀ (i : Nat) (oi : Oper) (d : Nat), early i = true → ops[i]? = some oi → oi.dst = some d → d ∉ oi.looksAt ops
  args : ∀ (i : Nat) (oi : Oper) (j : Nat) (oj : Oper) (d : Nat), early i = true → ops[i]? = some oi → ops[j]? = some oj → oj.dst = some d → j ≠ i → (∃ e ∈ oi.after, Region.binds .any e = true ∧ e.on = j) ∨ d ∉ oi.looksAt ops
  tp : ∀ L, Closed ops L → ∀ j, L.getD j false = true → ∀ k, (tp j).testBit k = true → L.getD k false = true
variable {early pure : Nat → Bool} {tp : Nat → Nat}
/-- an early operation that may still be open would yield what its slot holds -/
def Inv (P : Program) (ops : Array Oper) (early pure : Nat → Bool) (tp : Nat → Nat) (L : Array Bool) (a : Act) (w : World) : Prop :=
  ∀ (i : Nat) (oi : Oper) (d : Nat), early i = true → pure i = false → ops[i]? = some oi → oi.dst = some d → L.getD i false = true → (∀ j, L.getD j false = true → early j = false → (tp j).testBit i = false) →
    (execOp a.eval oi).run P w = .ok (.value (a.tmps.getD d undef)) w
def Vt (P : Program) (ops : Array Oper) (Q : Exit → Act → World → Prop) (early pure : Nat → Bool) (tp : Nat → Nat) : Nat → Array Bool → Act → World → Prop
  | 0, L, a, w => Inv P ops early pure tp L a w ∧ Region.ready .any ops L = [] ∧ Q .normal a w
  | n + 1, L, a, w =>
    (∃ i oi v, i ∈ Region.ready .any ops L ∧ early i = true ∧ ops[i]? = some oi ∧ (∀ d, oi.dst = some d → d < a.tmps.size) ∧ (pure i = true → ∀ w, (execOp a.eval oi).run P w = .ok (.value v) w) ∧ Vt P ops Q early pure tp n (L.setIfInBounds i true) (a.put oi.dst v) w) ∨
     (Inv P ops early pure tp L a w ∧ (Region.ready .any ops L = [] → Q .normal a w) ∧ ∀ i ∈ Region.ready .any ops L, wpOp P ops Q i (Vt P ops Q early pure tp n (L.setIfInBounds i true)) a w)
structure Rel (P : Program) (ops : Array Oper) (early pure : Nat → Bool) (L L' : Array Bool) (a a' : Act) : Prop where
  size : L.size = ops.size
  size' : L'.size = ops.size
  sub : ∀ j, L.getD j false = true → L'.getD j false = true
  old : ∀ j, L'.getD j false = true → L.getD j false = false → early j = true
  closed : Closed ops L
  closed' : Closed ops L'
  off : Off (fun t => ∃ k o, L'.getD k false = true ∧ L.getD k false = false ∧ ops[k]? = some o ∧ o.dst = some t) a a'
  log : ∀ (i : Nat) (oi : Oper) (d : Nat), L'.getD i false = true → L.getD i false = false → pure i = true → ops[i]? = some oi → oi.dst = some d → ∀ w, (execOp a'.eval oi).run P w = .ok (.value (a'.tmps.getD d undef)) w
theorem getD_in {L : Array Bool} {j : Nat} (h : j < L.size) (d d' : Bool) : L.getD j d = L.getD j d' := by
  simp [Array.getD, h]
theorem getD_true {L : Array Bool} {j : Nat} (h : L.getD j false = true) : j < L.size := by
  rcases Nat.lt_or_ge j L.size with h' | h'
  · exact h'
  · simp [Array.getD, Nat.not_lt.2 h'] at h
theorem getD_put {L : Array Bool} {i j : Nat} (hi : i < L.size) : (L.setIfInBounds i true).getD j false = if j = i then true else L.getD j false := by
  by_cases h : j = i
  · subst h
    simp [Array.getD, hi]
  · rw [if_neg h, getD_set_ne false (Ne.symm h)]
theorem ready_in {L : Array Bool} (hL : L.size = ops.size) {i : Nat} (h : i ∈ Region.ready .any ops L) : i < L.size ∧ L.getD i false = false ∧ ∃ o, ops[i]? = some o ∧ ∀ e ∈ o.after, Region.binds .any e = true → L.getD e.on false = true := by
  obtain ⟨h0, o, ho, ha⟩ := mem_ready.1 h
  have hlt : i < L.size := by rw [hL]; exact (Array.getElem?_eq_some_iff.1 ho).1
  exact ⟨hlt, by rw [getD_in hlt false true]; exact h0, o, ho, ha⟩
theorem in_ready {L : Array Bool} {i : Nat} {o : Oper} (hi : i < L.size) (h : L.getD i false = false) (ho : ops[i]? = some o) (ha : ∀ e ∈ o.after, Region.binds .any e = true → L.getD e.on false = true) : i ∈ Region.ready .any ops L :=
  mem_ready.2 ⟨by rw [getD_in hi true false]; exact h, o, ho, ha⟩
theorem all_listed (S : EarlyOk ops early tp) {L : Array Bool} (hL : L.size = ops.size) (hr : Region.ready .any ops L = []) : ∀ j, j < ops.size → L.getD j false = true := by
  intro j
  induction j using Nat.strongRecOn with
  | _ j ih =>
    intro hj
    cases hb : L.getD j false with
    | true => rfl
    | false =>
      exfalso
      have ho : ops[j]? = some ops[j] := by simp [hj]
      have : j ∈ Region.ready .any ops L := in_ready (by rw [hL]; exact hj) hb ho fun e he hbn => by
        have hlt := S.down j _ ho e he hbn
        exact ih e.on hlt (Nat.lt_trans hlt hj)
      rw [hr] at this
      cases this
theorem ready_nil {L : Array Bool} (hL : L.size = ops.size) (h : ∀ j, j < ops.size → L.getD j false = true) : Region.ready .any ops L = [] := by
  cases hr : Region.ready .any ops L with
  | nil => rfl
  | cons i r =>
    obtain ⟨h1, h2, _⟩ := ready_in hL (i := i) (by rw [hr]; exact List.mem_cons_self)
    rw [h i (by rw [← hL]; exact h1)] at h2
    cases h2
theorem Closed.put {L : Array Bool} (h : Closed ops L) {i : Nat} (hL : i < L.size) {o : Oper} (ho : ops[i]? = some o) (ha : ∀ e ∈ o.after, Region.binds .any e = true → L.getD e.on false = true) : Closed ops (L.setIfInBounds i true) := by
  intro j oj hj hl e he hb
  rw [getD_put hL]
  split
  · rfl
  · rw [getD_put hL] at hl
    split at hl
    · rename_i hji
      rw [hji, ho] at hj; cases hj
      exact ha e he hb
    · exact h j oj hj hl e he hb
/-- how many are not listed -/
def left (n : Nat) (L : Array Bool) : Nat := (List.range n).countP fun j => !L.getD j false
theorem left_put {n : Nat} {L : Array Bool} {i : Nat} (hn : i < n) (hi : i < L.size) (h : L.getD i false = false) : left n (L.setIfInBounds i true) < left n L := by
  have key : ∀ l : List Nat, l.countP (fun j => !(L.setIfInBounds i true).getD j false) ≤ l.countP (fun j => !L.getD j false) ∧ (i ∈ l → l.countP (fun j => !(L.setIfInBounds i true).getD j false) < l.countP (fun j => !L.getD j false)) := by
    intro l
    induction l with
    | nil => exact ⟨Nat.le_refl _, fun h => by cases h⟩
    | cons x r ih =>
      obtain ⟨ih1, ih2⟩ := ih
      rw [List.countP_cons, List.countP_cons, getD_put hi]
      by_cases hx : x = i
      · subst hx
        rw [if_pos rfl, h]
        simp only [Bool.not_true, Bool.false_eq_true, if_false, Bool.not_false, if_true]
        exact ⟨by omega, fun _ => by omega⟩
      · rw [if_neg hx]
        refine ⟨by omega, fun hm => ?_⟩
        rcases List.mem_cons.1 hm with e | hm
        · exact absurd e.symm hx
        · have := ih2 hm; omega
  exact (key (List.range n)).2 (List.mem_range.2 hn)
theorem left_zero {n : Nat} {L : Array Bool} (h : left n L = 0) : ∀ j, j < n → L.getD j false = true := by
  intro j hj
  unfold left at h
  rw [List.countP_eq_zero] at h
  have := h j (List.mem_range.2 hj)
  simpa using this
theorem early_ok (S : EarlyOk ops early tp) (hQ : ∀ c a w, ¬ Q (.panic c) a w) : ∀ (k n m : Nat), n + m ≤ k → ∀ (L L' : Array Bool) (a a' : Act) (w : World),
    Vt P ops Q early pure tp n L' a' w → Rel P ops early pure L L' a a' → left ops.size L ≤ m → wpAny P .any ops Q m L a w := by
  intro k
  induction k with
  | zero =>
    intro n m hk L L' a a' w hV hR hm
    have hn : n = 0 := by omega
    have hm0 : m = 0 := by omega
    subst hn; subst hm0
    have hall := left_zero (Nat.le_zero.1 hm)
    have hoff : Off (fun _ => False) a a' := ⟨hR.off.size, fun t _ => hR.off.slot t (by
      rintro ⟨k, o, _, h2, h3, _⟩
      rw [hall k (Array.getElem?_eq_some_iff.1 h3).1] at h2; cases h2), hR.off.defers⟩
    have := hoff.eq
    subst this
    exact ⟨ready_nil hR.size hall, hV.2.2⟩
  | succ k ih =>
    intro n m hk L L' a a' w hV hR hm
    -- what is at the end
    have hend : (∀ j, j < ops.size → L.getD j false = true) → (Region.ready .any ops L' = [] → Q .normal a' w) → Q .normal a w := fun hall hq => by
      have hoff : Off (fun _ => False) a a' := ⟨hR.off.size, fun t _ => hR.off.slot t (by
        rintro ⟨k, o, _, h2, h3, _⟩
        rw [hall k (Array.getElem?_eq_some_iff.1 h3).1] at h2; cases h2), hR.off.defers⟩
      have := hoff.eq
      subst this
      exact hq (ready_nil hR.size' fun j hj => hR.sub j (hall j hj))
    -- an early operation comes
    have hearly : ∀ i ∈ Region.ready .any ops L, L'.getD i false = true → Inv P ops early pure tp L' a' w → ∀ m', (∀ (L2 : Array Bool) (a2 : Act), Rel P ops early pure L2 L' a2 a' → left ops.size L2 ≤ m' → wpAny P .any ops Q m' L2 a2 w) → m = m' + 1 →
        wpOp P ops Q i (wpAny P .any ops Q m' (L.setIfInBounds i true)) a w := by
      intro i hi hl hinv m' next hm'
      obtain ⟨hlt, h0, o, ho, ha⟩ := ready_in hR.size hi
      have he := hR.old i hl h0
      obtain ⟨d, hd⟩ := S.dst i o he ho
      have hrun : (execOp a'.eval o).run P w = .ok (.value (a'.tmps.getD d undef)) w := by
       cases hp : pure i with
       | true => exact hR.log i o d hl h0 hp ho hd w
       | false =>
       exact hinv i o d he hp ho hd hl (fun j hj hje => by
        have hjL : L.getD j false = true := by
          cases hb : L.getD j false with
          | true => rfl
          | false => rw [hR.old j hj hb] at hje; cases hje
        cases hb : (tp j).testBit i with
        | false => rfl
        | true =>
          have := S.tp L hR.closed j hjL i hb
          rw [h0] at this; cases this)
      have hsame : execOp a'.eval o = execOp a.eval o := execOp_off hR.off o (S.nosel i o ho) fun t ht => by
        obtain ⟨k2, ok, h1, h2, h3, h4⟩ := ht
        by_cases hki : k2 = i
        · subst hki
          rw [ho] at h3; cases h3
          exact S.self k2 o t he ho h4
        · rcases S.read k2 ok i o t (hR.old k2 h1 h2) h3 ho h4 (Ne.symm hki) with ⟨e, he', hb, hon⟩ | h
          · have := ha e he' hb
            rw [hon, h2] at this; cases this
          · exact h
      rw [hsame] at hrun
      have hw : Region.wanted o (yielded ops a.tmps) = true := by unfold Region.wanted; rw [S.guard i o he ho]
      have hput : wpAny P .any ops Q m' (L.setIfInBounds i true) (a.put o.dst (a'.tmps.getD d undef)) w := by
        refine next _ _ ⟨by simp [hR.size], hR.size', fun j hj => ?_, fun j hj hjn => ?_, hR.closed.put hlt ho ha, hR.closed', ?_, fun i2 o2 d2 hl2 hn2 hp2 ho2 hd2 w2 => hR.log i2 o2 d2 hl2 (by
            rw [getD_put hlt] at hn2
            split at hn2
            · cases hn2
            · exact hn2) hp2 ho2 hd2 w2⟩ ?_
        · rw [getD_put hlt] at hj
          split at hj
          · rename_i e; rw [e]; exact hl
          · exact hR.sub j hj
        · rw [getD_put hlt] at hjn
          split at hjn
          · cases hjn
          · exact hR.old j hj hjn
        · rw [hd]
          refine ⟨by simp [Act.put, hR.off.size], fun t ht => ?_, hR.off.defers⟩
          simp only [Act.put]
          by_cases e : d = t
          · subst e
            rw [Array.getElem?_setIfInBounds_self]
            split
            · rename_i hdl
              rw [← hR.off.size] at hdl
              simp [hdl]
            · rename_i hdl
              rw [← hR.off.size] at hdl
              simp [Array.getElem?_eq_none (Nat.not_lt.1 hdl)]
          · rw [Array.getElem?_setIfInBounds_ne e]
            refine hR.off.slot t ?_
            rintro ⟨k2, ok, h1, h2, h3, h4⟩
            apply ht
            refine ⟨k2, ok, h1, ?_, h3, h4⟩
            rw [getD_put hlt]
            split
            · rename_i e2
              subst e2
              rw [ho] at h3; cases h3
              rw [hd] at h4; cases h4
              exact absurd rfl e
            · exact h2
        · have := left_put (n := ops.size) (by rw [← hR.size]; exact hlt) hlt h0
          omega
      unfold wpOp
      simp only [ho, hw, if_true, Oper.wp, hrun, Oper.upon]
      exact .inl hput
    -- the shape of the tree
    have main : Inv P ops early pure tp L' a' w → (Region.ready .any ops L' = [] → Q .normal a' w) → (∀ i ∈ Region.ready .any ops L', ∃ n', n' + 1 = n ∧ wpOp P ops Q i (Vt P ops Q early pure tp n' (L'.setIfInBounds i true)) a' w) → wpAny P .any ops Q m L a w := by
      intro hinv hq hstep
      cases m with
      | zero =>
        have hall := left_zero (Nat.le_zero.1 hm)
        exact ⟨ready_nil hR.size hall, hend hall hq⟩
      | succ m' =>
        refine ⟨fun hr => hend (all_listed S hR.size hr) hq, fun i hi => ?_⟩
        obtain ⟨hlt, h0, o, ho, ha⟩ := ready_in hR.size hi
        cases hl : L'.getD i false with
        | true =>
          exact hearly i hi hl hinv m' (fun L2 a2 hR2 hm2 => ih n m' (by omega) L2 L' a2 a' w hV hR2 hm2) rfl
        | false =>
          have hlt' : i < L'.size := by rw [hR.size', ← hR.size]; exact hlt
          have hi' : i ∈ Region.ready .any ops L' := in_ready hlt' hl ho fun e he hb => hR.sub _ (ha e he hb)
          obtain ⟨n', hn', hst⟩ := hstep i hi'
          have hof := wpOp_off ho (fun t ht => by
            obtain ⟨k2, ok, h1, h2, h3, h4⟩ := ht
            have hki : k2 ≠ i := fun e => by rw [e, hl] at h1; cases h1
            rcases S.read k2 ok i o t (hR.old k2 h1 h2) h3 ho h4 (Ne.symm hki) with ⟨e, he', hb, hon⟩ | h
            · have := ha e he' hb
              rw [hon, h2] at this; cases this
            · exact h) (S.nosel i o ho) hQ hR.off hst
          refine wpOp_mono (fun b w' ⟨b', hoff, hchg, hV'⟩ => ih n' m' (by omega) _ (L'.setIfInBounds i true) b b' w' hV' ⟨by simp [hR.size], by simp [hR.size'], fun j hj => ?_, fun j hj hjn => ?_, hR.closed.put hlt ho ha, hR.closed'.put hlt' ho fun e he hb => hR.sub _ (ha e he hb), ?_, fun i2 o2 d2 hl2 hn2 hp2 ho2 hd2 w2 => ?_⟩ ?_) hof
          · rw [getD_put hlt] at hj
            rw [getD_put hlt']
            split
            · rfl
            · rename_i e; rw [if_neg e] at hj; exact hR.sub j hj
          · rw [getD_put hlt'] at hj
            rw [getD_put hlt] at hjn
            split at hjn
            · cases hjn
            · rename_i e; rw [if_neg e] at hj; exact hR.old j hj hjn
          · refine ⟨hoff.size, fun t ht => hoff.slot t ?_, hoff.defers⟩
            rintro ⟨k2, ok, h1, h2, h3, h4⟩
            apply ht
            refine ⟨k2, ok, ?_, ?_, h3, h4⟩
            · rw [getD_put hlt']; split
              · rfl
              · exact h1
            · rw [getD_put hlt]
              split
              · rename_i e; rw [e, hl] at h1; cases h1
              · exact h2
          · have hi2 : i2 ≠ i := fun e => by
              rw [getD_put hlt, if_pos e] at hn2; cases hn2
            rw [getD_put hlt, if_neg hi2] at hn2
            rw [getD_put hlt', if_neg hi2] at hl2
            have he2 := hR.old i2 hl2 hn2
            have hnd : o.dst ≠ some d2 := by
              have := S.uniq i2 o2 i o he2 ho2 ho (Ne.symm hi2)
              rw [hd2] at this; exact this
            have hx : execOp b'.eval o2 = execOp a'.eval o2 := hchg.execOp o2 (S.nosel i2 o2 ho2) fun t ht => by
              rcases S.args i2 o2 i o t he2 ho2 ho ht (Ne.symm hi2) with ⟨e, he', hb, hon⟩ | h
              · have := hR.closed' i2 o2 ho2 hl2 e he' hb
                rw [hon, hl] at this; cases this
              · exact h
            rw [hx, Array.getD_eq_getD_getElem?, hchg.slot d2 hnd, ← Array.getD_eq_getD_getElem?]
            exact hR.log i2 o2 d2 hl2 hn2 hp2 ho2 hd2 w2
          · have := left_put (n := ops.size) (by rw [← hR.size]; exact hlt) hlt h0
            omega
    cases n with
    | zero =>
      obtain ⟨hinv, hr, hq⟩ := hV
      exact main hinv (fun _ => hq) (fun i hi => by rw [hr] at hi; cases hi)
    | succ n =>
      rcases id hV with ⟨i, oi, v, hi, he, ho, hdl, hpv, hV'⟩ | ⟨hinv, hq, hst⟩
      · obtain ⟨hlt', h0', o, ho', ha'⟩ := ready_in hR.size' hi
        rw [ho] at ho'
        cases ho'
        have h0 : L.getD i false = false := by
          cases hb : L.getD i false with
          | false => rfl
          | true => rw [hR.sub i hb] at h0'; cases h0'
        refine ih n m (by omega) L (L'.setIfInBounds i true) a (a'.put oi.dst v) w hV' ⟨hR.size, by simp [hR.size'], fun j hj => ?_, fun j hj hjn => ?_, hR.closed, hR.closed'.put hlt' ho ha', ?_, fun i2 o2 d2 hl2 hn2 hp2 ho2 hd2 w2 => ?_⟩ hm
        · rw [getD_put hlt']; split
          · rfl
          · exact hR.sub j hj
        · rw [getD_put hlt'] at hj
          split at hj
          · rename_i e; rw [e]; exact he
          · exact hR.old j hj hjn
        · obtain ⟨d, hd⟩ := S.dst i oi he ho
          rw [hd]
          refine ⟨by simp [Act.put, hR.off.size], fun t ht => ?_, hR.off.defers⟩
          simp only [Act.put]
          have hne : d ≠ t := fun e => ht ⟨i, oi, by rw [getD_put hlt', if_pos rfl], h0, ho, by rw [hd, e]⟩
          rw [Array.getElem?_setIfInBounds_ne hne]
          refine hR.off.slot t ?_
          rintro ⟨k2, ok, h1, h2, h3, h4⟩
          apply ht
          refine ⟨k2, ok, ?_, h2, h3, h4⟩
          rw [getD_put hlt']; split
          · rfl
          · exact h1
        · obtain ⟨d, hd⟩ := S.dst i oi he ho
          have hdlt := hdl d hd
          have hchg : Chg oi.dst a' (a'.put oi.dst v) := Chg.put a' oi.dst v a'.defers
          by_cases hi2 : i2 = i
          · subst hi2
            rw [ho] at ho2; cases ho2
            rw [hd] at hd2; cases hd2
            have hx : execOp (a'.put oi.dst v).eval oi = execOp a'.eval oi := hchg.execOp oi (S.nosel i2 oi ho) fun t ht => S.self i2 oi t he ho ht
            rw [hx, hpv hp2 w2, hd]
            simp [Act.put, Array.getD, hdlt]
          · rw [getD_put hlt', if_neg hi2] at hl2
            have he2 := hR.old i2 hl2 hn2
            have hnd : oi.dst ≠ some d2 := by
              have := S.uniq i2 o2 i oi he2 ho2 ho (Ne.symm hi2)
              rw [hd2] at this; exact this
            have hx : execOp (a'.put oi.dst v).eval o2 = execOp a'.eval o2 := hchg.execOp o2 (S.nosel i2 o2 ho2) fun t ht => by
              rcases S.args i2 o2 i oi t he2 ho2 ho ht (Ne.symm hi2) with ⟨e, he', hb, hon⟩ | h
              · have := hR.closed' i2 o2 ho2 hl2 e he' hb
                rw [hon, h0'] at this; cases this
              · exact h
            rw [hx, Array.getD_eq_getD_getElem?, hchg.slot d2 hnd, ← Array.getD_eq_getD_getElem?]
            exact hR.log i2 o2 d2 hl2 hn2 hp2 ho2 hd2 w2
      · exact main hinv hq fun i hi => ⟨n, rfl, hst i hi⟩
/-- a region by its virtual tree -/
theorem early_any (S : EarlyOk ops early tp) (hQ : ∀ c a w, ¬ Q (.panic c) a w) {n : Nat} {a : Act} {w : World} (h : Vt P ops Q early pure tp n (Array.replicate ops.size false) a w) : wpAny P .any ops Q ops.size (Array.replicate ops.size false) a w := by
  have hf : ∀ j, (Array.replicate ops.size false).getD j false = false := fun j => by simp [Array.getD]
  refine early_ok S hQ (n + ops.size) n ops.size (Nat.le_refl _) _ _ a a w h ⟨by simp, by simp, fun j hj => hj, fun j hj => (by rw [hf j] at hj; cases hj), fun j o _ hj => (by rw [hf j] at hj; cases hj), fun j o _ hj => (by rw [hf j] at hj; cases hj), ⟨rfl, fun _ _ => rfl, rfl⟩, fun i2 _ _ hl2 => (by rw [hf i2] at hl2; cases hl2)⟩ ?_
  have := List.countP_le_length (p := fun j => !(Array.replicate ops.size false).getD j false) (l := List.range ops.size)
  rw [List.length_range] at this
  exact this
end
end Go.Sx
