/- The executor's frames: trees, so that a slot is found in few steps. -/
import Derived.Test.YthhjijadllpcpaaSxT
namespace Go.Sx
open Go

inductive FT where
  | tip
  | node (v : SV) (l r : FT)
  deriving DecidableEq, Repr, Inhabited

noncomputable def FT.get (t : FT) : Nat → SV :=
  FT.rec (motive := fun _ => Nat → SV) (fun _ => .undef)
    (fun v _ _ gl gr i => cond (Nat.beq i 0) v (cond (Nat.beq (Nat.mod i 2) 1) (gl (Nat.div i 2)) (gr (Nat.sub (Nat.div i 2) 1)))) t
noncomputable def FT.has (t : FT) : Nat → Bool :=
  FT.rec (motive := fun _ => Nat → Bool) (fun _ => false)
    (fun _ _ _ gl gr i => cond (Nat.beq i 0) true (cond (Nat.beq (Nat.mod i 2) 1) (gl (Nat.div i 2)) (gr (Nat.sub (Nat.div i 2) 1)))) t
noncomputable def FT.set (t : FT) : Nat → SV → FT :=
  FT.rec (motive := fun _ => Nat → SV → FT) (fun _ _ => .tip)
    (fun v l r sl sr i x => cond (Nat.beq i 0) (.node x l r) (cond (Nat.beq (Nat.mod i 2) 1) (.node v (sl (Nat.div i 2) x) r) (.node v l (sr (Nat.sub (Nat.div i 2) 1) x)))) t
/-- the same, made at once -/
noncomputable def FT.setK {α : Type} (t : FT) : Nat → SV → (FT → α) → α :=
  FT.rec (motive := fun _ => Nat → SV → (FT → α) → α) (fun _ _ k => k .tip)
    (fun v l r sl sr i x k => cond (Nat.beq i 0) (k (.node x l r)) (cond (Nat.beq (Nat.mod i 2) 1) (sl (Nat.div i 2) x fun l' => k (.node v l' r)) (sr (Nat.sub (Nat.div i 2) 1) x fun r' => k (.node v l r')))) t
theorem FT.get_tip (i : Nat) : FT.tip.get i = .undef := rfl
theorem FT.get_node (v : SV) (l r : FT) (i : Nat) : (FT.node v l r).get i = if i = 0 then v else if i % 2 = 1 then l.get (i / 2) else r.get (i / 2 - 1) := by
  show cond (Nat.beq i 0) v (cond (Nat.beq (i % 2) 1) (l.get (i / 2)) (r.get (i / 2 - 1))) = _
  by_cases h : i = 0
  · subst h; rfl
  · have h1 : Nat.beq i 0 = false := (by cases i with | zero => exact absurd rfl h | succ n => rfl)
    rw [h1, if_neg h]
    by_cases h2 : i % 2 = 1
    · rw [if_pos h2, h2]; rfl
    · rw [if_neg h2, show i % 2 = 0 by omega]; rfl
theorem FT.has_node (v : SV) (l r : FT) (i : Nat) : (FT.node v l r).has i = if i = 0 then true else if i % 2 = 1 then l.has (i / 2) else r.has (i / 2 - 1) := by
  show cond (Nat.beq i 0) true (cond (Nat.beq (i % 2) 1) (l.has (i / 2)) (r.has (i / 2 - 1))) = _
  by_cases h : i = 0
  · subst h; rfl
  · have h1 : Nat.beq i 0 = false := (by cases i with | zero => exact absurd rfl h | succ n => rfl)
    rw [h1, if_neg h]
    by_cases h2 : i % 2 = 1
    · rw [if_pos h2, h2]; rfl
    · rw [if_neg h2, show i % 2 = 0 by omega]; rfl
theorem FT.set_node (v : SV) (l r : FT) (i : Nat) (x : SV) : (FT.node v l r).set i x = if i = 0 then .node x l r else if i % 2 = 1 then .node v (l.set (i / 2) x) r else .node v l (r.set (i / 2 - 1) x) := by
  show cond (Nat.beq i 0) (FT.node x l r) (cond (Nat.beq (i % 2) 1) (.node v (l.set (i / 2) x) r) (.node v l (r.set (i / 2 - 1) x))) = _
  by_cases h : i = 0
  · subst h; rfl
  · have h1 : Nat.beq i 0 = false := (by cases i with | zero => exact absurd rfl h | succ n => rfl)
    rw [h1, if_neg h]
    by_cases h2 : i % 2 = 1
    · rw [if_pos h2, h2]; rfl
    · rw [if_neg h2, show i % 2 = 0 by omega]; rfl
theorem FT.setK_eq {α : Type} : ∀ (t : FT) (i : Nat) (x : SV) (k : FT → α), t.setK i x k = k (t.set i x) := by
  intro t
  induction t with
  | tip => intro i x k; rfl
  | node v l r ihl ihr =>
    intro i x k
    show cond (Nat.beq i 0) (k (.node x l r)) (cond (Nat.beq (i % 2) 1) (l.setK (i / 2) x fun l' => k (.node v l' r)) (r.setK (i / 2 - 1) x fun r' => k (.node v l r'))) = _
    rw [ihl, ihr, set_node]
    by_cases h : i = 0
    · subst h; rfl
    · have h1 : Nat.beq i 0 = false := (by cases i with | zero => exact absurd rfl h | succ n => rfl)
      rw [h1, if_neg h]
      by_cases h2 : i % 2 = 1
      · rw [if_pos h2, h2]; rfl
      · rw [if_neg h2, show i % 2 = 0 by omega]; rfl
theorem FT.has_set : ∀ (t : FT) (d : Nat) (x : SV) (i : Nat), (t.set d x).has i = t.has i := by
  intro t
  induction t with
  | tip => intro d x i; rfl
  | node v l r ihl ihr =>
    intro d x i
    rw [set_node]
    split
    · rw [has_node, has_node]
    · split
      · rw [has_node, has_node, ihl]
      · rw [has_node, has_node, ihr]
theorem FT.get_set : ∀ (t : FT) (d : Nat) (x : SV) (i : Nat), (t.set d x).get i = if i = d ∧ t.has d = true then x else t.get i := by
  intro t
  induction t with
  | tip =>
    intro d x i
    show SV.undef = if _ ∧ false = true then x else SV.undef
    simp
  | node v l r ihl ihr =>
    intro d x i
    rw [set_node, has_node]
    by_cases hd : d = 0
    · subst hd
      simp only [if_true]
      rw [get_node, get_node]
      by_cases hi : i = 0
      · subst hi; simp
      · simp [hi]
    · rw [if_neg hd, if_neg hd]
      by_cases hd2 : d % 2 = 1
      · rw [if_pos hd2, if_pos hd2, get_node, get_node, ihl]
        by_cases hi : i = 0
        · subst hi; simp; omega
        · rw [if_neg hi, if_neg hi]
          by_cases hi2 : i % 2 = 1
          · rw [if_pos hi2, if_pos hi2]
            by_cases he : i = d
            · subst he; simp
            · have : i / 2 ≠ d / 2 := by omega
              simp [he, this]
          · rw [if_neg hi2, if_neg hi2]
            have : i ≠ d := by intro e; subst e; exact hi2 hd2
            simp [this]
      · rw [if_neg hd2, if_neg hd2, get_node, get_node, ihr]
        by_cases hi : i = 0
        · subst hi; simp; omega
        · rw [if_neg hi, if_neg hi]
          by_cases hi2 : i % 2 = 1
          · rw [if_pos hi2, if_pos hi2]
            have : i ≠ d := by intro e; subst e; exact hd2 hi2
            simp [this]
          · rw [if_neg hi2, if_neg hi2]
            by_cases he : i = d
            · subst he; simp
            · have : i / 2 - 1 ≠ d / 2 - 1 := by omega
              simp [he, this]
theorem FT.get_none : ∀ (t : FT) (i : Nat), t.has i = false → t.get i = .undef := by
  intro t
  induction t with
  | tip => intro i _; rfl
  | node v l r ihl ihr =>
    intro i h
    rw [has_node] at h
    rw [get_node]
    split
    · rename_i h0; simp [h0] at h
    · rename_i h0
      rw [if_neg h0] at h
      split
      · rename_i h1; rw [if_pos h1] at h; exact ihl _ h
      · rename_i h1; rw [if_neg h1] at h; exact ihr _ h
/-- one slot ahead of all -/
def FT.cons (x : SV) : FT → FT
  | .tip => .node x .tip .tip
  | .node y l r => .node x (FT.cons y r) l
theorem FT.cons_get : ∀ (t : FT) (x : SV) (i : Nat), (FT.cons x t).get i = if i = 0 then x else t.get (i - 1) := by
  intro t
  induction t with
  | tip =>
    intro x i
    rw [FT.cons, get_node]
    split
    · rfl
    · rw [get_tip, get_tip]; split <;> rfl
  | node y l r ihl ihr =>
    intro x i
    rw [FT.cons, get_node, ihr]
    by_cases h0 : i = 0
    · simp [h0]
    · rw [if_neg h0, if_neg h0, get_node]
      by_cases h1 : i % 2 = 1
      · rw [if_pos h1]
        by_cases h2 : i / 2 = 0
        · rw [if_pos h2, if_pos (by omega)]
        · rw [if_neg h2, if_neg (by omega), if_neg (by omega)]
          congr 1; omega
      · rw [if_neg h1, if_neg (by omega), if_pos (by omega)]
        congr 1; omega
theorem FT.cons_has : ∀ (t : FT) (x : SV) (i : Nat), (FT.cons x t).has i = if i = 0 then true else t.has (i - 1) := by
  intro t
  induction t with
  | tip =>
    intro x i
    rw [FT.cons, has_node]
    split
    · rfl
    · split <;> rfl
  | node y l r ihl ihr =>
    intro x i
    rw [FT.cons, has_node, ihr]
    by_cases h0 : i = 0
    · simp [h0]
    · rw [if_neg h0, if_neg h0, has_node]
      by_cases h1 : i % 2 = 1
      · rw [if_pos h1]
        by_cases h2 : i / 2 = 0
        · rw [if_pos h2, if_pos (by omega)]
        · rw [if_neg h2, if_neg (by omega), if_neg (by omega)]
          congr 1; omega
      · rw [if_neg h1, if_neg (by omega), if_pos (by omega)]
        congr 1; omega
/-- n and n + 1 slots of nothing -/
def FT.mk2 : Nat → Nat → FT × FT
  | 0, _ => (.tip, .node .undef .tip .tip)
  | k + 1, n => if n = 0 then (.tip, .node .undef .tip .tip) else
    if n % 2 = 1 then let p := FT.mk2 k (n / 2); (.node .undef p.1 p.1, .node .undef p.2 p.1)
    else let p := FT.mk2 k (n / 2 - 1); (.node .undef p.2 p.1, .node .undef p.2 p.2)
theorem FT.mk2_has : ∀ (k n : Nat), n < 2 ^ k → (∀ i, (FT.mk2 k n).1.has i = decide (i < n)) ∧ ∀ i, (FT.mk2 k n).2.has i = decide (i < n + 1) := by
  have one : ∀ i : Nat, (FT.node .undef .tip .tip).has i = decide (i < 0 + 1) := by
    intro i
    rw [FT.has_node]
    split
    · rename_i h; simp [h]
    · rename_i h
      have : ¬ i < 0 + 1 := by omega
      simp only [this, decide_false]
      split <;> rfl
  intro k
  induction k with
  | zero =>
    intro n h
    have : n = 0 := by simpa using h
    subst this
    exact ⟨fun i => by simp [FT.mk2, FT.has], one⟩
  | succ k ih =>
    intro n h
    rw [Nat.pow_succ] at h
    unfold FT.mk2
    split
    · rename_i h0
      subst h0
      exact ⟨fun i => by simp [FT.has], one⟩
    · rename_i h0
      split
      · rename_i h1
        obtain ⟨p, q⟩ := ih (n / 2) (by omega)
        refine ⟨fun i => ?_, fun i => ?_⟩
        · dsimp only; rw [FT.has_node, p, p]
          split
          · simp; omega
          · split <;> (rw [decide_eq_decide]; omega)
        · dsimp only; rw [FT.has_node, p, q]
          split
          · simp; omega
          · split <;> (rw [decide_eq_decide]; omega)
      · rename_i h1
        obtain ⟨p, q⟩ := ih (n / 2 - 1) (by omega)
        refine ⟨fun i => ?_, fun i => ?_⟩
        · dsimp only; rw [FT.has_node, p, q]
          split
          · simp; omega
          · split <;> (rw [decide_eq_decide]; omega)
        · dsimp only; rw [FT.has_node, q, q]
          split
          · simp; omega
          · split <;> (rw [decide_eq_decide]; omega)
theorem FT.mk2_get : ∀ (k n i : Nat), (FT.mk2 k n).1.get i = .undef ∧ (FT.mk2 k n).2.get i = .undef := by
  have one : ∀ i : Nat, (FT.node .undef .tip .tip).get i = .undef := by
    intro i
    rw [FT.get_node]
    split
    · rfl
    · split <;> rfl
  intro k
  induction k with
  | zero => intro n i; exact ⟨rfl, one i⟩
  | succ k ih =>
    intro n i
    unfold FT.mk2
    split
    · exact ⟨rfl, one i⟩
    · split
      · refine ⟨?_, ?_⟩ <;> (dsimp only; rw [FT.get_node]; split <;> first | rfl | (split <;> first | exact (ih _ _).1 | exact (ih _ _).2))
      · refine ⟨?_, ?_⟩ <;> (dsimp only; rw [FT.get_node]; split <;> first | rfl | (split <;> first | exact (ih _ _).1 | exact (ih _ _).2))

structure Fr where
  n : Nat
  t : FT
  deriving DecidableEq, Inhabited
noncomputable def Fr.get (f : Fr) (i : Nat) : SV := f.t.get i
noncomputable def Fr.toL (f : Fr) : List SV := (List.range f.n).map f.t.get
def Fr.WF (f : Fr) : Prop := ∀ i, f.t.has i = decide (i < f.n)
theorem Fr.get_eq {f : Fr} (h : f.WF) (i : Nat) : f.get i = f.toL.getD i .undef := by
  unfold Fr.get Fr.toL
  rw [List.getD_eq_getElem?_getD, List.getElem?_map]
  by_cases hi : i < f.n
  · simp [hi]
  · rw [List.getElem?_eq_none (by simpa using hi)]
    exact FT.get_none _ _ (by rw [h]; simpa using hi)
noncomputable def Fr.set (f : Fr) (d : Nat) (v : SV) : Fr := ⟨f.n, f.t.set d v⟩
theorem Fr.set_wf {f : Fr} (h : f.WF) (d : Nat) (v : SV) : (f.set d v).WF := by
  intro i
  show (f.t.set d v).has i = _
  rw [FT.has_set]; exact h i
theorem Fr.toL_len (f : Fr) : f.toL.length = f.n := by simp [Fr.toL]
theorem Fr.toL_get {f : Fr} {i : Nat} (h : i < f.n) : f.toL[i]? = some (f.t.get i) := by simp [Fr.toL, h]
theorem Fr.toL_set {f : Fr} (h : f.WF) (d : Nat) (v : SV) : (f.set d v).toL = f.toL.set d v := by
  refine List.ext_getElem? fun i => ?_
  rw [List.getElem?_set, Fr.toL_len]
  have hn : (f.set d v).n = f.n := rfl
  by_cases hi : i < f.n
  · rw [Fr.toL_get (by rw [hn]; exact hi), Fr.toL_get hi]
    show some ((f.t.set d v).get i) = _
    rw [FT.get_set, h d]
    by_cases he : d = i
    · subst he; simp [hi]
    · have : ¬ i = d := fun e => he e.symm
      simp [he, this]
  · rw [List.getElem?_eq_none (by rw [Fr.toL_len, hn]; omega)]
    split
    · rename_i he; subst he; rw [if_neg hi]
    · rw [List.getElem?_eq_none (by rw [Fr.toL_len]; omega)]
noncomputable def Fr.setK {α : Type} (f : Fr) (d : Nat) (v : SV) (k : Fr → α) : α := match f with
  | ⟨n, t⟩ => t.setK d v fun t => k ⟨n, t⟩
theorem Fr.setK_eq {α : Type} (f : Fr) (d : Nat) (v : SV) (k : Fr → α) : f.setK d v k = k (f.set d v) := by
  obtain ⟨n, t⟩ := f
  exact FT.setK_eq t d v fun t => k ⟨n, t⟩
/-- a frame of a list -/
def FT.ofL (l : List SV) : FT := l.foldr FT.cons .tip
def Fr.ofL (l : List SV) : Fr := ⟨l.length, FT.ofL l⟩
theorem FT.ofL_get : ∀ (l : List SV) (i : Nat), (FT.ofL l).get i = l.getD i .undef := by
  intro l
  induction l with
  | nil => intro i; rfl
  | cons x r ih =>
    intro i
    show (FT.cons x (FT.ofL r)).get i = _
    rw [FT.cons_get, ih]
    cases i <;> simp
theorem FT.ofL_has : ∀ (l : List SV) (i : Nat), (FT.ofL l).has i = decide (i < l.length) := by
  intro l
  induction l with
  | nil => intro i; rfl
  | cons x r ih =>
    intro i
    show (FT.cons x (FT.ofL r)).has i = _
    rw [FT.cons_has, ih]
    cases i <;> simp
theorem Fr.ofL_wf (l : List SV) : (Fr.ofL l).WF := FT.ofL_has l
theorem Fr.ofL_toL (l : List SV) : (Fr.ofL l).toL = l := by
  refine List.ext_getElem? fun i => ?_
  by_cases hi : i < l.length
  · rw [Fr.toL_get (show i < (Fr.ofL l).n from hi)]
    show some ((FT.ofL l).get i) = _
    rw [FT.ofL_get, List.getD_eq_getElem?_getD, List.getElem?_eq_getElem hi]; rfl
  · rw [List.getElem?_eq_none (by rw [Fr.toL_len]; exact Nat.le_of_not_lt hi), List.getElem?_eq_none (by omega)]
/-- slots put one after the other -/
noncomputable def FT.putAll {α : Type} (l : List SV) : Nat → FT → (FT → α) → α :=
  List.rec (motive := fun _ => Nat → FT → (FT → α) → α) (fun _ t k => k t) (fun x _ ih i t k => t.setK i x fun t => ih (Nat.succ i) t k) l
/-- a call's frame: its arguments, then nothing -/
noncomputable def Fr.start {α : Type} (args : List SV) (n : Nat) (k : Fr → α) : α := FT.putAll args 0 (FT.mk2 20 n).1 fun t => k ⟨n, t⟩
theorem FT.putAll_eq {α : Type} : ∀ (l : List SV) (i : Nat) (t : FT) (k : FT → α), ∃ t', FT.putAll l i t k = k t' ∧ (∀ j, t'.has j = t.has j) ∧ ∀ j, t'.get j = if i ≤ j ∧ j < i + l.length ∧ t.has j = true then l.getD (j - i) .undef else t.get j := by
  intro l
  induction l with
  | nil => intro i t k; exact ⟨t, rfl, fun _ => rfl, fun j => by rw [if_neg (by simp; omega)]⟩
  | cons x r ih =>
    intro i t k
    obtain ⟨t', h1, h2, h3⟩ := ih (i + 1) (t.set i x) k
    refine ⟨t', ?_, fun j => by rw [h2, FT.has_set], fun j => ?_⟩
    · show t.setK i x (fun t => FT.putAll r (i + 1) t k) = _
      rw [FT.setK_eq]; exact h1
    · rw [h3, FT.has_set, FT.get_set]
      by_cases hj : j = i
      · subst hj
        rw [if_neg (by omega)]
        by_cases hh : t.has j = true
        · simp [hh]
        · simp [hh]
      · by_cases hr : i + 1 ≤ j ∧ j < i + 1 + r.length ∧ t.has j = true
        · rw [if_pos hr, if_pos ⟨by omega, by simp; omega, hr.2.2⟩]
          obtain ⟨q, hq⟩ : ∃ q, j - i = q + 1 := ⟨j - i - 1, by omega⟩
          rw [hq, show j - (i + 1) = q by omega]
          simp
        · rw [if_neg hr, if_neg (by simp [hj]), if_neg (by simp only [List.length_cons]; intro hc; exact hr ⟨by omega, by omega, hc.2.2⟩)]
theorem Fr.start_eq {α : Type} (args : List SV) (n : Nat) (hn : n < 2 ^ 20) (hl : args.length ≤ n) (k : Fr → α) : ∃ f : Fr, Fr.start args n k = k f ∧ f.WF ∧ f.toL = args ++ List.replicate (n - args.length) .undef := by
  obtain ⟨t', h1, h2, h3⟩ := FT.putAll_eq args 0 (FT.mk2 20 n).1 (fun t => k ⟨n, t⟩)
  refine ⟨⟨n, t'⟩, h1, fun i => by show t'.has i = _; rw [h2, (FT.mk2_has 20 n hn).1 i], ?_⟩
  refine List.ext_getElem? fun i => ?_
  by_cases hi : i < n
  · rw [Fr.toL_get (show i < (⟨n, t'⟩ : Fr).n from hi)]
    show some (t'.get i) = _
    rw [h3, (FT.mk2_has 20 n hn).1 i, (FT.mk2_get 20 n i).1]
    by_cases ha : i < args.length
    · rw [if_pos ⟨by omega, by omega, by simpa using hi⟩, List.getElem?_append_left ha, Nat.sub_zero, List.getD_eq_getElem?_getD, List.getElem?_eq_getElem ha]; rfl
    · rw [if_neg (by omega), List.getElem?_append_right (by omega), List.getElem?_replicate, if_pos (by omega)]
  · rw [List.getElem?_eq_none (by rw [Fr.toL_len]; exact Nat.le_of_not_lt hi), List.getElem?_eq_none (by simp; omega)]
noncomputable def FT.all (p : SV → Bool) (t : FT) : Bool :=
  FT.rec (motive := fun _ => Bool) true (fun v _ _ bl br => p v && bl && br) t
theorem FT.all_get {p : SV → Bool} (hu : p .undef = true) : ∀ (t : FT), t.all p = true → ∀ i, p (t.get i) = true := by
  intro t
  induction t with
  | tip => intro _ i; exact hu
  | node v l r ihl ihr =>
    intro h i
    have h' : (p v && l.all p && r.all p) = true := h
    simp only [Bool.and_eq_true] at h'
    rw [FT.get_node]
    split
    · exact h'.1.1
    · split
      · exact ihl h'.1.2 _
      · exact ihr h'.2 _
theorem Fr.all_mem {p : SV → Bool} (hu : p .undef = true) {f : Fr} (h : f.t.all p = true) : ∀ v ∈ f.toL, p v = true := by
  intro v hv
  obtain ⟨i, _, rfl⟩ := List.mem_map.1 hv
  exact FT.all_get hu f.t h i
end Go.Sx
