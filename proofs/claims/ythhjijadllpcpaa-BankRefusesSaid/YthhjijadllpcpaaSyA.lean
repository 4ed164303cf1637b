/- The executor made fast, 1: ways by continuations; eliminators with closed arms; slots by paths. -/
import Derived.Test.YthhjijadllpcpaaSxZb
namespace Go.Sx
open Go

/-- what comes of a piece of code -/
abbrev R := Option (List ((SX × Fr) × Mem))
def cat {α : Type} (a b : Option (List α)) : Option (List α) := match a, b with
  | some x, some y => some (x ++ y)
  | _, _ => none
theorem gather_cat {α β : Type} (f : α → X β) (p : α × Mem) (l : List (α × Mem)) : gather f (p :: l) = cat (f p.1 p.2) (gather f l) := by
  cases l with
  | nil => rw [gather_one, gather_nil]; cases f p.1 p.2 <;> simp [cat]
  | cons q l =>
    rw [gather_cons]
    cases f p.1 p.2 with
    | none => rfl
    | some x => cases gather f (q :: l) <;> rfl
theorem cat_assoc {α : Type} (a b c : Option (List α)) : cat (cat a b) c = cat a (cat b c) := by
  cases a <;> cases b <;> cases c <;> simp [cat]
theorem gather_append {α β : Type} (f : α → X β) : ∀ (l1 l2 : List (α × Mem)), gather f (l1 ++ l2) = cat (gather f l1) (gather f l2)
  | [], l2 => by rw [gather_nil]; cases h : gather f l2 <;> simp [cat, h]
  | p :: l1, l2 => by rw [List.cons_append, gather_cat, gather_cat, gather_append f l1 l2, cat_assoc]
noncomputable def bindR {α : Type} (r : Option (List (α × Mem))) (k : α → Mem → R) : R :=
  Option.rec (motive := fun _ => (α → Mem → R) → R) (fun _ => none) (fun l k => gather (β := SX × Fr) k l) r k
theorem bindR_none {α : Type} (k : α → Mem → R) : bindR none k = none := rfl
theorem bindR_some {α : Type} (l : List (α × Mem)) (k : α → Mem → R) : bindR (some l) k = gather (β := SX × Fr) k l := rfl
theorem bindR_one {α : Type} (a : α) (m : Mem) (k : α → Mem → R) : bindR (some [(a, m)]) k = k a m := rfl
theorem bindR_pure {α : Type} (a : α) (m : Mem) (k : α → Mem → R) : bindR (X.pure a m) k = k a m := rfl
theorem bindR_X {α : Type} (k : α → Mem → R) (x : X α) (m : Mem) : bindR (x m) k = X.bind x k m := by
  unfold X.bind bindR
  cases x m <;> rfl
theorem bindR_cat {α : Type} (a b : Option (List (α × Mem))) (k : α → Mem → R) : bindR (cat a b) k = cat (bindR a k) (bindR b k) := by
  cases a with
  | none => rfl
  | some x =>
    cases b with
    | none => simp only [cat, bindR_none, bindR_some]; cases gather (β := SX × Fr) k x <;> rfl
    | some y => simp only [cat, bindR_some, gather_append]
theorem bindR_gather {α β : Type} (f : α → X β) (k : β → Mem → R) : ∀ l : List (α × Mem), bindR (gather f l) k = gather (β := SX × Fr) (fun a m => bindR (f a m) k) l
  | [] => rfl
  | p :: l => by rw [gather_cat, gather_cat, bindR_cat, bindR_gather f k l]
theorem bindR_bind {α β : Type} (x : X α) (f : α → X β) (m : Mem) (k : β → Mem → R) : bindR (X.bind x f m) k = bindR (x m) fun a m => bindR (f a m) k := by
  unfold X.bind
  cases h : x m with
  | none => rfl
  | some l => exact bindR_gather f k l
theorem bindR_map {α β : Type} (g : α → β) (k : β → Mem → R) : ∀ (l : List (α × Mem)), bindR (some (l.map fun p => (g p.1, p.2))) k = bindR (some l) fun a m => k (g a) m
  | [] => rfl
  | p :: l => by
    simp only [List.map_cons, bindR_some, gather_cat]
    have := bindR_map g k l
    simp only [bindR_some] at this
    rw [this]

/- which arm: the arms are closed -/
noncomputable def onInt (v : SV) (f : IntKind → IE → R) (g : R) : R :=
  SV.rec (motive := fun _ => (IntKind → IE → R) → R → R) (fun _ g => g) (fun _ _ g => g) (fun k e f _ => f k e) (fun _ _ g => g) (fun _ g => g) (fun _ _ _ _ g => g) (fun _ g => g) (fun _ _ _ _ _ _ g => g) (fun _ _ _ _ g => g) (fun _ g => g) (fun _ _ _ _ g => g) (fun _ g => g) (fun _ _ _ g => g) (fun _ _ _ g => g) (fun _ g => g) (fun _ _ _ _ _ g => g) (fun _ _ _ _ _ _ g => g) (fun _ _ _ _ _ g => g) (fun _ _ _ _ g => g) v f g
theorem onInt_eq (v : SV) (f : IntKind → IE → R) (g : R) : onInt v f g = match v with | .int k e => f k e | _ => g := by cases v <;> rfl
noncomputable def onBool (v : SV) (f : BE → R) (g : R) : R :=
  SV.rec (motive := fun _ => (BE → R) → R → R) (fun _ g => g) (fun _ _ g => g) (fun _ _ _ g => g) (fun b f _ => f b) (fun _ g => g) (fun _ _ _ _ g => g) (fun _ g => g) (fun _ _ _ _ _ _ g => g) (fun _ _ _ _ g => g) (fun _ g => g) (fun _ _ _ _ g => g) (fun _ g => g) (fun _ _ _ g => g) (fun _ _ _ g => g) (fun _ g => g) (fun _ _ _ _ _ g => g) (fun _ _ _ _ _ _ g => g) (fun _ _ _ _ _ g => g) (fun _ _ _ _ g => g) v f g
theorem onBool_eq (v : SV) (f : BE → R) (g : R) : onBool v f g = match v with | .bool b => f b | _ => g := by cases v <;> rfl
noncomputable def onPtr (v : SV) (f : Nat → Nat → IE → R) (g : R) : R :=
  SV.rec (motive := fun _ => (Nat → Nat → IE → R) → R → R) (fun _ g => g) (fun _ _ g => g) (fun _ _ _ g => g) (fun _ _ g => g) (fun _ g => g) (fun s k off f _ => f s k off) (fun _ g => g) (fun _ _ _ _ _ _ g => g) (fun _ _ _ _ g => g) (fun _ g => g) (fun _ _ _ _ g => g) (fun _ g => g) (fun _ _ _ g => g) (fun _ _ _ g => g) (fun _ g => g) (fun _ _ _ _ _ g => g) (fun _ _ _ _ _ _ g => g) (fun _ _ _ _ _ g => g) (fun _ _ _ _ g => g) v f g
theorem onPtr_eq (v : SV) (f : Nat → Nat → IE → R) (g : R) : onPtr v f g = match v with | .ptr s k off => f s k off | _ => g := by cases v <;> rfl
noncomputable def onSli (v : SV) (f : Nat → Nat → IE → IE → IE → R) (g : R) : R :=
  SV.rec (motive := fun _ => (Nat → Nat → IE → IE → IE → R) → R → R) (fun _ g => g) (fun _ _ g => g) (fun _ _ _ g => g) (fun _ _ g => g) (fun _ g => g) (fun _ _ _ _ g => g) (fun _ g => g) (fun s k off len cap f _ => f s k off len cap) (fun _ _ _ _ g => g) (fun _ g => g) (fun _ _ _ _ g => g) (fun _ g => g) (fun _ _ _ g => g) (fun _ _ _ g => g) (fun _ g => g) (fun _ _ _ _ _ g => g) (fun _ _ _ _ _ _ g => g) (fun _ _ _ _ _ g => g) (fun _ _ _ _ g => g) v f g
theorem onSli_eq (v : SV) (f : Nat → Nat → IE → IE → IE → R) (g : R) : onSli v f g = match v with | .sli s k off len cap => f s k off len cap | _ => g := by cases v <;> rfl
noncomputable def onFn (v : SV) (f : Nat → SV → R) (g : R) : R :=
  SV.rec (motive := fun _ => (Nat → SV → R) → R → R) (fun _ g => g) (fun _ _ g => g) (fun _ _ _ g => g) (fun _ _ g => g) (fun _ g => g) (fun _ _ _ _ g => g) (fun _ g => g) (fun _ _ _ _ _ _ g => g) (fun i caps _ f _ => f i caps) (fun _ g => g) (fun _ _ _ _ g => g) (fun _ g => g) (fun _ _ _ g => g) (fun _ _ _ g => g) (fun _ g => g) (fun _ _ _ _ _ g => g) (fun _ _ _ _ _ _ g => g) (fun _ _ _ _ _ g => g) (fun _ _ _ _ g => g) v f g
theorem onFn_eq (v : SV) (f : Nat → SV → R) (g : R) : onFn v f g = match v with | .fn i caps => f i caps | _ => g := by cases v <;> rfl
noncomputable def onIfc (v : SV) (f : Nat → SV → R) (g : R) : R :=
  SV.rec (motive := fun _ => (Nat → SV → R) → R → R) (fun _ g => g) (fun _ _ g => g) (fun _ _ _ g => g) (fun _ _ g => g) (fun _ g => g) (fun _ _ _ _ g => g) (fun _ g => g) (fun _ _ _ _ _ _ g => g) (fun _ _ _ _ g => g) (fun _ g => g) (fun t v _ f _ => f t v) (fun _ g => g) (fun _ _ _ g => g) (fun _ _ _ g => g) (fun _ g => g) (fun _ _ _ _ _ g => g) (fun _ _ _ _ _ _ g => g) (fun _ _ _ _ _ g => g) (fun _ _ _ _ g => g) v f g
theorem onIfc_eq (v : SV) (f : Nat → SV → R) (g : R) : onIfc v f g = match v with | .ifc t v => f t v | _ => g := by cases v <;> rfl
noncomputable def onAgg (v : SV) (f : SV → R) (g : R) : R :=
  SV.rec (motive := fun _ => (SV → R) → R → R) (fun _ g => g) (fun _ _ g => g) (fun _ _ _ g => g) (fun _ _ g => g) (fun _ g => g) (fun _ _ _ _ g => g) (fun _ g => g) (fun _ _ _ _ _ _ g => g) (fun _ _ _ _ g => g) (fun _ g => g) (fun _ _ _ _ g => g) (fun _ g => g) (fun cs _ f _ => f cs) (fun _ _ _ g => g) (fun _ g => g) (fun _ _ _ _ _ g => g) (fun _ _ _ _ _ _ g => g) (fun _ _ _ _ _ g => g) (fun _ _ _ _ g => g) v f g
theorem onAgg_eq (v : SV) (f : SV → R) (g : R) : onAgg v f g = match v with | .agg cs => f cs | _ => g := by cases v <;> rfl
noncomputable def onTup (v : SV) (f : SV → R) (g : R) : R :=
  SV.rec (motive := fun _ => (SV → R) → R → R) (fun _ g => g) (fun _ _ g => g) (fun _ _ _ g => g) (fun _ _ g => g) (fun _ g => g) (fun _ _ _ _ g => g) (fun _ g => g) (fun _ _ _ _ _ _ g => g) (fun _ _ _ _ g => g) (fun _ g => g) (fun _ _ _ _ g => g) (fun _ g => g) (fun _ _ _ g => g) (fun cs _ f _ => f cs) (fun _ g => g) (fun _ _ _ _ _ g => g) (fun _ _ _ _ _ _ g => g) (fun _ _ _ _ _ g => g) (fun _ _ _ _ g => g) v f g
theorem onTup_eq (v : SV) (f : SV → R) (g : R) : onTup v f g = match v with | .tup cs => f cs | _ => g := by cases v <;> rfl
noncomputable def onCons (v : SV) (f : SV → SV → R) (g : R) : R :=
  SV.rec (motive := fun _ => (SV → SV → R) → R → R) (fun _ g => g) (fun _ _ g => g) (fun _ _ _ g => g) (fun _ _ g => g) (fun _ g => g) (fun _ _ _ _ g => g) (fun _ g => g) (fun _ _ _ _ _ _ g => g) (fun _ _ _ _ g => g) (fun _ g => g) (fun _ _ _ _ g => g) (fun _ g => g) (fun _ _ _ g => g) (fun _ _ _ g => g) (fun _ g => g) (fun a b _ _ f _ => f a b) (fun _ _ _ _ _ _ g => g) (fun _ _ _ _ _ g => g) (fun _ _ _ _ g => g) v f g
theorem onCons_eq (v : SV) (f : SV → SV → R) (g : R) : onCons v f g = match v with | .cons a b => f a b | _ => g := by cases v <;> rfl
noncomputable def onArr (v : SV) (f : IntKind → Nat → IE → SV → R) (g : R) : R :=
  SV.rec (motive := fun _ => (IntKind → Nat → IE → SV → R) → R → R) (fun _ g => g) (fun _ _ g => g) (fun _ _ _ g => g) (fun _ _ g => g) (fun _ g => g) (fun _ _ _ _ g => g) (fun _ g => g) (fun _ _ _ _ _ _ g => g) (fun _ _ _ _ g => g) (fun _ g => g) (fun _ _ _ _ g => g) (fun _ g => g) (fun _ _ _ g => g) (fun _ _ _ g => g) (fun _ g => g) (fun _ _ _ _ _ g => g) (fun k r n ws _ f _ => f k r n ws) (fun _ _ _ _ _ g => g) (fun _ _ _ _ g => g) v f g
theorem onArr_eq (v : SV) (f : IntKind → Nat → IE → SV → R) (g : R) : onArr v f g = match v with | .arr k r n ws => f k r n ws | _ => g := by cases v <;> rfl
noncomputable def onWr (v : SV) (f : IE → IE → SV → R) (g : R) : R :=
  SV.rec (motive := fun _ => (IE → IE → SV → R) → R → R) (fun _ g => g) (fun _ _ g => g) (fun _ _ _ g => g) (fun _ _ g => g) (fun _ g => g) (fun _ _ _ _ g => g) (fun _ g => g) (fun _ _ _ _ _ _ g => g) (fun _ _ _ _ g => g) (fun _ g => g) (fun _ _ _ _ g => g) (fun _ g => g) (fun _ _ _ g => g) (fun _ _ _ g => g) (fun _ g => g) (fun _ _ _ _ _ g => g) (fun _ _ _ _ _ _ g => g) (fun i x ws _ f _ => f i x ws) (fun _ _ _ _ g => g) v f g
theorem onWr_eq (v : SV) (f : IE → IE → SV → R) (g : R) : onWr v f g = match v with | .wr i x ws => f i x ws | _ => g := by cases v <;> rfl
noncomputable def ieLit (v : IE) (f : Int → R) (g : R) : R :=
  IE.rec (motive := fun _ => (Int → R) → R → R) (fun z f _ => f z) (fun _ _ g => g) (fun _ _ _ _ g => g) (fun _ _ _ _ _ g => g) (fun _ _ _ _ _ g => g) (fun _ _ _ _ _ g => g) (fun _ _ _ _ _ g => g) (fun _ _ _ _ _ g => g) (fun _ _ _ _ g => g) (fun _ _ _ _ _ _ _ g => g) (fun _ _ _ _ g => g) (fun _ _ _ _ g => g) (fun _ _ _ _ _ g => g) (fun _ g => g) (fun _ _ _ _ _ _ _ _ _ _ g => g) (fun _ _ g => g) v f g
theorem ieLit_eq (v : IE) (f : Int → R) (g : R) : ieLit v f g = match v with | .lit z => f z | _ => g := by cases v <;> rfl
noncomputable def ieVar (v : IE) (f : Nat → R) (g : R) : R :=
  IE.rec (motive := fun _ => (Nat → R) → R → R) (fun _ _ g => g) (fun i f _ => f i) (fun _ _ _ _ g => g) (fun _ _ _ _ _ g => g) (fun _ _ _ _ _ g => g) (fun _ _ _ _ _ g => g) (fun _ _ _ _ _ g => g) (fun _ _ _ _ _ g => g) (fun _ _ _ _ g => g) (fun _ _ _ _ _ _ _ g => g) (fun _ _ _ _ g => g) (fun _ _ _ _ g => g) (fun _ _ _ _ _ g => g) (fun _ g => g) (fun _ _ _ _ _ _ _ _ _ _ g => g) (fun _ _ g => g) v f g
theorem ieVar_eq (v : IE) (f : Nat → R) (g : R) : ieVar v f g = match v with | .var i => f i | _ => g := by cases v <;> rfl
noncomputable def ieSel (v : IE) (f : Nat → IE → R) (g : R) : R :=
  IE.rec (motive := fun _ => (Nat → IE → R) → R → R) (fun _ _ g => g) (fun _ _ g => g) (fun r i _ f _ => f r i) (fun _ _ _ _ _ g => g) (fun _ _ _ _ _ g => g) (fun _ _ _ _ _ g => g) (fun _ _ _ _ _ g => g) (fun _ _ _ _ _ g => g) (fun _ _ _ _ g => g) (fun _ _ _ _ _ _ _ g => g) (fun _ _ _ _ g => g) (fun _ _ _ _ g => g) (fun _ _ _ _ _ g => g) (fun _ g => g) (fun _ _ _ _ _ _ _ _ _ _ g => g) (fun _ _ g => g) v f g
theorem ieSel_eq (v : IE) (f : Nat → IE → R) (g : R) : ieSel v f g = match v with | .sel r i => f r i | _ => g := by cases v <;> rfl

/- slots by paths -/
inductive Pa where
  | h
  | l (p : Pa)
  | r (p : Pa)
  deriving Inhabited
noncomputable def paN (n : Nat) : Nat → Pa :=
  Nat.rec (motive := fun _ => Nat → Pa) (fun _ => .h) (fun _ ih i => Bool.rec (motive := fun _ => Pa) (Bool.rec (motive := fun _ => Pa) (.r (ih (Nat.sub (Nat.div i 2) 1))) (.l (ih (Nat.div i 2))) (Nat.beq (Nat.mod i 2) 1)) .h (Nat.beq i 0)) n
noncomputable def pa (i : Nat) : Pa := paN i i
noncomputable def Pa.get (p : Pa) : FT → SV :=
  Pa.rec (motive := fun _ => FT → SV) (fun t => match t with | .tip => .undef | .node v _ _ => v) (fun _ ih t => match t with | .tip => .undef | .node _ x _ => ih x) (fun _ ih t => match t with | .tip => .undef | .node _ _ x => ih x) p
theorem paN_get : ∀ (n i : Nat), i ≤ n → ∀ t : FT, (paN n i).get t = t.get i := by
  intro n
  induction n with
  | zero => intro i hi t; have : i = 0 := by omega
            subst this; cases t <;> rfl
  | succ n ih =>
    intro i hi t
    have e : paN (n + 1) i = Bool.rec (motive := fun _ => Pa) (Bool.rec (motive := fun _ => Pa) (.r (paN n (Nat.sub (Nat.div i 2) 1))) (.l (paN n (Nat.div i 2))) (Nat.beq (Nat.mod i 2) 1)) .h (Nat.beq i 0) := rfl
    rw [e]
    by_cases h0 : i = 0
    · subst h0; cases t <;> rfl
    · have hb : Nat.beq i 0 = false := by cases i with
        | zero => exact absurd rfl h0
        | succ i => rfl
      rw [hb]
      dsimp only
      by_cases h1 : i % 2 = 1
      · have hc : Nat.beq (Nat.mod i 2) 1 = true := by rw [show Nat.mod i 2 = 1 from h1]; rfl
        rw [hc]
        dsimp only
        cases t with
        | tip => rfl
        | node v l r =>
          rw [FT.get_node, if_neg h0, if_pos h1]
          exact ih _ (show i / 2 ≤ n by omega) l
      · have hc : Nat.beq (Nat.mod i 2) 1 = false := by
          cases hh : Nat.beq (Nat.mod i 2) 1 with
          | false => rfl
          | true => exact absurd (Nat.eq_of_beq_eq_true hh) h1
        rw [hc]
        dsimp only
        cases t with
        | tip => rfl
        | node v l r =>
          rw [FT.get_node, if_neg h0, if_neg h1]
          exact ih _ (show i / 2 - 1 ≤ n by omega) r
theorem pa_get (i : Nat) (t : FT) : (pa i).get t = t.get i := paN_get i i (Nat.le_refl i) t
/-- the slot at a path, handed on -/
noncomputable def getP (p : Pa) : FT → (SV → R) → R :=
  Pa.rec (motive := fun _ => FT → (SV → R) → R)
    (fun t k => FT.rec (motive := fun _ => (SV → R) → R) (fun k => k .undef) (fun v _ _ _ _ k => k v) t k)
    (fun _ ih t k => FT.rec (motive := fun _ => (FT → (SV → R) → R) → (SV → R) → R) (fun _ k => k .undef) (fun _ l _ _ _ ih k => ih l k) t ih k)
    (fun _ ih t k => FT.rec (motive := fun _ => (FT → (SV → R) → R) → (SV → R) → R) (fun _ k => k .undef) (fun _ _ r _ _ ih k => ih r k) t ih k) p
theorem getP_eq (p : Pa) : ∀ (t : FT) (k : SV → R), getP p t k = k (p.get t) := by
  induction p with
  | h => intro t k; cases t <;> rfl
  | l p ih => intro t k; cases t with
    | tip => rfl
    | node v l r => exact ih l k
  | r p ih => intro t k; cases t with
    | tip => rfl
    | node v l r => exact ih r k
noncomputable def Pa.set (p : Pa) : FT → SV → FT :=
  Pa.rec (motive := fun _ => FT → SV → FT) (fun t x => match t with | .tip => .tip | .node _ y z => .node x y z)
    (fun _ ih t x => match t with | .tip => .tip | .node v y z => .node v (ih y x) z)
    (fun _ ih t x => match t with | .tip => .tip | .node v y z => .node v y (ih z x)) p
noncomputable def setL (v : SV) (r : FT) (k : FT → R) (l : FT) : R := k (.node v l r)
noncomputable def setR (v : SV) (l : FT) (k : FT → R) (r : FT) : R := k (.node v l r)
noncomputable def setP (p : Pa) : FT → SV → (FT → R) → R :=
  Pa.rec (motive := fun _ => FT → SV → (FT → R) → R)
    (fun t x k => FT.rec (motive := fun _ => SV → (FT → R) → R) (fun _ k => k .tip) (fun _ l r _ _ x k => k (.node x l r)) t x k)
    (fun _ ih t x k => FT.rec (motive := fun _ => (FT → SV → (FT → R) → R) → SV → (FT → R) → R) (fun _ _ k => k .tip) (fun v l r _ _ ih x k => ih l x (setL v r k)) t ih x k)
    (fun _ ih t x k => FT.rec (motive := fun _ => (FT → SV → (FT → R) → R) → SV → (FT → R) → R) (fun _ _ k => k .tip) (fun v l r _ _ ih x k => ih r x (setR v l k)) t ih x k) p
theorem setP_eq (p : Pa) : ∀ (t : FT) (x : SV) (k : FT → R), setP p t x k = k (p.set t x) := by
  induction p with
  | h => intro t x k; cases t <;> rfl
  | l p ih => intro t x k; cases t with
    | tip => rfl
    | node v l r => exact ih l x (setL v r k)
  | r p ih => intro t x k; cases t with
    | tip => rfl
    | node v l r => exact ih r x (setR v l k)
theorem FT.set_tip (i : Nat) (x : SV) : FT.tip.set i x = .tip := rfl
theorem paN_set : ∀ (n i : Nat), i ≤ n → ∀ (t : FT) (x : SV), (paN n i).set t x = t.set i x := by
  intro n
  induction n with
  | zero => intro i hi t x; have : i = 0 := by omega
            subst this; cases t <;> rfl
  | succ n ih =>
    intro i hi t x
    have e : paN (n + 1) i = Bool.rec (motive := fun _ => Pa) (Bool.rec (motive := fun _ => Pa) (.r (paN n (Nat.sub (Nat.div i 2) 1))) (.l (paN n (Nat.div i 2))) (Nat.beq (Nat.mod i 2) 1)) .h (Nat.beq i 0) := rfl
    rw [e]
    by_cases h0 : i = 0
    · subst h0; cases t <;> rfl
    · have hb : Nat.beq i 0 = false := by cases i with
        | zero => exact absurd rfl h0
        | succ i => rfl
      rw [hb]
      dsimp only
      by_cases h1 : i % 2 = 1
      · have hc : Nat.beq (Nat.mod i 2) 1 = true := by rw [show Nat.mod i 2 = 1 from h1]; rfl
        rw [hc]
        dsimp only
        cases t with
        | tip => rfl
        | node v l r =>
          rw [FT.set_node, if_neg h0, if_pos h1]
          show FT.node v ((paN n (i / 2)).set l x) r = _
          rw [ih _ (show i / 2 ≤ n by omega) l x]
      · have hc : Nat.beq (Nat.mod i 2) 1 = false := by
          cases hh : Nat.beq (Nat.mod i 2) 1 with
          | false => rfl
          | true => exact absurd (Nat.eq_of_beq_eq_true hh) h1
        rw [hc]
        dsimp only
        cases t with
        | tip => rfl
        | node v l r =>
          rw [FT.set_node, if_neg h0, if_neg h1]
          show FT.node v l ((paN n (i / 2 - 1)).set r x) = _
          rw [ih _ (show i / 2 - 1 ≤ n by omega) r x]
theorem pa_set (i : Nat) (t : FT) (x : SV) : (pa i).set t x = t.set i x := paN_set i i (Nat.le_refl i) t x

/- operands -/
inductive CO where
  | slot (p : Pa)
  | val (v : SV)
  | bad
  deriving Inhabited
noncomputable def coOf (x : Operand) : CO := match x with
  | .tmp i => .slot (pa i)
  | .const v => match ofV v with
    | some s => nfS s fun s => .val s
    | none => .bad
  | .func f => .val (.fn f .nil)
  | .global _ => .bad
noncomputable def CO.of (x : CO) (t : FT) : SV := match x with
  | .slot p => p.get t
  | .val v => v
  | .bad => .nil
noncomputable def opdK (x : CO) (t : FT) (k : SV → R) : R :=
  CO.rec (motive := fun _ => FT → (SV → R) → R) (fun p t k => getP p t k) (fun v _ k => k v) (fun _ k => k .nil) x t k
theorem opdK_eq (x : CO) (t : FT) (k : SV → R) : opdK x t k = k (x.of t) := by
  cases x with
  | slot p => exact getP_eq p t k
  | val v => rfl
  | bad => rfl
theorem coOf_ok {x : Operand} {t : FT} {n : Nat} (h : (coOf x).of t ≠ .nil) : opd ⟨n, t⟩ x = some ((coOf x).of t) := by
  cases x with
  | tmp i =>
    have e : (coOf (.tmp i)).of t = t.get i := pa_get i t
    rw [e] at h ⊢
    show (match Fr.get ⟨n, t⟩ i with | .nil => none | v => some v) = _
    unfold Fr.get
    cases hv : t.get i <;> first | rfl | exact absurd hv h
  | const v =>
    show ofV v = _
    unfold coOf at h ⊢
    dsimp only at h ⊢
    cases hv : ofV v with
    | none => rw [hv] at h; exact absurd rfl h
    | some s => dsimp only; rw [nfS_eq]; rfl
  | func f => rfl
  | global g => exact absurd rfl h
inductive CD where
  | no
  | at (p : Pa)
  deriving Inhabited
noncomputable def cdOf (d : Option Nat) : CD := match d with
  | none => .no
  | some i => .at (pa i)
/-- an operation on its way: where it writes, itself, what it comes to by the slow way, the slots, the memory, what follows -/
structure Ctx where
  d : CD
  o : Oper
  old : Oper → Fr → Mem → Option (List (Fr × Mem))
  n : Nat
  t : FT
  m : Mem
  K : Fr → Mem → R
/-- the slow way -/
noncomputable def fb (C : Ctx) : R := Ctx.rec (motive := fun _ => R) (fun _ o old n t m K => bindR (old o ⟨n, t⟩ m) K) C
noncomputable def mkFr (n : Nat) (m : Mem) (K : Fr → Mem → R) (t : FT) : R := K ⟨n, t⟩ m
/-- a value is there -/
noncomputable def fin (C : Ctx) (v : SV) : R :=
  Ctx.rec (motive := fun _ => SV → R) (fun d _ _ n t m K v => CD.rec (motive := fun _ => Nat → FT → Mem → (Fr → Mem → R) → SV → R)
    (fun n t m K _ => K ⟨n, t⟩ m) (fun p n t m K v => setP p t v (mkFr n m K)) d n t m K v) C v
theorem fin_eq (C : Ctx) (v : SV) {d : Option Nat} (hd : C.d = cdOf d) : fin C v = C.K (putS ⟨C.n, C.t⟩ d v) C.m := by
  obtain ⟨cd, o, old, n, t, m, K⟩ := C
  dsimp only at hd
  subst hd
  cases d with
  | none => rfl
  | some i =>
    show setP (pa i) t v (mkFr n m K) = _
    rw [setP_eq, pa_set]
    rfl
/-- a value is there, and another memory -/
noncomputable def finM (C : Ctx) (v : SV) (m : Mem) : R :=
  Ctx.rec (motive := fun _ => Mem → SV → R) (fun d _ _ n t _ K m v => CD.rec (motive := fun _ => Nat → FT → Mem → (Fr → Mem → R) → SV → R)
    (fun n t m K _ => K ⟨n, t⟩ m) (fun p n t m K v => setP p t v (mkFr n m K)) d n t m K v) C m v
theorem finM_eq (C : Ctx) (v : SV) (m : Mem) {d : Option Nat} (hd : C.d = cdOf d) : finM C v m = C.K (putS ⟨C.n, C.t⟩ d v) m := by
  obtain ⟨cd, o, old, n, t, m', K⟩ := C
  dsimp only at hd
  subst hd
  cases d with
  | none => rfl
  | some i =>
    show setP (pa i) t v (mkFr n m K) = _
    rw [setP_eq, pa_set]
    rfl
end Go.Sx
