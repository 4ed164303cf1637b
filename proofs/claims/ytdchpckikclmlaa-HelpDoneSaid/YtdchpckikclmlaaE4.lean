/- The executor, part 4. -/
import Derived.Test.YtdchpckikclmlaaE3
namespace Go.Sx
open Go
abbrev R := Option (List ((SX × Fr) × Mem))
noncomputable def cat {α : Type} (a b : Option (List α)) : Option (List α) := match a, b with
 | some x, some y => some (x ++ y)
 | _, _ => none
theorem gather_cat {α β : Type} (f : α → X β) (p : α × Mem) (l : List (α × Mem)) : gather f (p :: l) = cat (f p.1 p.2) (gather f l) := by
 cases l with
 | nil => rw [gather_one, gather_nil]; cases f p.1 p.2 <;> simp [cat]
 | cons q l =>
  rw [gather_cons]
  cases f p.1 p.2 with
  | none => rfl
  | some x => cases gather f (q :: l) <;> rfl
theorem cat_assoc {α : Type} (a b c : Option (List α)) : cat (cat a b) c = cat a (cat b c) := by
 cases a <;> cases b <;> cases c <;> simp [cat]
theorem gather_append {α β : Type} (f : α → X β) : ∀ (l1 l2 : List (α × Mem)), gather f (l1 ++ l2) = cat (gather f l1) (gather f l2)
 | [], l2 => by rw [gather_nil]; cases h : gather f l2 <;> simp [cat, h]
 | p :: l1, l2 => by rw [List.cons_append, gather_cat, gather_cat, gather_append f l1 l2, cat_assoc]
noncomputable def bindR {α : Type} (r : Option (List (α × Mem))) (k : α → Mem → R) : R :=
 Option.rec (motive := fun _ => (α → Mem → R) → R) (fun _ => none) (fun l k => gather (β := SX × Fr) k l) r k
theorem bindR_none {α : Type} (k : α → Mem → R) : bindR none k = none := rfl
theorem bindR_some {α : Type} (l : List (α × Mem)) (k : α → Mem → R) : bindR (some l) k = gather (β := SX × Fr) k l := rfl
theorem bindR_one {α : Type} (a : α) (m : Mem) (k : α → Mem → R) : bindR (some [(a, m)]) k = k a m := rfl
theorem bindR_pure {α : Type} (a : α) (m : Mem) (k : α → Mem → R) : bindR (X.pure a m) k = k a m := rfl
theorem bindR_cat {α : Type} (a b : Option (List (α × Mem))) (k : α → Mem → R) : bindR (cat a b) k = cat (bindR a k) (bindR b k) := by
 cases a with
 | none => rfl
 | some x =>
  cases b with
  | none => simp only [cat, bindR_none, bindR_some]; cases gather (β := SX × Fr) k x <;> rfl
  | some y => simp only [cat, bindR_some, gather_append]
theorem bindR_gather {α β : Type} (f : α → X β) (k : β → Mem → R) : ∀ l : List (α × Mem), bindR (gather f l) k = gather (β := SX × Fr) (fun a m => bindR (f a m) k) l
 | [] => rfl
 | p :: l => by rw [gather_cat, gather_cat, bindR_cat, bindR_gather f k l]
theorem bindR_bind {α β : Type} (x : X α) (f : α → X β) (m : Mem) (k : β → Mem → R) : bindR (X.bind x f m) k = bindR (x m) fun a m => bindR (f a m) k := by
 unfold X.bind
 cases h : x m with
 | none => rfl
 | some l => exact bindR_gather f k l
noncomputable def onInt (v : SV) (f : IntKind → IE → R) (g : R) : R :=
 SV.rec (motive := fun _ => (IntKind → IE → R) → R → R) (fun _ g => g) (fun _ _ g => g) (fun k e f _ => f k e) (fun _ _ g => g) (fun _ g => g) (fun _ _ _ _ g => g) (fun _ g => g) (fun _ _ _ _ _ _ g => g) (fun _ _ _ _ g => g) (fun _ g => g) (fun _ _ _ _ g => g) (fun _ g => g) (fun _ _ _ g => g) (fun _ _ _ g => g) (fun _ g => g) (fun _ _ _ _ _ g => g) (fun _ _ _ _ _ _ g => g) (fun _ _ _ _ _ g => g) (fun _ _ _ _ g => g) v f g
noncomputable def onBool (v : SV) (f : BE → R) (g : R) : R :=
 SV.rec (motive := fun _ => (BE → R) → R → R) (fun _ g => g) (fun _ _ g => g) (fun _ _ _ g => g) (fun b f _ => f b) (fun _ g => g) (fun _ _ _ _ g => g) (fun _ g => g) (fun _ _ _ _ _ _ g => g) (fun _ _ _ _ g => g) (fun _ g => g) (fun _ _ _ _ g => g) (fun _ g => g) (fun _ _ _ g => g) (fun _ _ _ g => g) (fun _ g => g) (fun _ _ _ _ _ g => g) (fun _ _ _ _ _ _ g => g) (fun _ _ _ _ _ g => g) (fun _ _ _ _ g => g) v f g
theorem onBool_eq (v : SV) (f : BE → R) (g : R) : onBool v f g = match v with | .bool b => f b | _ => g := by cases v <;> rfl
noncomputable def onPtr (v : SV) (f : Nat → Nat → IE → R) (g : R) : R :=
 SV.rec (motive := fun _ => (Nat → Nat → IE → R) → R → R) (fun _ g => g) (fun _ _ g => g) (fun _ _ _ g => g) (fun _ _ g => g) (fun _ g => g) (fun s k off f _ => f s k off) (fun _ g => g) (fun _ _ _ _ _ _ g => g) (fun _ _ _ _ g => g) (fun _ g => g) (fun _ _ _ _ g => g) (fun _ g => g) (fun _ _ _ g => g) (fun _ _ _ g => g) (fun _ g => g) (fun _ _ _ _ _ g => g) (fun _ _ _ _ _ _ g => g) (fun _ _ _ _ _ g => g) (fun _ _ _ _ g => g) v f g
noncomputable def onSli (v : SV) (f : Nat → Nat → IE → IE → IE → R) (g : R) : R :=
 SV.rec (motive := fun _ => (Nat → Nat → IE → IE → IE → R) → R → R) (fun _ g => g) (fun _ _ g => g) (fun _ _ _ g => g) (fun _ _ g => g) (fun _ g => g) (fun _ _ _ _ g => g) (fun _ g => g) (fun s k off len cap f _ => f s k off len cap) (fun _ _ _ _ g => g) (fun _ g => g) (fun _ _ _ _ g => g) (fun _ g => g) (fun _ _ _ g => g) (fun _ _ _ g => g) (fun _ g => g) (fun _ _ _ _ _ g => g) (fun _ _ _ _ _ _ g => g) (fun _ _ _ _ _ g => g) (fun _ _ _ _ g => g) v f g
noncomputable def onFn (v : SV) (f : Nat → SV → R) (g : R) : R :=
 SV.rec (motive := fun _ => (Nat → SV → R) → R → R) (fun _ g => g) (fun _ _ g => g) (fun _ _ _ g => g) (fun _ _ g => g) (fun _ g => g) (fun _ _ _ _ g => g) (fun _ g => g) (fun _ _ _ _ _ _ g => g) (fun i caps _ f _ => f i caps) (fun _ g => g) (fun _ _ _ _ g => g) (fun _ g => g) (fun _ _ _ g => g) (fun _ _ _ g => g) (fun _ g => g) (fun _ _ _ _ _ g => g) (fun _ _ _ _ _ _ g => g) (fun _ _ _ _ _ g => g) (fun _ _ _ _ g => g) v f g
noncomputable def onIfc (v : SV) (f : Nat → SV → R) (g : R) : R :=
 SV.rec (motive := fun _ => (Nat → SV → R) → R → R) (fun _ g => g) (fun _ _ g => g) (fun _ _ _ g => g) (fun _ _ g => g) (fun _ g => g) (fun _ _ _ _ g => g) (fun _ g => g) (fun _ _ _ _ _ _ g => g) (fun _ _ _ _ g => g) (fun _ g => g) (fun t v _ f _ => f t v) (fun _ g => g) (fun _ _ _ g => g) (fun _ _ _ g => g) (fun _ g => g) (fun _ _ _ _ _ g => g) (fun _ _ _ _ _ _ g => g) (fun _ _ _ _ _ g => g) (fun _ _ _ _ g => g) v f g
noncomputable def onAgg (v : SV) (f : SV → R) (g : R) : R :=
 SV.rec (motive := fun _ => (SV → R) → R → R) (fun _ g => g) (fun _ _ g => g) (fun _ _ _ g => g) (fun _ _ g => g) (fun _ g => g) (fun _ _ _ _ g => g) (fun _ g => g) (fun _ _ _ _ _ _ g => g) (fun _ _ _ _ g => g) (fun _ g => g) (fun _ _ _ _ g => g) (fun _ g => g) (fun cs _ f _ => f cs) (fun _ _ _ g => g) (fun _ g => g) (fun _ _ _ _ _ g => g) (fun _ _ _ _ _ _ g => g) (fun _ _ _ _ _ g => g) (fun _ _ _ _ g => g) v f g
noncomputable def onTup (v : SV) (f : SV → R) (g : R) : R :=
 SV.rec (motive := fun _ => (SV → R) → R → R) (fun _ g => g) (fun _ _ g => g) (fun _ _ _ g => g) (fun _ _ g => g) (fun _ g => g) (fun _ _ _ _ g => g) (fun _ g => g) (fun _ _ _ _ _ _ g => g) (fun _ _ _ _ g => g) (fun _ g => g) (fun _ _ _ _ g => g) (fun _ g => g) (fun _ _ _ g => g) (fun cs _ f _ => f cs) (fun _ g => g) (fun _ _ _ _ _ g => g) (fun _ _ _ _ _ _ g => g) (fun _ _ _ _ _ g => g) (fun _ _ _ _ g => g) v f g
noncomputable def ieLit (v : IE) (f : Int → R) (g : R) : R :=
 IE.rec (motive := fun _ => (Int → R) → R → R) (fun z f _ => f z) (fun _ _ g => g) (fun _ _ _ _ g => g) (fun _ _ _ _ _ g => g) (fun _ _ _ _ _ g => g) (fun _ _ _ _ _ g => g) (fun _ _ _ _ _ g => g) (fun _ _ _ _ _ g => g) (fun _ _ _ _ g => g) (fun _ _ _ _ _ _ _ g => g) (fun _ _ _ _ g => g) (fun _ _ _ _ g => g) (fun _ _ _ _ _ g => g) (fun _ g => g) (fun _ _ _ _ _ _ _ _ _ _ g => g) (fun _ _ g => g) v f g
noncomputable def ieSel (v : IE) (f : Nat → IE → R) (g : R) : R :=
 IE.rec (motive := fun _ => (Nat → IE → R) → R → R) (fun _ _ g => g) (fun _ _ g => g) (fun r i _ f _ => f r i) (fun _ _ _ _ _ g => g) (fun _ _ _ _ _ g => g) (fun _ _ _ _ _ g => g) (fun _ _ _ _ _ g => g) (fun _ _ _ _ _ g => g) (fun _ _ _ _ g => g) (fun _ _ _ _ _ _ _ g => g) (fun _ _ _ _ g => g) (fun _ _ _ _ g => g) (fun _ _ _ _ _ g => g) (fun _ g => g) (fun _ _ _ _ _ _ _ _ _ _ g => g) (fun _ _ g => g) v f g
inductive Pa where
 | h
 | l (p : Pa)
 | r (p : Pa)
 deriving Inhabited
noncomputable def paN (n : Nat) : Nat → Pa :=
 Nat.rec (motive := fun _ => Nat → Pa) (fun _ => .h) (fun _ ih i => Bool.rec (motive := fun _ => Pa) (Bool.rec (motive := fun _ => Pa) (.r (ih (Nat.sub (Nat.div i 2) 1))) (.l (ih (Nat.div i 2))) (Nat.beq (Nat.mod i 2) 1)) .h (Nat.beq i 0)) n
noncomputable def pa (i : Nat) : Pa := paN i i
noncomputable def Pa.get (p : Pa) : FT → SV :=
 Pa.rec (motive := fun _ => FT → SV) (fun t => match t with | .tip => .undef | .node v _ _ => v) (fun _ ih t => match t with | .tip => .undef | .node _ x _ => ih x) (fun _ ih t => match t with | .tip => .undef | .node _ _ x => ih x) p
theorem paN_get : ∀ (n i : Nat), i ≤ n → ∀ t : FT, (paN n i).get t = t.get i := by
 intro n
 induction n with
 | zero =>
  intro i hi t
  have : i = 0 := by omega
  subst this; cases t <;> rfl
 | succ n ih =>
  intro i hi t
  have e : paN (n + 1) i = Bool.rec (motive := fun _ => Pa) (Bool.rec (motive := fun _ => Pa) (.r (paN n (Nat.sub (Nat.div i 2) 1))) (.l (paN n (Nat.div i 2))) (Nat.beq (Nat.mod i 2) 1)) .h (Nat.beq i 0) := rfl
  rw [e]
  by_cases h0 : i = 0
  ·subst h0; cases t <;> rfl
  ·have hb : Nat.beq i 0 = false := by cases i with
    | zero => exact absurd rfl h0
    | succ i => rfl
   rw [hb]
   dsimp only
   by_cases h1 : i % 2 = 1
   ·have hc : Nat.beq (Nat.mod i 2) 1 = true := by rw [show Nat.mod i 2 = 1 from h1]; rfl
    rw [hc]
    dsimp only
    cases t with
    | tip => rfl
    | node v l r =>
     rw [FT.get_node, if_neg h0, if_pos h1]
     exact ih _ (show i / 2 ≤ n by omega) l
   ·have hc : Nat.beq (Nat.mod i 2) 1 = false := by
     cases hh : Nat.beq (Nat.mod i 2) 1 with
     | false => rfl
     | true => exact absurd (Nat.eq_of_beq_eq_true hh) h1
    rw [hc]
    dsimp only
    cases t with
    | tip => rfl
    | node v l r =>
     rw [FT.get_node, if_neg h0, if_neg h1]
     exact ih _ (show i / 2 - 1 ≤ n by omega) r
theorem pa_get (i : Nat) (t : FT) : (pa i).get t = t.get i := paN_get i i (Nat.le_refl i) t
noncomputable def getP (p : Pa) : FT → (SV → R) → R :=
 Pa.rec (motive := fun _ => FT → (SV → R) → R)
  (fun t k => FT.rec (motive := fun _ => (SV → R) → R) (fun k => k .undef) (fun v _ _ _ _ k => k v) t k)
  (fun _ ih t k => FT.rec (motive := fun _ => (FT → (SV → R) → R) → (SV → R) → R) (fun _ k => k .undef) (fun _ l _ _ _ ih k => ih l k) t ih k)
  (fun _ ih t k => FT.rec (motive := fun _ => (FT → (SV → R) → R) → (SV → R) → R) (fun _ k => k .undef) (fun _ _ r _ _ ih k => ih r k) t ih k) p
theorem getP_eq (p : Pa) : ∀ (t : FT) (k : SV → R), getP p t k = k (p.get t) := by
 induction p with
 | h => intro t k; cases t <;> rfl
 | l p ih => intro t k; cases t with
  | tip => rfl
  | node v l r => exact ih l k
 | r p ih => intro t k; cases t with
  | tip => rfl
  | node v l r => exact ih r k
noncomputable def Pa.set (p : Pa) : FT → SV → FT :=
 Pa.rec (motive := fun _ => FT → SV → FT) (fun t x => match t with | .tip => .tip | .node _ y z => .node x y z)
  (fun _ ih t x => match t with | .tip => .tip | .node v y z => .node v (ih y x) z)
  (fun _ ih t x => match t with | .tip => .tip | .node v y z => .node v y (ih z x)) p
noncomputable def setL (v : SV) (r : FT) (k : FT → R) (l : FT) : R := k (.node v l r)
noncomputable def setR (v : SV) (l : FT) (k : FT → R) (r : FT) : R := k (.node v l r)
noncomputable def setP (p : Pa) : FT → SV → (FT → R) → R :=
 Pa.rec (motive := fun _ => FT → SV → (FT → R) → R)
  (fun t x k => FT.rec (motive := fun _ => SV → (FT → R) → R) (fun _ k => k .tip) (fun _ l r _ _ x k => k (.node x l r)) t x k)
  (fun _ ih t x k => FT.rec (motive := fun _ => (FT → SV → (FT → R) → R) → SV → (FT → R) → R) (fun _ _ k => k .tip) (fun v l r _ _ ih x k => ih l x (setL v r k)) t ih x k)
  (fun _ ih t x k => FT.rec (motive := fun _ => (FT → SV → (FT → R) → R) → SV → (FT → R) → R) (fun _ _ k => k .tip) (fun v l r _ _ ih x k => ih r x (setR v l k)) t ih x k) p
theorem setP_eq (p : Pa) : ∀ (t : FT) (x : SV) (k : FT → R), setP p t x k = k (p.set t x) := by
 induction p with
 | h => intro t x k; cases t <;> rfl
 | l p ih => intro t x k; cases t with
  | tip => rfl
  | node v l r => exact ih l x (setL v r k)
 | r p ih => intro t x k; cases t with
  | tip => rfl
  | node v l r => exact ih r x (setR v l k)
theorem paN_set : ∀ (n i : Nat), i ≤ n → ∀ (t : FT) (x : SV), (paN n i).set t x = t.set i x := by
 intro n
 induction n with
 | zero =>
  intro i hi t x
  have : i = 0 := by omega
  subst this; cases t <;> rfl
 | succ n ih =>
  intro i hi t x
  have e : paN (n + 1) i = Bool.rec (motive := fun _ => Pa) (Bool.rec (motive := fun _ => Pa) (.r (paN n (Nat.sub (Nat.div i 2) 1))) (.l (paN n (Nat.div i 2))) (Nat.beq (Nat.mod i 2) 1)) .h (Nat.beq i 0) := rfl
  rw [e]
  by_cases h0 : i = 0
  ·subst h0; cases t <;> rfl
  ·have hb : Nat.beq i 0 = false := by cases i with
    | zero => exact absurd rfl h0
    | succ i => rfl
   rw [hb]
   dsimp only
   by_cases h1 : i % 2 = 1
   ·have hc : Nat.beq (Nat.mod i 2) 1 = true := by rw [show Nat.mod i 2 = 1 from h1]; rfl
    rw [hc]
    dsimp only
    cases t with
    | tip => rfl
    | node v l r =>
     rw [FT.set_node, if_neg h0, if_pos h1]
     show FT.node v ((paN n (i / 2)).set l x) r = _
     rw [ih _ (show i / 2 ≤ n by omega) l x]
   ·have hc : Nat.beq (Nat.mod i 2) 1 = false := by
     cases hh : Nat.beq (Nat.mod i 2) 1 with
     | false => rfl
     | true => exact absurd (Nat.eq_of_beq_eq_true hh) h1
    rw [hc]
    dsimp only
    cases t with
    | tip => rfl
    | node v l r =>
     rw [FT.set_node, if_neg h0, if_neg h1]
     show FT.node v l ((paN n (i / 2 - 1)).set r x) = _
     rw [ih _ (show i / 2 - 1 ≤ n by omega) r x]
theorem pa_set (i : Nat) (t : FT) (x : SV) : (pa i).set t x = t.set i x := paN_set i i (Nat.le_refl i) t x
inductive CO where
 | slot (p : Pa)
 | val (v : SV)
 | bad
 deriving Inhabited
noncomputable def coOf (x : Operand) : CO := match x with
 | .tmp i => .slot (pa i)
 | .const v => match ofV v with
  | some s => nfS s fun s => .val s
  | none => .bad
 | .func f => .val (.fn f .nil)
 | .global _ => .bad
noncomputable def CO.of (x : CO) (t : FT) : SV := match x with
 | .slot p => p.get t
 | .val v => v
 | .bad => .nil
noncomputable def opdK (x : CO) (t : FT) (k : SV → R) : R :=
 CO.rec (motive := fun _ => FT → (SV → R) → R) (fun p t k => getP p t k) (fun v _ k => k v) (fun _ k => k .nil) x t k
theorem opdK_eq (x : CO) (t : FT) (k : SV → R) : opdK x t k = k (x.of t) := by
 cases x with
 | slot p => exact getP_eq p t k
 | val v => rfl
 | bad => rfl
theorem coOf_ok {x : Operand} {t : FT} {n : Nat} (h : (coOf x).of t ≠ .nil) : opd ⟨n, t⟩ x = some ((coOf x).of t) := by
 cases x with
 | tmp i =>
  have e : (coOf (.tmp i)).of t = t.get i := pa_get i t
  rw [e] at h ⊢
  show (match Fr.get ⟨n, t⟩ i with | .nil => none | v => some v) = _
  unfold Fr.get
  cases hv : t.get i <;> first | rfl | exact absurd hv h
 | const v =>
  show ofV v = _
  unfold coOf at h ⊢
  dsimp only at h ⊢
  cases hv : ofV v with
  | none => rw [hv] at h; exact absurd rfl h
  | some s => dsimp only; rw [nfS_eq]; rfl
 | func f => rfl
 | global g => exact absurd rfl h
inductive CD where
 | no
 | at (p : Pa)
 deriving Inhabited
noncomputable def cdOf (d : Option Nat) : CD := match d with
 | none => .no
 | some i => .at (pa i)
structure Ctx where
 d : CD
 o : Oper
 old : Oper → Fr → Mem → Option (List (Fr × Mem))
 n : Nat
 t : FT
 m : Mem
 K : Fr → Mem → R
noncomputable def fb (C : Ctx) : R := Ctx.rec (motive := fun _ => R) (fun _ o old n t m K => bindR (old o ⟨n, t⟩ m) K) C
noncomputable def mkFr (n : Nat) (m : Mem) (K : Fr → Mem → R) (t : FT) : R := K ⟨n, t⟩ m
noncomputable def fin (C : Ctx) (v : SV) : R :=
 Ctx.rec (motive := fun _ => SV → R) (fun d _ _ n t m K v => CD.rec (motive := fun _ => Nat → FT → Mem → (Fr → Mem → R) → SV → R)
  (fun n t m K _ => K ⟨n, t⟩ m) (fun p n t m K v => setP p t v (mkFr n m K)) d n t m K v) C v
noncomputable def finM (C : Ctx) (v : SV) (m : Mem) : R :=
 Ctx.rec (motive := fun _ => Mem → SV → R) (fun d _ _ n t _ K m v => CD.rec (motive := fun _ => Nat → FT → Mem → (Fr → Mem → R) → SV → R)
  (fun n t m K _ => K ⟨n, t⟩ m) (fun p n t m K v => setP p t v (mkFr n m K)) d n t m K v) C m v
theorem finM_eq (C : Ctx) (v : SV) (m : Mem) {d : Option Nat} (hd : C.d = cdOf d) : finM C v m = C.K (putS ⟨C.n, C.t⟩ d v) m := by
 obtain ⟨cd, o, old, n, t, m', K⟩ := C
 dsimp only at hd
 subst hd
 cases d with
 | none => rfl
 | some i =>
  show setP (pa i) t v (mkFr n m K) = _
  rw [setP_eq, pa_set]
  rfl
end Go.Sx
namespace Go.Sx
open Go
noncomputable def nnS (v : SV) (f : SV → R) (g : R) : R :=
 SV.rec (motive := fun _ => SV → (SV → R) → R → R) (fun v f _ => f v) (fun _ v f _ => f v) (fun _ _ v f _ => f v) (fun _ v f _ => f v) (fun v f _ => f v) (fun _ _ _ v f _ => f v) (fun v f _ => f v) (fun _ _ _ _ _ v f _ => f v) (fun _ _ _ v f _ => f v) (fun v f _ => f v) (fun _ _ _ v f _ => f v) (fun v f _ => f v) (fun _ _ v f _ => f v) (fun _ _ v f _ => f v) (fun _ _ g => g) (fun _ _ _ _ v f _ => f v) (fun _ _ _ _ _ v f _ => f v) (fun _ _ _ _ v f _ => f v) (fun _ _ _ v f _ => f v) v v f g
theorem nnS_eq {v : SV} (f : SV → R) (g : R) (h : v ≠ .nil) : nnS v f g = f v := by cases v <;> first | rfl | exact absurd rfl h
noncomputable def vOr (v : SV) (a b : R) : R :=
 SV.rec (motive := fun _ => R → R → R) (fun a _ => a) (fun _ _ b => b) (fun _ _ a _ => a) (fun _ a _ => a) (fun a _ => a) (fun _ _ _ a _ => a) (fun a _ => a) (fun _ _ _ _ _ a _ => a) (fun _ _ _ a _ => a) (fun a _ => a) (fun _ _ _ a _ => a) (fun a _ => a) (fun _ _ a _ => a) (fun _ _ a _ => a) (fun _ b => b) (fun _ _ _ _ _ b => b) (fun _ _ _ _ _ _ b => b) (fun _ _ _ _ _ b => b) (fun _ _ _ _ b => b) v a b
theorem vOr_eq (v : SV) (a b : R) : vOr v a b = if v.isV = true then a else b := by cases v <;> rfl
noncomputable def onNat (z : Int) (f : Nat → R) (g : R) : R :=
 Int.rec (motive := fun _ => (Nat → R) → R → R) (fun n f _ => f n) (fun _ _ g => g) z f g
noncomputable def yes (c : Bool) (a b : R) : R := Bool.rec (motive := fun _ => R → R → R) (fun _ b => b) (fun a _ => a) c a b
theorem yes_eq (c : Bool) (a b : R) : yes c a b = if c = true then a else b := by cases c <;> rfl
theorem yes_beq (p q : Nat) (a b : R) : yes (Nat.beq p q) a b = if p = q then a else b := by
 rw [yes_eq]
 by_cases h : p = q
 ·rw [if_pos h, if_pos (by rw [h]; exact Nat.beq_refl q)]
 ·rw [if_neg h, if_neg (fun e => h (Nat.eq_of_beq_eq_true e))]
theorem yes_ble (p q : Nat) (a b : R) : yes (Nat.ble p q) a b = if p ≤ q then a else b := by
 rw [yes_eq]
 by_cases h : p ≤ q
 ·rw [if_pos h, if_pos (Nat.ble_eq_true_of_le h)]
 ·rw [if_neg h, if_neg (fun e => h (Nat.le_of_ble_eq_true e))]
noncomputable def forceN (n : Nat) (k : Nat → R) : R := Nat.rec (motive := fun _ => (Nat → R) → R) (fun k => k 0) (fun m _ k => k (Nat.succ m)) n k
theorem forceN_eq (n : Nat) (k : Nat → R) : forceN n k = k n := by cases n <;> rfl
noncomputable def opdC (x : CO) (C : Ctx) (k : SV → R) : R := Ctx.rec (motive := fun _ => CO → (SV → R) → R) (fun _ _ _ _ t _ _ x k => opdK x t k) C x k
theorem opdC_eq (x : CO) (C : Ctx) (k : SV → R) : opdC x C k = k (x.of C.t) := opdK_eq x C.t k
noncomputable def maxN (k : IntKind) : Nat := IntKind.rec (motive := fun _ => Nat) 127 32767 2147483647 9223372036854775807 255 65535 4294967295 18446744073709551615 k
theorem maxN_ok (k : IntKind) : (maxN k : Int) ≤ k.max ∧ k.min ≤ 0 := by cases k <;> decide
section
variable {P : Program}
noncomputable def stepBody (T : Tab P) (cx : CX) (tm : Fr) (o : Oper) : X Fr :=
 match appArgs T tm o with
 | some (e, s, x) => fun m => X.bind (appS T e s x) (fun v m' => if Nat.beq m'.nv m.nv || tm.t.all (SV.nm m.nv) then putX' tm o.dst v m' else none) m
 | none => X.bind (opS T tm o) fun nx =>
  match nx with
  | .val v => putX' tm o.dst v
  | .skip => putX' tm o.dst .undef
  | .enter f args => fun m => X.bind (cx f args) (fun v m' => if Nat.beq m'.nv m.nv || tm.t.all (SV.nm m.nv) then putX' tm o.dst v m' else none) m
theorem stepOp_body (T : Tab P) (cx : CX) (ops : Array Oper) (tm : Fr) (o : Oper) : stepOp T cx ops tm o = X.bind (wantedX ops tm o) fun wnt => if wnt then stepBody T cx tm o else putX' tm o.dst .undef := rfl
structure Fits (T : Tab P) (cx : CX) (C : Ctx) : Prop where
 old : C.old = fun o fr m => stepBody T cx fr o m
 d : C.d = cdOf C.o.dst
variable {T : Tab P} {cx : CX} {C : Ctx}
theorem Fits.fb_eq (h : Fits T cx C) : fb C = bindR (stepBody T cx ⟨C.n, C.t⟩ C.o C.m) C.K := by
 obtain ⟨cd, o, old, n, t, m, K⟩ := C
 have := h.old
 dsimp only at this
 subst this
 rfl
theorem finM_self (C : Ctx) (v : SV) : finM C v C.m = fin C v := rfl
theorem Fits.step (_h : Fits T cx C) (ha : appArgs T ⟨C.n, C.t⟩ C.o = none) : stepBody T cx ⟨C.n, C.t⟩ C.o C.m = X.bind (opS T ⟨C.n, C.t⟩ C.o) (fun nx => match nx with
   | .val v => putX' ⟨C.n, C.t⟩ C.o.dst v
   | .skip => putX' ⟨C.n, C.t⟩ C.o.dst .undef
   | .enter f args => fun m => X.bind (cx f args) (fun v m' => if Nat.beq m'.nv m.nv || (Fr.t ⟨C.n, C.t⟩).all (SV.nm m.nv) then putX' ⟨C.n, C.t⟩ C.o.dst v m' else none) m) C.m := by
 unfold stepBody
 rw [ha]
theorem Fits.val (h : Fits T cx C) (ha : appArgs T ⟨C.n, C.t⟩ C.o = none) {v : SV} {m' : Mem} (hv : opS T ⟨C.n, C.t⟩ C.o C.m = some [(.val v, m')]) : finM C v m' = fb C := by
 rw [h.fb_eq, h.step ha, bind_one hv]
 show _ = bindR (putX' ⟨C.n, C.t⟩ C.o.dst v m') C.K
 rw [putX'_eq, bindR_pure, finM_eq C v m' h.d]
theorem Fits.skip (h : Fits T cx C) (ha : appArgs T ⟨C.n, C.t⟩ C.o = none) {m' : Mem} (hv : opS T ⟨C.n, C.t⟩ C.o C.m = some [(.skip, m')]) : finM C .undef m' = fb C := by
 rw [h.fb_eq, h.step ha, bind_one hv]
 show _ = bindR (putX' ⟨C.n, C.t⟩ C.o.dst .undef m') C.K
 rw [putX'_eq, bindR_pure, finM_eq C _ m' h.d]
theorem Fits.enter (h : Fits T cx C) (ha : appArgs T ⟨C.n, C.t⟩ C.o = none) {f : Nat} {args : List SV} (hv : opS T ⟨C.n, C.t⟩ C.o C.m = some [(.enter f args, C.m)]) :
  bindR (cx f args C.m) (fun v m' => if (Nat.beq m'.nv C.m.nv || C.t.all (SV.nm C.m.nv)) = true then finM C v m' else none) = fb C := by
 rw [h.fb_eq, h.step ha, bind_one hv]
 dsimp only
 rw [bindR_bind]
 congr 1
 funext v m'
 by_cases hc : (Nat.beq m'.nv C.m.nv || C.t.all (SV.nm C.m.nv)) = true
 ·rw [if_pos hc, if_pos hc, putX'_eq, bindR_pure, finM_eq C _ m' h.d]
 ·rw [if_neg hc, if_neg hc]; rfl
end
noncomputable def mvK (C : Ctx) (v : SV) : R := nnS v (fin C) (fb C)
noncomputable def optFin (C : Ctx) (v : Option SV) : R := Option.rec (motive := fun _ => Ctx → R) (fun C => fb C) (fun v C => nfS v (fin C)) v C
noncomputable def genK (op : BinOp) (C : Ctx) (k : IntKind) (a b : IE) : R :=
 Ctx.rec (motive := fun _ => BinOp → Ctx → IntKind → IE → IE → R) (fun _ _ _ _ _ m _ op C k a b => optFin C (intBin (Mem.know m) op k a b)) C op C k a b
noncomputable def finB (C : Ctx) (b : Bool) : R := Bool.rec (motive := fun _ => Ctx → R) (fun C => fin C (.bool (.lit false))) (fun C => fin C (.bool (.lit true))) b C
noncomputable def finN1 (C : Ctx) (k : IntKind) (g : R) (n : Nat) : R := yes (Nat.ble n (maxN k)) (fin C (.int k (.lit (.ofNat n)))) g
noncomputable def finN (C : Ctx) (k : IntKind) (n : Nat) (g : R) : R := forceN n (finN1 C k g)
noncomputable def finC (C : Ctx) (b : Bool) : R := Bool.rec (motive := fun _ => Ctx → R) (fun C => fin C (.bool (.lit true))) (fun C => fin C (.bool (.lit false))) b C
noncomputable def natK (op : BinOp) (C : Ctx) (k : IntKind) (p q : Nat) (g : R) : R :=
 BinOp.rec (motive := fun _ => Ctx → IntKind → Nat → Nat → R → R)
  (fun C k p q g => finN C k (Nat.add p q) g)
  (fun C k p q g => yes (Nat.ble q p) (finN C k (Nat.sub p q) g) g)
  (fun C k p q g => finN C k (Nat.mul p q) g)
  (fun _ _ _ _ g => g) (fun _ _ _ _ g => g) (fun _ _ _ _ g => g) (fun _ _ _ _ g => g) (fun _ _ _ _ g => g) (fun _ _ _ _ g => g) (fun _ _ _ _ g => g) (fun _ _ _ _ g => g)
  (fun C _ p q _ => finB C (Nat.beq p q)) (fun C _ p q _ => finC C (Nat.beq p q))
  (fun C _ p q _ => finB C (Nat.ble (Nat.succ p) q)) (fun C _ p q _ => finB C (Nat.ble p q))
  (fun C _ p q _ => finB C (Nat.ble (Nat.succ q) p)) (fun C _ p q _ => finB C (Nat.ble q p)) op C k p q g
noncomputable def intL3 (op : BinOp) (C : Ctx) (k : IntKind) (g : R) (p q : Nat) : R := natK op C k p q g
noncomputable def intL2 (op : BinOp) (C : Ctx) (k : IntKind) (g : R) (y : Int) (p : Nat) : R := onNat y (intL3 op C k g p) g
noncomputable def intL1 (op : BinOp) (C : Ctx) (k : IntKind) (g : R) (x y : Int) : R := onNat x (intL2 op C k g y) g
noncomputable def intL0 (op : BinOp) (C : Ctx) (k : IntKind) (b : IE) (g : R) (x : Int) : R := ieLit b (intL1 op C k g x) g
noncomputable def intG (op : BinOp) (C : Ctx) (k : IntKind) (a b : IE) : R := ieLit a (intL0 op C k b (genK op C k a b)) (genK op C k a b)
noncomputable def bin3 (op : BinOp) (C : Ctx) (k : IntKind) (a : IE) (k' : IntKind) (b : IE) : R := yes (Nat.beq (kindNo k) (kindNo k')) (intG op C k a b) (fb C)
noncomputable def bin2 (op : BinOp) (C : Ctx) (k : IntKind) (a : IE) (w : SV) : R := onInt w (bin3 op C k a) (fb C)
noncomputable def bin1 (op : BinOp) (y : CO) (C : Ctx) (k : IntKind) (a : IE) : R := opdC y C (bin2 op C k a)
noncomputable def bin0 (op : BinOp) (y : CO) (C : Ctx) (v : SV) : R := onInt v (bin1 op y C) (fb C)
noncomputable def binK (op : BinOp) (x y : CO) (C : Ctx) : R := opdC x C (bin0 op y C)
theorem optFin_eq (C : Ctx) (v : Option SV) : optFin C v = match v with | some v => fin C v | none => fb C := by
 cases v with
 | none => rfl
 | some v => exact nfS_eq v (fin C)
theorem genK_eq (op : BinOp) (C : Ctx) (k : IntKind) (a b : IE) : genK op C k a b = match intBin C.m.know op k a b with | some v => fin C v | none => fb C :=
 optFin_eq C _
theorem finB_eq (C : Ctx) (b : Bool) : finB C b = fin C (.bool (.lit b)) := by cases b <;> rfl
theorem finC_eq (C : Ctx) (b : Bool) : finC C b = fin C (.bool (.lit (!b))) := by cases b <;> rfl
theorem finN_eq (C : Ctx) (k : IntKind) (n : Nat) (g : R) : finN C k n g = if n ≤ maxN k then fin C (.int k (.lit n)) else g := by
 unfold finN
 rw [forceN_eq]
 unfold finN1
 rw [yes_eq]
 by_cases h : n ≤ maxN k
 ·rw [if_pos h, if_pos (Nat.ble_eq_true_of_le h)]; rfl
 ·rw [if_neg h, if_neg (fun e => h (Nat.le_of_ble_eq_true e))]
theorem wrap_nat {k : IntKind} {n : Nat} (h : n ≤ maxN k) : k.wrap (n : Int) = n := by
 obtain ⟨h1, h2⟩ := maxN_ok k
 exact wrap_id (by omega) (by omega)
theorem mkWrap_nat (fs : List Fact) {k : IntKind} {n : Nat} (h : n ≤ maxN k) : mkWrap fs k (.lit n) = .lit n := by
 show IE.lit (k.wrap n) = _
 rw [wrap_nat h]
theorem lss_nat (p q : Nat) : Nat.ble (Nat.succ p) q = decide ((p : Int) < (q : Int)) := by
 rw [Bool.eq_iff_iff, Nat.ble_eq, decide_eq_true_eq]; omega
theorem leq_nat (p q : Nat) : Nat.ble p q = !decide ((q : Int) < (p : Int)) := by
 rw [Bool.eq_iff_iff, Nat.ble_eq, Bool.not_eq_true', decide_eq_false_iff_not]; omega
theorem eql_nat (p q : Nat) : Nat.beq p q = decide ((p : Int) = (q : Int)) := by
 rw [Bool.eq_iff_iff, Nat.beq_eq, decide_eq_true_eq]; omega
theorem natK_eq (op : BinOp) (C : Ctx) (k : IntKind) (p q : Nat) : natK op C k p q (genK op C k (.lit p) (.lit q)) = genK op C k (.lit p) (.lit q) := by
 cases op
 case add =>
  show finN C k (p + q) _ = _
  rw [finN_eq]
  split
  ·rename_i h
   rw [genK_eq]
   show _ = fin C (.int k (mkWrap _ k (mkAdd (.lit p) (.lit q))))
   rw [show mkAdd (.lit p) (.lit q) = .lit ((p + q : Nat) : Int) by rw [Int.natCast_add]; rfl, mkWrap_nat _ h]
  ·rfl
 case sub =>
  show yes (Nat.ble q p) (finN C k (p - q) _) _ = _
  rw [yes_eq]
  split
  ·rename_i hle
   have hle := Nat.le_of_ble_eq_true hle
   rw [finN_eq]
   split
   ·rename_i h
    rw [genK_eq]
    show _ = fin C (.int k (mkWrap _ k (mkSub (.lit p) (.lit q))))
    rw [show mkSub (.lit p) (.lit q) = .lit ((p - q : Nat) : Int) by rw [Int.natCast_sub hle, Int.sub_eq_add_neg]; rfl, mkWrap_nat _ h]
   ·rfl
  ·rfl
 case mul =>
  show finN C k (p * q) _ = _
  rw [finN_eq]
  split
  ·rename_i h
   rw [genK_eq]
   show _ = fin C (.int k (mkWrap _ k (mkMul (.lit p) (.lit q))))
   rw [show mkMul (.lit p) (.lit q) = .lit ((p * q : Nat) : Int) by rw [Int.natCast_mul]; rfl, mkWrap_nat _ h]
  ·rfl
 case eql => show finB C (Nat.beq p q) = _; rw [finB_eq, genK_eq, eql_nat]; rfl
 case neq => show finC C (Nat.beq p q) = _; rw [finC_eq, genK_eq, eql_nat]; rfl
 case lss => show finB C (Nat.ble (Nat.succ p) q) = _; rw [finB_eq, genK_eq, lss_nat]; rfl
 case leq => show finB C (Nat.ble p q) = _; rw [finB_eq, genK_eq, leq_nat]; rfl
 case gtr => show finB C (Nat.ble (Nat.succ q) p) = _; rw [finB_eq, genK_eq, lss_nat]; rfl
 case geq => show finB C (Nat.ble q p) = _; rw [finB_eq, genK_eq, leq_nat]; rfl
 all_goals rfl
theorem intG_eq (op : BinOp) (C : Ctx) (k : IntKind) (a b : IE) : intG op C k a b = genK op C k a b := by
 unfold intG
 cases a <;> try rfl
 rename_i x
 show ieLit b (intL1 op C k _ x) _ = _
 cases b <;> try rfl
 rename_i y
 show onNat x (intL2 op C k _ y) _ = _
 cases x with
 | negSucc n => rfl
 | ofNat p =>
  show onNat y (intL3 op C k _ p) _ = _
  cases y with
  | negSucc n => rfl
  | ofNat q => exact natK_eq op C k p q
section
variable {P : Program} {T : Tab P} {cx : CX} {C : Ctx}
theorem mv_ok (h : Fits T cx C) {x : Operand} (ho : C.o.op = .move x ∨ C.o.op = .assign x) : opdC (coOf x) C (mvK C) = fb C := by
 rw [opdC_eq]
 unfold mvK
 by_cases hv : (coOf x).of C.t = .nil
 ·rw [hv]; rfl
 ·rw [nnS_eq _ _ hv, ← finM_self]
  have ha : appArgs T ⟨C.n, C.t⟩ C.o = none := by unfold appArgs; rcases ho with e | e <;> rw [e]
  refine h.val ha ?_
  unfold opS
  rcases ho with e | e <;> (rw [e]; dsimp only; rw [coOf_ok hv]; rfl)
theorem bin_ok (h : Fits T cx C) {op : BinOp} {t t' : Nat} {x y : Operand} (ho : C.o.op = .binOp op t x y t') (h1 : op ≠ .shl) (h2 : op ≠ .shr) : binK op (coOf x) (coOf y) C = fb C := by
 unfold binK
 rw [opdC_eq]
 unfold bin0
 cases hv : (coOf x).of C.t <;> try rfl
 rename_i k a
 show opdC (coOf y) C (bin2 op C k a) = _
 rw [opdC_eq]
 unfold bin2
 cases hw : (coOf y).of C.t <;> try rfl
 rename_i k' b
 show yes (Nat.beq (kindNo k) (kindNo k')) (intG op C k a b) (fb C) = _
 rw [yes_eq]
 split
 ·rename_i hk
  have hk := kindNo_eq hk
  subst hk
  rw [intG_eq, genK_eq]
  cases hi : intBin C.m.know op k a b with
  | none => rfl
  | some v =>
   dsimp only
   rw [← finM_self]
   have ha : appArgs T ⟨C.n, C.t⟩ C.o = none := by unfold appArgs; rw [ho]
   refine h.val ha ?_
   have hx : opd ⟨C.n, C.t⟩ x = some (.int k a) := by rw [coOf_ok (by rw [hv]; exact fun e => (by cases e)), hv]
   have hy : opd ⟨C.n, C.t⟩ y = some (.int k b) := by rw [coOf_ok (by rw [hw]; exact fun e => (by cases e)), hw]
   unfold opS
   rw [ho]
   dsimp only
   rw [hx, hy]
   dsimp only
   have hb : binS T op t x y (.int k a) (.int k b) C.m = some [(v, C.m)] := by
    unfold binS
    cases op <;> first | exact absurd rfl h1 | exact absurd rfl h2 | (dsimp only [withKnow]; rw [if_pos rfl, hi]; rfl)
   unfold valX
   rw [bind_one hb]
   rfl
 ·rfl
end
end Go.Sx
namespace Go.Sx
open Go
noncomputable def cOr (v : SV) (a b : R) : R := SV.rec (motive := fun _ => R → R → R) (fun _ b => b) (fun _ _ b => b) (fun _ _ a _ => a) (fun _ a _ => a) (fun a _ => a) (fun _ _ _ a _ => a) (fun a _ => a) (fun _ _ _ _ _ a _ => a) (fun _ _ _ a _ => a) (fun a _ => a) (fun _ _ _ a _ => a) (fun a _ => a) (fun _ _ _ b => b) (fun _ _ _ b => b) (fun _ b => b) (fun _ _ _ _ _ b => b) (fun _ _ _ _ _ _ b => b) (fun _ _ _ _ _ b => b) (fun _ _ _ _ b => b) v a b
theorem cOr_eq (v : SV) (a b : R) : cOr v a b = if v.isC = true then a else b := by cases v <;> rfl
noncomputable def getS1 (r n : Nat) (k : IntKind) (K : SV → R) : R := yes (Nat.beq r 0) (K (.int k (.lit 0))) (K (.int k (.sel r (.lit (.ofNat n)))))
noncomputable def getSel (k : IntKind) (r n : Nat) (K : SV → R) : R := forceN n fun n => getS1 r n k K
noncomputable def wrI (k : IntKind) (x : IE) (ih : R) (n : Nat) (K : SV → R) (p : Nat) : R := yes (Nat.beq p n) (K (.int k x)) ih
noncomputable def wrZ (k : IntKind) (x : IE) (ih : R) (n : Nat) (K : SV → R) (N : R) (z : Int) : R := onNat z (wrI k x ih n K) N
noncomputable def getWK (k : IntKind) (r : Nat) (ws : SV) (n : Nat) (K : SV → R) (N : R) : R :=
 SV.rec (motive := fun _ => IntKind → Nat → Nat → (SV → R) → R → R)
  (fun _ _ _ _ N => N) (fun _ _ _ _ _ N => N) (fun _ _ _ _ _ _ N => N) (fun _ _ _ _ _ N => N) (fun _ _ _ _ N => N) (fun _ _ _ _ _ _ _ N => N) (fun _ _ _ _ N => N) (fun _ _ _ _ _ _ _ _ _ N => N)
  (fun _ _ _ _ _ _ _ N => N) (fun _ _ _ _ N => N) (fun _ _ _ _ _ _ _ N => N) (fun _ _ _ _ N => N) (fun _ _ _ _ _ _ N => N) (fun _ _ _ _ _ _ N => N)
  (fun k r n K _ => getSel k r n K) (fun _ _ _ _ _ _ _ _ N => N) (fun _ _ _ _ _ _ _ _ _ N => N)
  (fun i x _ ih k r n K N => ieLit i (wrZ k x (ih k r n K N) n K N) N) (fun _ _ _ _ _ _ _ N => N) ws k r n K N
theorem getW_at (k : IntKind) (r : Nat) : ∀ (ws : SV) (n : Nat) (K : SV → R) (N : R), getWK k r ws n K N = N ∨ ∃ v, (∀ m, getW k r ws (.lit n) m = some [(v, m)]) ∧ getWK k r ws n K N = K v
 | .nil, n, K, N => by
  refine .inr ⟨.int k (if r = 0 then .lit 0 else .sel r (.lit n)), fun m => rfl, ?_⟩
  show forceN n (fun n => getS1 r n k K) = _
  rw [forceN_eq]
  unfold getS1
  rw [yes_beq]
  by_cases h : r = 0
  ·rw [if_pos h, if_pos h]
  ·rw [if_neg h, if_neg h]; rfl
 | .wr i x ws, n, K, N => by
  show ieLit i (wrZ k x (getWK k r ws n K N) n K N) N = N ∨ _
  cases i <;> try exact .inl rfl
  rename_i z
  cases z with
  | negSucc z => exact .inl rfl
  | ofNat p =>
   show yes (Nat.beq p n) (K (.int k x)) (getWK k r ws n K N) = N ∨ ∃ v, _ ∧ yes (Nat.beq p n) (K (.int k x)) (getWK k r ws n K N) = K v
   have hb : ∀ m, getW k r (.wr (.lit (.ofNat p)) x ws) (.lit n) m = if p = n then some [(.int k x, m)] else getW k r ws (.lit n) m := by
    intro m
    show X.bind (withKnow fun kn => branch (mkEq kn (.lit (Int.ofNat p)) (.lit (n : Int)))) (fun b => if b then X.pure (.int k x) else getW k r ws (.lit n)) m = _
    rw [bind_one (m' := m) (a := decide ((Int.ofNat p) = (n : Int))) (by rfl)]
    by_cases h : p = n
    ·subst h; simp [X.pure]
    ·have : decide ((Int.ofNat p) = (n : Int)) = false := by simp; omega
     rw [this, if_neg h]; rfl
   rw [yes_beq]
   by_cases h : p = n
   ·rw [if_pos h]
    exact .inr ⟨_, fun m => by rw [hb, if_pos h], rfl⟩
   ·rw [if_neg h]
    rcases getW_at k r ws n K N with h1 | ⟨v, h1, h2⟩
    ·exact .inl h1
    ·exact .inr ⟨v, fun m => by rw [hb, if_neg h, h1], h2⟩
 | .undef, _, _, _ | .opq _, _, _, _ | .int _ _, _, _, _ | .bool _, _, _, _ | .nilp, _, _, _ | .ptr _ _ _, _, _, _ | .nils, _, _, _ | .sli _ _ _ _ _, _, _, _ | .fn _ _, _, _, _ | .nilf, _, _, _ | .ifc _ _, _, _, _ | .nili, _, _, _ | .agg _, _, _, _ | .tup _, _, _, _ | .cons _ _, _, _, _ | .arr _ _ _ _, _, _, _ | .rep _ _, _, _, _ => .inl rfl
abbrev GetT := Nat → (SV → R) → R → R
noncomputable def arrL (k : IntKind) (r : Nat) (ws : SV) (ih : GetT) (n : Nat) (K : SV → R) (N : R) (l : Nat) : R := yes (Nat.ble (Nat.succ n) l) (getWK k r ws n K N) (ih (Nat.sub n l) K N)
noncomputable def arrZ (k : IntKind) (r : Nat) (ws : SV) (ih : GetT) (n : Nat) (K : SV → R) (N : R) (z : Int) : R := onNat z (arrL k r ws ih n K N) N
noncomputable def arrG (k : IntKind) (r : Nat) (len : IE) (ws : SV) (ih : GetT) (n : Nat) (K : SV → R) (N : R) : R := ieLit len (arrZ k r ws ih n K N) N
noncomputable def cellG (a : SV) (ih : GetT) (n : Nat) (K : SV → R) (N : R) : R :=
 SV.rec (motive := fun _ => SV → GetT → Nat → (SV → R) → R → R) (fun _ _ _ _ N => N) (fun _ _ _ _ _ N => N) (fun _ _ v ih n K N => yes (Nat.beq n 0) (K v) (ih (Nat.pred n) K N)) (fun _ v ih n K N => yes (Nat.beq n 0) (K v) (ih (Nat.pred n) K N)) (fun v ih n K N => yes (Nat.beq n 0) (K v) (ih (Nat.pred n) K N)) (fun _ _ _ v ih n K N => yes (Nat.beq n 0) (K v) (ih (Nat.pred n) K N)) (fun v ih n K N => yes (Nat.beq n 0) (K v) (ih (Nat.pred n) K N)) (fun _ _ _ _ _ v ih n K N => yes (Nat.beq n 0) (K v) (ih (Nat.pred n) K N)) (fun _ _ _ v ih n K N => yes (Nat.beq n 0) (K v) (ih (Nat.pred n) K N)) (fun v ih n K N => yes (Nat.beq n 0) (K v) (ih (Nat.pred n) K N)) (fun _ _ _ v ih n K N => yes (Nat.beq n 0) (K v) (ih (Nat.pred n) K N)) (fun v ih n K N => yes (Nat.beq n 0) (K v) (ih (Nat.pred n) K N)) (fun _ _ _ _ _ _ N => N) (fun _ _ _ _ _ _ N => N) (fun _ _ _ _ N => N) (fun _ _ _ _ _ _ _ _ N => N) (fun k r len ws _ _ ih n K N => arrG k r len ws ih n K N) (fun _ _ _ _ _ _ _ _ N => N) (fun _ _ _ _ _ _ _ N => N) a a ih n K N
noncomputable def getNK (c : SV) : GetT :=
 SV.rec (motive := fun _ => GetT)
  (fun _ _ N => N) (fun _ _ _ N => N) (fun _ _ _ _ N => N) (fun _ _ _ N => N) (fun _ _ N => N) (fun _ _ _ _ _ N => N) (fun _ _ N => N) (fun _ _ _ _ _ _ _ N => N)
  (fun _ _ _ _ _ N => N) (fun _ _ N => N) (fun _ _ _ _ _ N => N) (fun _ _ N => N) (fun _ _ _ _ N => N) (fun _ _ _ _ N => N)
  (fun _ _ N => N) (fun a _ _ ih n K N => cellG a ih n K N) (fun _ _ _ _ _ _ _ N => N)
  (fun _ _ _ _ _ _ N => N) (fun _ _ _ _ _ N => N) c
theorem lit_succ (n : Nat) : mkSub (.lit ((n + 1 : Nat) : Int)) (.lit 1) = .lit (n : Int) := by
 show IE.lit (((n + 1 : Nat) : Int) + -1) = _
 congr 1 <;> omega
theorem getC_lit (a rest : SV) (ha : a.isC = true) (n : Nat) (m : Mem) : getC (.cons a rest) (.lit n) m = if n = 0 then some [(a, m)] else getC rest (.lit ((n - 1 : Nat) : Int)) m := by
 have e : getC (.cons a rest) (.lit (n : Int)) = (if a.isC then
    if IE.lit (n : Int) = .lit 0 then X.pure a else withKnow fun kn =>
     if 1 ≤ (rng kn.facts (.lit (n : Int))).1 then getC rest (mkSub (.lit (n : Int)) (.lit 1)) else
     if 0 ≤ (rng kn.facts (.lit (n : Int))).1 then X.bind (branch (mkEq kn (.lit (n : Int)) (.lit 0))) fun b => if b then X.pure a else getC rest (mkSub (.lit (n : Int)) (.lit 1)) else X.none
   else X.none) := by cases a <;> first | rfl | cases ha
 rw [e, if_pos ha]
 cases n with
 | zero => rfl
 | succ n =>
  rw [if_neg (by intro h; injection h with h; omega)]
  unfold withKnow
  dsimp only
  rw [if_pos (by show (1 : Int) ≤ ((n + 1 : Nat) : Int); omega), lit_succ, if_neg (by omega)]
  rfl
theorem getC_arr (k : IntKind) (r l : Nat) (ws rest : SV) (n : Nat) (m : Mem) : getC (.cons (.arr k r (.lit l) ws) rest) (.lit n) m = if n < l then getW k r ws (.lit n) m else getC rest (.lit ((n - l : Nat) : Int)) m := by
 show (withKnow fun kn =>
   if 0 ≤ (rng kn.facts (.lit (n : Int))).1 then
    X.bind (branch (mkLt kn (.lit (n : Int)) (.lit l))) fun b => if b then getW k r ws (.lit (n : Int)) else
     withKnow fun kn => if 0 ≤ (rng kn.facts (.lit l)).1 then getC rest (mkSub (.lit (n : Int)) (.lit l)) else X.none
   else X.none) m = _
 unfold withKnow
 dsimp only
 rw [if_pos (by show (0 : Int) ≤ (n : Int); omega), bind_one (m' := m) (a := decide ((n : Int) < l)) rfl]
 by_cases h : n < l
 ·rw [if_pos h, if_pos (by simpa using h)]
 ·rw [if_neg h, if_neg (by simpa using h), if_pos (by show (0 : Int) ≤ (l : Int); omega)]
  rw [show mkSub (.lit (n : Int)) (.lit (l : Int)) = .lit ((n - l : Nat) : Int) by
   show IE.lit ((n : Int) + -(l : Int)) = _
   congr 1 <;> omega]
theorem getNK_at : ∀ (c : SV) (n : Nat) (K : SV → R) (N : R), getNK c n K N = N ∨ ∃ v, (∀ m, getC c (.lit n) m = some [(v, m)]) ∧ getNK c n K N = K v
 | .cons a rest, n, K, N => by
  show cellG a (getNK rest) n K N = N ∨ ∃ v, _ ∧ cellG a (getNK rest) n K N = K v
  by_cases ha : a.isC = true
  ·have e : cellG a (getNK rest) n K N = yes (Nat.beq n 0) (K a) (getNK rest (Nat.pred n) K N) := by cases a <;> first | rfl | cases ha
   rw [e, yes_beq]
   by_cases h : n = 0
   ·rw [if_pos h]
    exact .inr ⟨a, fun m => by rw [getC_lit a rest ha, if_pos h], rfl⟩
   ·rw [if_neg h]
    rcases getNK_at rest (Nat.pred n) K N with h1 | ⟨v, h1, h2⟩
    ·exact .inl h1
    ·exact .inr ⟨v, fun m => by rw [getC_lit a rest ha, if_neg h]; exact h1 m, h2⟩
  ·cases a with
   | arr k r len ws =>
    show ieLit len (arrZ k r ws (getNK rest) n K N) N = N ∨ ∃ v, _ ∧ ieLit len (arrZ k r ws (getNK rest) n K N) N = K v
    cases len <;> try exact .inl rfl
    rename_i z
    cases z with
    | negSucc z => exact .inl rfl
    | ofNat l =>
     show yes (Nat.ble (Nat.succ n) l) (getWK k r ws n K N) (getNK rest (Nat.sub n l) K N) = N ∨ ∃ v, _ ∧ yes (Nat.ble (Nat.succ n) l) (getWK k r ws n K N) (getNK rest (Nat.sub n l) K N) = K v
     rw [yes_ble]
     by_cases h : Nat.succ n ≤ l
     ·rw [if_pos h]
      rcases getW_at k r ws n K N with h1 | ⟨v, h1, h2⟩
      ·exact .inl h1
      ·exact .inr ⟨v, fun m => by
        show getC (.cons (.arr k r (.lit (l : Int)) ws) rest) (.lit n) m = _
        rw [getC_arr, if_pos (show n < l from h), h1], h2⟩
     ·rw [if_neg h]
      rcases getNK_at rest (Nat.sub n l) K N with h1 | ⟨v, h1, h2⟩
      ·exact .inl h1
      ·exact .inr ⟨v, fun m => by
        show getC (.cons (.arr k r (.lit (l : Int)) ws) rest) (.lit n) m = _
        rw [getC_arr, if_neg (show ¬ n < l from h)]; exact h1 m, h2⟩
   | _ => first | exact .inl rfl | exact absurd rfl ha
 | .undef, _, _, _ | .opq _, _, _, _ | .int _ _, _, _, _ | .bool _, _, _, _ | .nilp, _, _, _ | .ptr _ _ _, _, _, _ | .nils, _, _, _ | .sli _ _ _ _ _, _, _, _ | .fn _ _, _, _, _ | .nilf, _, _, _ | .ifc _ _, _, _, _ | .nili, _, _, _ | .agg _, _, _, _ | .tup _, _, _, _ | .nil, _, _, _ | .arr _ _ _ _, _, _, _ | .wr _ _ _, _, _, _ | .rep _ _, _, _, _ => .inl rfl
noncomputable def hitE (a b c d : Nat) : Bool := Bool.rec (motive := fun _ => Bool) false (Nat.beq c d) (Nat.beq a b)
theorem hitE_eq (a b c d : Nat) : hitE a b c d = (Nat.beq a b && Nat.beq c d) := by unfold hitE; cases Nat.beq a b <;> rfl
abbrev EntK := Bool → IE → SV → R
noncomputable def findK (l : List Ent) : Nat → Nat → EntK → R → R :=
 List.rec (motive := fun _ => Nat → Nat → EntK → R → R) (fun _ _ _ N => N)
  (fun x _ ih s k K N => Ent.rec (motive := fun _ => (Nat → Nat → EntK → R → R) → Nat → Nat → EntK → R → R) (fun s' k' ro _ b c ih s k K N => yes (hitE k' k s' s) (K ro b c) (ih s k K N)) x ih s k K N) l
theorem findK_eq (K : EntK) (N : R) (s k : Nat) : ∀ l : List Ent, findK l s k K N = match findE s k l with | some e => K e.ro e.base e.c | none => N
 | [] => rfl
 | x :: l => by
  obtain ⟨s', k', ro, t, b, c⟩ := x
  show yes (hitE k' k s' s) (K ro b c) (findK l s k K N) = match (cond (Nat.beq k' k && Nat.beq s' s) (some ⟨s', k', ro, t, b, c⟩) (findE s k l)) with | some e => K e.ro e.base e.c | none => N
  rw [hitE_eq, yes_eq, findK_eq K N s k l]
  cases Nat.beq k' k && Nat.beq s' s <;> rfl
noncomputable def litN (f : Nat → R) (g : R) (z : Int) : R := onNat z f g
noncomputable def ieNat (e : IE) (f : Nat → R) (g : R) : R := ieLit e (litN f g) g
theorem ieNat_eq (e : IE) (f : Nat → R) (g : R) : ieNat e f g = g ∨ ∃ n : Nat, e = .lit n ∧ ieNat e f g = f n := by
 cases e <;> try exact .inl rfl
 rename_i z
 cases z with
 | negSucc z => exact .inl rfl
 | ofNat n => exact .inr ⟨n, rfl, rfl⟩
noncomputable def base0 (g : R) (K : R) (n : Nat) : R := yes (Nat.beq n 0) K g
noncomputable def atE (g : R) (K : SV → R) (_ : Bool) (b : IE) (c : SV) : R := ieNat b (base0 g (K c)) g
noncomputable def heapOf (m : Mem) (s k : Nat) (K : EntK) (g : R) : R := Mem.rec (motive := fun _ => Nat → Nat → EntK → R → R) (fun _ h _ _ _ s k K g => findK h s k K g) m s k K g
theorem heapOf_eq (m : Mem) (s k : Nat) (K : EntK) (g : R) : heapOf m s k K g = match m.find s k with | some e => K e.ro e.base e.c | none => g := findK_eq K g s k m.heap
noncomputable def blockOfC (C : Ctx) (s k : Nat) (K : EntK) : R := Ctx.rec (motive := fun _ => Ctx → Nat → Nat → EntK → R) (fun _ _ _ _ _ m _ C s k K => heapOf m s k K (fb C)) C C s k K
theorem blockOfC_eq (C : Ctx) (s k : Nat) (K : EntK) : blockOfC C s k K = match C.m.find s k with | some e => K e.ro e.base e.c | none => fb C := heapOf_eq C.m s k K (fb C)
noncomputable def ptrN (C : Ctx) (K : Nat → Nat → Nat → R) (s k : Nat) (off : IE) : R := ieNat off (K s k) (fb C)
noncomputable def onPtrN (v : SV) (C : Ctx) (K : Nat → Nat → Nat → R) : R := onPtr v (ptrN C K) (fb C)
theorem onPtrN_eq (v : SV) (C : Ctx) (K : Nat → Nat → Nat → R) : onPtrN v C K = fb C ∨ ∃ s k n : Nat, v = .ptr s k (.lit n) ∧ onPtrN v C K = K s k n := by
 cases v <;> try exact .inl rfl
 rename_i s k off
 rcases ieNat_eq off (K s k) (fb C) with h | ⟨n, h1, h2⟩
 ·exact .inl h
 ·exact .inr ⟨s, k, n, by rw [h1], h2⟩
theorem place_lit (kn : Know) {e : Ent} (hb : e.base = .lit 0) (n : Nat) : place kn e (.lit n) = some (.lit n) := by
 unfold place
 rw [hb]
 have e1 : mkSub (.lit (n : Int)) (.lit 0) = .lit (n : Int) := by
  show IE.lit ((n : Int) + -0) = _
  congr 1 <;> omega
 rw [e1, if_pos]
 exact ⟨Int.le_refl _, (by show (0 : Int) ≤ (n : Int); omega)⟩
noncomputable def ld2 (C : Ctx) (n : Nat) (c : SV) : R := getNK c n (fin C) (fb C)
noncomputable def ld1 (C : Ctx) (s k n : Nat) : R := blockOfC C s k (atE (fb C) (ld2 C n))
noncomputable def ld0 (C : Ctx) (v : SV) : R := onPtrN v C (ld1 C)
noncomputable def ldK (x : CO) (C : Ctx) : R := opdC x C (ld0 C)
section
variable {P : Program} {T : Tab P} {cx : CX} {C : Ctx}
theorem atE_eq (g : R) (K : SV → R) (ro : Bool) (b : IE) (c : SV) : atE g K ro b c = g ∨ (b = .lit 0 ∧ atE g K ro b c = K c) := by
 rcases ieNat_eq b (base0 g (K c)) g with h | ⟨n, h1, h2⟩
 ·exact .inl h
 ·show ieNat b (base0 g (K c)) g = g ∨ (b = .lit 0 ∧ ieNat b (base0 g (K c)) g = K c)
  rw [h2]
  unfold base0
  rw [yes_beq]
  by_cases h0 : n = 0
  ·rw [if_pos h0]
   subst h0
   exact .inr ⟨h1, rfl⟩
  ·rw [if_neg h0]; exact .inl rfl
theorem ld_ok (h : Fits T cx C) {t : Nat} {x : Operand} (ho : C.o.op = .load t x) (ht : aggOf T t = some false) : ldK (coOf x) C = fb C := by
 unfold ldK
 rw [opdC_eq]
 unfold ld0
 rcases onPtrN_eq ((coOf x).of C.t) C (ld1 C) with e | ⟨s, k, n, hv, e⟩
 ·exact e
 ·rw [e]
  unfold ld1
  rw [blockOfC_eq]
  cases hf : C.m.find s k with
  | none => rfl
  | some en =>
   dsimp only
   rcases atE_eq (fb C) (ld2 C n) en.ro en.base en.c with e2 | ⟨hb, e2⟩
   ·exact e2
   ·rw [e2]
    unfold ld2
    rcases getNK_at en.c n (fin C) (fb C) with e3 | ⟨v, hg, e3⟩
    ·exact e3
    ·rw [e3, ← finM_self]
     have ha : appArgs T ⟨C.n, C.t⟩ C.o = none := by unfold appArgs; rw [ho]
     refine h.val ha ?_
     have hx : opd ⟨C.n, C.t⟩ x = some (.ptr s k (.lit n)) := by rw [coOf_ok (by rw [hv]; exact fun e => (by cases e)), hv]
     unfold opS
     rw [ho]
     dsimp only
     rw [hx]
     dsimp only
     unfold valX
     refine bind_one (a := v) (m' := C.m) ?_
     unfold loadS
     dsimp only
     rw [bind_one (a := en) (m' := C.m) (by unfold findX; rw [hf]; rfl)]
     unfold withKnow
     dsimp only
     rw [place_lit _ hb, bind_one (a := IE.lit n) (m' := C.m) rfl, ht]
     exact hg C.m
end
noncomputable def litW (K : Nat → R) (N : R) (z : Int) : R := onNat z K N
noncomputable def widK (a : SV) (K : Nat → R) (N : R) : R := SV.rec (motive := fun _ => (Nat → R) → R → R) (fun _ N => N) (fun _ _ N => N) (fun _ _ K _ => K 1) (fun _ K _ => K 1) (fun K _ => K 1) (fun _ _ _ K _ => K 1) (fun K _ => K 1) (fun _ _ _ _ _ K _ => K 1) (fun _ _ _ K _ => K 1) (fun K _ => K 1) (fun _ _ _ K _ => K 1) (fun K _ => K 1) (fun _ _ _ N => N) (fun _ _ _ N => N) (fun _ N => N) (fun _ _ _ _ _ N => N) (fun _ _ len _ _ K N => ieLit len (litW K N) N) (fun _ _ _ _ _ N => N) (fun _ _ _ _ N => N) a K N
theorem widK_at (a : SV) (K : Nat → R) (N : R) : widK a K N = N ∨ ∃ x, wd a = some x ∧ widK a K N = K x := by
 cases a <;> first | exact .inl rfl | exact .inr ⟨1, rfl, rfl⟩ | skip
 rename_i k r len ws
 cases len <;> try exact .inl rfl
 rename_i z
 cases z with
 | negSucc z => exact .inl rfl
 | ofNat l => exact .inr ⟨l, rfl, rfl⟩
noncomputable def consK (a : SV) (K : SV → R) (r : SV) : R := K (.cons a r)
abbrev TakeT := Nat → Nat → (SV → R) → R → R
noncomputable def take2 (a : SV) (ih : TakeT) (o n : Nat) (K : SV → R) (N : R) (x : Nat) : R :=
 yes (Nat.ble x o) (ih (Nat.sub o x) n K N) (yes (Nat.beq o 0) (yes (Nat.ble x n) (ih 0 (Nat.sub n x) (consK a K) N) N) N)
noncomputable def both0 (o n : Nat) : Bool := Bool.rec (motive := fun _ => Bool) false (Nat.beq n 0) (Nat.beq o 0)
theorem both0_eq (o n : Nat) : both0 o n = decide (o = 0 ∧ n = 0) := by
 unfold both0
 cases o with
 | zero => cases n with
  | zero => rfl
  | succ n => simp [Nat.beq]
 | succ o => simp [Nat.beq]
theorem yes_both0 (o n : Nat) (a b : R) : yes (both0 o n) a b = if o = 0 ∧ n = 0 then a else b := by
 rw [yes_eq]
 by_cases h : o = 0 ∧ n = 0
 ·rw [if_pos h, if_pos (by rw [both0_eq]; exact decide_eq_true h)]
 ·rw [if_neg h, if_neg (by rw [both0_eq]; simpa using h)]
noncomputable def takeK (c : SV) : TakeT :=
 SV.rec (motive := fun _ => TakeT)
  (fun _ _ _ N => N) (fun _ _ _ _ N => N) (fun _ _ _ _ _ N => N) (fun _ _ _ _ N => N) (fun _ _ _ N => N) (fun _ _ _ _ _ _ N => N) (fun _ _ _ N => N) (fun _ _ _ _ _ _ _ _ N => N)
  (fun _ _ _ _ _ _ N => N) (fun _ _ _ N => N) (fun _ _ _ _ _ _ N => N) (fun _ _ _ N => N) (fun _ _ _ _ _ N => N) (fun _ _ _ _ _ N => N)
  (fun o n K N => yes (both0 o n) (K .nil) N) (fun a _ _ ih o n K N => yes (both0 o n) (K .nil) (widK a (take2 a ih o n K N) N)) (fun _ _ _ _ _ _ _ _ N => N)
  (fun _ _ _ _ _ _ _ N => N) (fun _ _ _ _ _ _ N => N) c
theorem takeK_at : ∀ (c : SV) (o n : Nat) (K : SV → R) (N : R), takeK c o n K N = N ∨ ∃ r, takeC c o n = some r ∧ takeK c o n K N = K r
 | .nil, o, n, K, N => by
  show yes (both0 o n) (K .nil) N = N ∨ ∃ r, (if o = 0 ∧ n = 0 then some SV.nil else none) = some r ∧ yes (both0 o n) (K .nil) N = K r
  rw [yes_both0]
  by_cases h : o = 0 ∧ n = 0
  ·simp [h]
  ·simp [h]
 | .cons a rest, o, n, K, N => by
  show yes (both0 o n) (K .nil) (widK a (take2 a (takeK rest) o n K N) N) = N ∨ ∃ r, takeC (.cons a rest) o n = some r ∧ yes (both0 o n) (K .nil) (widK a (take2 a (takeK rest) o n K N) N) = K r
  rw [yes_both0]
  unfold takeC
  by_cases h : o = 0 ∧ n = 0
  ·simp [h]
  ·rw [if_neg h, if_neg h]
   rcases widK_at a (take2 a (takeK rest) o n K N) N with e | ⟨x, hx, e⟩
   ·exact .inl e
   ·rw [e, hx]
    unfold take2
    rw [yes_ble]
    dsimp only
    by_cases h1 : x ≤ o
    ·rw [if_pos h1, if_pos h1]
     exact takeK_at rest (o - x) n K N
    ·rw [if_neg h1, if_neg h1, yes_beq]
     by_cases h2 : o = 0
     ·rw [if_pos h2, yes_ble]
      by_cases h3 : x ≤ n
      ·rw [if_pos h3, if_pos ⟨h2, h3⟩]
       rcases takeK_at rest 0 (Nat.sub n x) (consK a K) N with e2 | ⟨r, hr, e2⟩
       ·exact .inl e2
       ·refine .inr ⟨.cons a r, ?_, e2⟩
        show (match takeC rest 0 (Nat.sub n x) with | some r => some (SV.cons a r) | none => none) = _
        rw [hr]
      ·rw [if_neg h3]; exact .inl rfl
     ·rw [if_neg h2]; exact .inl rfl
 | .undef, _, _, _, _ | .opq _, _, _, _, _ | .int _ _, _, _, _, _ | .bool _, _, _, _, _ | .nilp, _, _, _, _ | .ptr _ _ _, _, _, _, _ | .nils, _, _, _, _ | .sli _ _ _ _ _, _, _, _, _ | .fn _ _, _, _, _, _ | .nilf, _, _, _, _ | .ifc _ _, _, _, _, _ | .nili, _, _, _, _ | .agg _, _, _, _, _ | .tup _, _, _, _, _ | .arr _ _ _ _, _, _, _, _ | .wr _ _ _, _, _, _, _ | .rep _ _, _, _, _, _ => .inl rfl
noncomputable def finA (C : Ctx) (r : SV) : R := fin C (.agg r)
noncomputable def lda2 (C : Ctx) (z n : Nat) (c : SV) : R := takeK c n z (finA C) (fb C)
noncomputable def lda1 (C : Ctx) (z s k n : Nat) : R := blockOfC C s k (atE (fb C) (lda2 C z n))
noncomputable def lda0 (C : Ctx) (z : Nat) (v : SV) : R := onPtrN v C (lda1 C z)
noncomputable def ldaK (z : Nat) (x : CO) (C : Ctx) : R := opdC x C (lda0 C z)
theorem rowAt_lit {c r : SV} {z n : Nat} (h : takeC c n z = some r) (m : Mem) : rowAt c z (.lit n) m = some [(r, m)] := by
 unfold rowAt
 dsimp only
 rw [if_pos (by omega), Int.toNat_natCast, h]
 rfl
section
variable {P : Program} {T : Tab P} {cx : CX} {C : Ctx}
theorem lda_ok (h : Fits T cx C) {t z : Nat} {x : Operand} (ho : C.o.op = .load t x) (ht : aggOf T t = some true) (hz : sizeIn T t = some z) : ldaK z (coOf x) C = fb C := by
 unfold ldaK
 rw [opdC_eq]
 unfold lda0
 rcases onPtrN_eq ((coOf x).of C.t) C (lda1 C z) with e | ⟨s, k, n, hv, e⟩
 ·exact e
 ·rw [e]
  unfold lda1
  rw [blockOfC_eq]
  cases hf : C.m.find s k with
  | none => rfl
  | some en =>
   dsimp only
   rcases atE_eq (fb C) (lda2 C z n) en.ro en.base en.c with e2 | ⟨hb, e2⟩
   ·exact e2
   ·rw [e2]
    unfold lda2
    rcases takeK_at en.c n z (finA C) (fb C) with e3 | ⟨r, hg, e3⟩
    ·exact e3
    ·rw [e3]
     show fin C (.agg r) = _
     rw [← finM_self]
     have ha : appArgs T ⟨C.n, C.t⟩ C.o = none := by unfold appArgs; rw [ho]
     refine h.val ha ?_
     have hx : opd ⟨C.n, C.t⟩ x = some (.ptr s k (.lit n)) := by rw [coOf_ok (by rw [hv]; exact fun e => (by cases e)), hv]
     unfold opS
     rw [ho]
     dsimp only
     rw [hx]
     dsimp only
     unfold valX
     refine bind_one (a := SV.agg r) (m' := C.m) ?_
     unfold loadS
     dsimp only
     rw [bind_one (a := en) (m' := C.m) (by unfold findX; rw [hf]; rfl)]
     unfold withKnow
     dsimp only
     rw [place_lit _ hb, bind_one (a := IE.lit n) (m' := C.m) rfl, ht]
     dsimp only
     rw [hz]
     dsimp only
     rw [bind_one (rowAt_lit hg C.m)]
     rfl
end
end Go.Sx
namespace Go.Sx
open Go
theorem widK_lo (a : SV) (K : Nat → R) (N : R) : widK a K N = N ∨ ∃ x : Nat, (∀ kn, oneLo kn a = x) ∧ wd a = some x ∧ widK a K N = K x := by
 cases a <;> first | exact .inl rfl | exact .inr ⟨1, fun _ => rfl, rfl, rfl⟩ | skip
 rename_i k r len ws
 cases len <;> try exact .inl rfl
 rename_i z
 cases z with
 | negSucc z => exact .inl rfl
 | ofNat l => exact .inr ⟨l, fun kn => by
   show (if 0 ≤ (rng kn.facts (.lit (l : Int))).1 then (rng kn.facts (.lit (l : Int))).1 else 0) = _
   rw [if_pos (by show (0 : Int) ≤ (l : Int); omega)]; rfl, rfl, rfl⟩
theorem oneLo_nonneg (kn : Know) (a : SV) : 0 ≤ oneLo kn a := by
 unfold oneLo
 split
 ·split <;> omega
 ·split <;> omega
theorem wdLo_nonneg (kn : Know) : ∀ c : SV, 0 ≤ wdLo kn c
 | .cons a r => by
  have h1 := oneLo_nonneg kn a
  have h2 := wdLo_nonneg kn r
  show 0 ≤ oneLo kn a + wdLo kn r
  omega
 | .undef | .opq _ | .int _ _ | .bool _ | .nilp | .ptr _ _ _ | .nils | .sli _ _ _ _ _ | .fn _ _ | .nilf | .ifc _ _ | .nili | .agg _ | .tup _ | .arr _ _ _ _ | .wr _ _ _ | .rep _ _ => Int.le_refl _
 | .nil => Int.le_refl _
theorem takeK_lo : ∀ (c : SV) (o n : Nat) (K : SV → R) (N : R), takeK c o n K N = N ∨ ∃ r, takeC c o n = some r ∧ takeK c o n K N = K r ∧ ∀ kn, ((o + n : Nat) : Int) ≤ wdLo kn c
 | .nil, o, n, K, N => by
  show yes (both0 o n) (K .nil) N = N ∨ ∃ r, (if o = 0 ∧ n = 0 then some SV.nil else none) = some r ∧ yes (both0 o n) (K .nil) N = K r ∧ _
  rw [yes_both0]
  by_cases h : o = 0 ∧ n = 0
  ·refine .inr ⟨.nil, by rw [if_pos h], by rw [if_pos h], fun kn => ?_⟩
   rw [h.1, h.2]; exact wdLo_nonneg kn _
  ·simp [h]
 | .cons a rest, o, n, K, N => by
  show yes (both0 o n) (K .nil) (widK a (take2 a (takeK rest) o n K N) N) = N ∨ ∃ r, takeC (.cons a rest) o n = some r ∧ yes (both0 o n) (K .nil) (widK a (take2 a (takeK rest) o n K N) N) = K r ∧ ∀ kn, ((o + n : Nat) : Int) ≤ wdLo kn (.cons a rest)
  rw [yes_both0]
  unfold takeC
  by_cases h : o = 0 ∧ n = 0
  ·rw [if_pos h, if_pos h]
   refine .inr ⟨.nil, rfl, rfl, fun kn => ?_⟩
   rw [h.1, h.2]; exact wdLo_nonneg kn _
  ·rw [if_neg h, if_neg h]
   rcases widK_lo a (take2 a (takeK rest) o n K N) N with e | ⟨x, hlo, hx, e⟩
   ·exact .inl e
   ·rw [e, hx]
    unfold take2
    rw [yes_ble]
    dsimp only
    by_cases h1 : x ≤ o
    ·rw [if_pos h1, if_pos h1]
     rcases takeK_lo rest (o - x) n K N with e2 | ⟨r, hr, e2, hl⟩
     ·exact .inl e2
     ·refine .inr ⟨r, hr, e2, fun kn => ?_⟩
      have := hl kn
      show _ ≤ oneLo kn a + wdLo kn rest
      rw [hlo kn]; omega
    ·rw [if_neg h1, if_neg h1, yes_beq]
     by_cases h2 : o = 0
     ·rw [if_pos h2, yes_ble]
      by_cases h3 : x ≤ n
      ·rw [if_pos h3, if_pos ⟨h2, h3⟩]
       rcases takeK_lo rest 0 (Nat.sub n x) (consK a K) N with e2 | ⟨r, hr, e2, hl⟩
       ·exact .inl e2
       ·refine .inr ⟨.cons a r, ?_, e2, fun kn => ?_⟩
        ·show (match takeC rest 0 (Nat.sub n x) with | some r => some (SV.cons a r) | none => none) = _
         rw [hr]
        ·have := hl kn
         show _ ≤ oneLo kn a + wdLo kn rest
         rw [hlo kn]
         have e3 : Nat.sub n x = n - x := rfl
         rw [e3] at this
         omega
      ·rw [if_neg h3]; exact .inl rfl
     ·rw [if_neg h2]; exact .inl rfl
 | .undef, _, _, _, _ | .opq _, _, _, _, _ | .int _ _, _, _, _, _ | .bool _, _, _, _, _ | .nilp, _, _, _, _ | .ptr _ _ _, _, _, _, _ | .nils, _, _, _, _ | .sli _ _ _ _ _, _, _, _, _ | .fn _ _, _, _, _, _ | .nilf, _, _, _, _ | .ifc _ _, _, _, _, _ | .nili, _, _, _, _ | .agg _, _, _, _, _ | .tup _, _, _, _, _ | .arr _ _ _ _, _, _, _, _ | .wr _ _ _, _, _, _, _ | .rep _ _, _, _, _, _ => .inl rfl
abbrev DropT := SV → Nat → (SV → R) → R
noncomputable def keepW (i y : IE) (K : SV → R) (r : SV) : R := K (.wr i y r)
noncomputable def dropN (i y : IE) (r : SV) (ih : DropT) (n : Nat) (K : SV → R) (p : Nat) : R := yes (Nat.beq p n) (ih r n K) (ih r n (keepW i y K))
noncomputable def dropI (i y : IE) (r : SV) (ih : DropT) (n : Nat) (K : SV → R) : R := ieNat i (dropN i y r ih n K) (ih r n (keepW i y K))
noncomputable def dropK (ws : SV) : DropT := SV.rec (motive := fun _ => DropT) (fun v _ K => K v) (fun _ v _ K => K v) (fun _ _ v _ K => K v) (fun _ v _ K => K v) (fun v _ K => K v) (fun _ _ _ v _ K => K v) (fun v _ K => K v) (fun _ _ _ _ _ v _ K => K v) (fun _ _ _ v _ K => K v) (fun v _ K => K v) (fun _ _ _ v _ K => K v) (fun v _ K => K v) (fun _ _ v _ K => K v) (fun _ _ v _ K => K v) (fun v _ K => K v) (fun _ _ _ _ v _ K => K v) (fun _ _ _ _ _ v _ K => K v) (fun i y r ih _ n K => dropI i y r ih n K) (fun _ _ _ v _ K => K v) ws
theorem dropW_wr (idx i y : IE) (r : SV) : dropW idx (.wr i y r) = if i = idx then dropW idx r else .wr i y (dropW idx r) := rfl
theorem dropK_eq : ∀ (ws : SV) (n : Nat) (K : SV → R), dropK ws ws n K = K (dropW (.lit n) ws)
 | .wr i y r, n, K => by
  show ieNat i (dropN i y r (dropK r) n K) (dropK r r n (keepW i y K)) = _
  have key : dropK r r n (keepW i y K) = K (.wr i y (dropW (.lit n) r)) := dropK_eq r n (keepW i y K)
  rcases ieNat_eq i (dropN i y r (dropK r) n K) (dropK r r n (keepW i y K)) with e | ⟨p, hp, e⟩
  ·rw [e, key, dropW_wr]
   by_cases h : i = .lit n
   ·subst h
    have e' : ieNat (.lit (n : Int)) (dropN (.lit n) y r (dropK r) n K) (dropK r r n (keepW (.lit n) y K)) = dropN (.lit n) y r (dropK r) n K n := rfl
    have e2 : dropN (.lit n) y r (dropK r) n K n = dropK r r n K := by unfold dropN; rw [yes_beq, if_pos rfl]
    rw [if_pos rfl, ← dropK_eq r n K, ← e2, ← e', e, key]
   ·rw [if_neg h]
  ·rw [e]
   unfold dropN
   rw [yes_beq]
   subst hp
   rw [dropW_wr]
   by_cases h : p = n
   ·rw [if_pos h, if_pos (by rw [h]), dropK_eq r n K]
   ·rw [if_neg h, if_neg (by intro h2; injection h2 with h2; omega), key]
 | .undef, _, _ | .opq _, _, _ | .int _ _, _, _ | .bool _, _, _ | .nilp, _, _ | .ptr _ _ _, _, _ | .nils, _, _ | .sli _ _ _ _ _, _, _ | .fn _ _, _, _ | .nilf, _, _ | .ifc _ _, _, _ | .nili, _, _ | .agg _, _, _ | .tup _, _, _ | .arr _ _ _ _, _, _ | .rep _ _, _, _ => rfl
 | .nil, _, _ => rfl
 | .cons _ _, _, _ => rfl
noncomputable def onNil (v : SV) (a b : R) : R := SV.rec (motive := fun _ => R → R → R) (fun _ b => b) (fun _ _ b => b) (fun _ _ _ b => b) (fun _ _ b => b) (fun _ b => b) (fun _ _ _ _ b => b) (fun _ b => b) (fun _ _ _ _ _ _ b => b) (fun _ _ _ _ b => b) (fun _ b => b) (fun _ _ _ _ b => b) (fun _ b => b) (fun _ _ _ b => b) (fun _ _ _ b => b) (fun a _ => a) (fun _ _ _ _ _ b => b) (fun _ _ _ _ _ _ b => b) (fun _ _ _ _ _ b => b) (fun _ _ _ _ b => b) v a b
theorem onNil_eq (v : SV) (a b : R) : onNil v a b = if v = .nil then a else b := by cases v <;> rfl
noncomputable def sel2 (r n r' : Nat) (A B : R) (p : Nat) : R := yes (Nat.beq p n) (yes (Nat.beq r' r) (yes (Nat.beq r 0) B A) B) B
noncomputable def sel1 (r n : Nat) (A B : R) (r' : Nat) (i : IE) : R := ieNat i (sel2 r n r' A B) B
noncomputable def isSelK (e : IE) (r n : Nat) (A B : R) : R := ieSel e (sel1 r n A B) B
theorem isSelK_eq (e : IE) (r n : Nat) (A B : R) : isSelK e r n A B = if e = .sel r (.lit n) ∧ r ≠ 0 then A else B := by
 unfold isSelK
 cases e <;> try (rw [if_neg (by intro h; cases h.1)]; rfl)
 rename_i r' i
 show ieNat i (sel2 r n r' A B) B = _
 by_cases hi : ∃ p : Nat, i = .lit p
 ·obtain ⟨p, rfl⟩ := hi
  show sel2 r n r' A B p = _
  unfold sel2
  rw [yes_beq, yes_beq, yes_beq]
  by_cases h1 : p = n
  ·by_cases h2 : r' = r
   ·by_cases h3 : r = 0
    ·rw [if_pos h1, if_pos h2, if_pos h3, if_neg (fun h => h.2 h3)]
    ·rw [if_pos h1, if_pos h2, if_neg h3, if_pos ⟨by rw [h1, h2], h3⟩]
   ·rw [if_pos h1, if_neg h2, if_neg (by intro h; injection h.1 with h4; exact h2 h4)]
  ·rw [if_neg h1, if_neg (by intro h; injection h.1 with _ h4; injection h4 with h4; omega)]
 ·rw [if_neg (by intro h; injection h.1 with _ h4; exact hi ⟨n, h4⟩)]
  rcases ieNat_eq i (sel2 r n r' A B) B with e | ⟨p, hp, _⟩
  ·exact e
  ·exact absurd ⟨p, hp⟩ hi
noncomputable def addW1 (r n : Nat) (x : IE) (K : SV → R) (ws : SV) : R := onNil ws (isSelK x r n (K .nil) (K (.wr (.lit (.ofNat n)) x ws))) (K (.wr (.lit (.ofNat n)) x ws))
noncomputable def addWN (r : Nat) (x : IE) (ws : SV) (K : SV → R) (n : Nat) : R := dropK ws ws n (addW1 r n x K)
noncomputable def addWK (r n : Nat) (x : IE) (ws : SV) (K : SV → R) : R := forceN n (addWN r x ws K)
theorem addWK_eq (r n : Nat) (x : IE) (ws : SV) (K : SV → R) : addWK r n x ws K = K (addW r (.lit n) x ws) := by
 unfold addWK
 rw [forceN_eq]
 unfold addWN
 rw [dropK_eq]
 unfold addW1 addW
 rw [onNil_eq]
 by_cases h : dropW (.lit n) ws = .nil
 ·rw [if_pos h, isSelK_eq]
  by_cases h2 : x = .sel r (.lit n) ∧ r ≠ 0
  ·rw [if_pos h2, if_pos ⟨h, h2⟩]
  ·rw [if_neg h2, if_neg (fun e => h2 e.2)]; rfl
 ·rw [if_neg h, if_neg (fun e => h e.1)]; rfl
abbrev SetT := Nat → SV → (SV → R) → R → R
noncomputable def arrPut (k : IntKind) (r : Nat) (len : IE) (rest : SV) (K : SV → R) (ws : SV) : R := K (.cons (.arr k r len ws) rest)
noncomputable def arrSet (k : IntKind) (r : Nat) (len : IE) (ws rest : SV) (n : Nat) (K : SV → R) (N : R) (k' : IntKind) (e : IE) : R := yes (Nat.beq (kindNo k') (kindNo k)) (addWK r n e ws (arrPut k r len rest K)) N
noncomputable def arrS1 (k : IntKind) (r : Nat) (len : IE) (ws rest : SV) (ih : SetT) (n : Nat) (x : SV) (K : SV → R) (N : R) (l : Nat) : R :=
 yes (Nat.ble (Nat.succ n) l) (onInt x (arrSet k r len ws rest n K N) N) (ih (Nat.sub n l) x (consK (.arr k r len ws) K) N)
noncomputable def arrS (k : IntKind) (r : Nat) (len : IE) (ws rest : SV) (ih : SetT) (n : Nat) (x : SV) (K : SV → R) (N : R) : R := ieNat len (arrS1 k r len ws rest ih n x K N) N
noncomputable def cellS (a rest : SV) (ih : SetT) (n : Nat) (x : SV) (K : SV → R) (N : R) : R := yes (Nat.beq n 0) (K (.cons x rest)) (ih (Nat.pred n) x (consK a K) N)
noncomputable def setCell (a rest : SV) (ih : SetT) (n : Nat) (x : SV) (K : SV → R) (N : R) : R :=
 SV.rec (motive := fun _ => SV → SV → SetT → Nat → SV → (SV → R) → R → R) (fun _ _ _ _ _ _ N => N) (fun _ _ _ _ _ _ _ N => N) (fun _ _ v rest ih n x K N => cellS v rest ih n x K N) (fun _ v rest ih n x K N => cellS v rest ih n x K N) (fun v rest ih n x K N => cellS v rest ih n x K N) (fun _ _ _ v rest ih n x K N => cellS v rest ih n x K N) (fun v rest ih n x K N => cellS v rest ih n x K N) (fun _ _ _ _ _ v rest ih n x K N => cellS v rest ih n x K N) (fun _ _ _ v rest ih n x K N => cellS v rest ih n x K N) (fun v rest ih n x K N => cellS v rest ih n x K N) (fun _ _ _ v rest ih n x K N => cellS v rest ih n x K N) (fun v rest ih n x K N => cellS v rest ih n x K N) (fun _ _ _ _ _ _ _ _ N => N) (fun _ _ _ _ _ _ _ _ N => N) (fun _ _ _ _ _ _ N => N) (fun _ _ _ _ _ _ _ _ _ _ N => N) (fun k r len ws _ _ rest ih n x K N => arrS k r len ws rest ih n x K N) (fun _ _ _ _ _ _ _ _ _ _ N => N) (fun _ _ _ _ _ _ _ _ _ N => N) a a rest ih n x K N
noncomputable def setNK (c : SV) : SetT :=
 SV.rec (motive := fun _ => SetT)
  (fun _ _ _ N => N) (fun _ _ _ _ N => N) (fun _ _ _ _ _ N => N) (fun _ _ _ _ N => N) (fun _ _ _ N => N) (fun _ _ _ _ _ _ N => N) (fun _ _ _ N => N) (fun _ _ _ _ _ _ _ _ N => N)
  (fun _ _ _ _ _ _ N => N) (fun _ _ _ N => N) (fun _ _ _ _ _ _ N => N) (fun _ _ _ N => N) (fun _ _ _ _ _ N => N) (fun _ _ _ _ _ N => N)
  (fun _ _ _ N => N) (fun a rest _ ih n x K N => setCell a rest ih n x K N) (fun _ _ _ _ _ _ _ _ N => N)
  (fun _ _ _ _ _ _ _ N => N) (fun _ _ _ _ _ _ N => N) c
theorem setC_lit (a rest x : SV) (ha : a.isC = true) (hx : x.isC = true) (n : Nat) (m : Mem) : setC (.cons a rest) (.lit n) x m = if n = 0 then some [(.cons x rest, m)] else X.bind (setC rest (.lit ((n - 1 : Nat) : Int)) x) (fun r => X.pure (.cons a r)) m := by
 have e : setC (.cons a rest) (.lit (n : Int)) x = (if a.isC && x.isC then
    if IE.lit (n : Int) = .lit 0 then X.pure (.cons x rest) else withKnow fun kn =>
     if 1 ≤ (rng kn.facts (.lit (n : Int))).1 then X.bind (setC rest (mkSub (.lit (n : Int)) (.lit 1)) x) fun rest' => X.pure (.cons a rest') else
     if 0 ≤ (rng kn.facts (.lit (n : Int))).1 then X.bind (branch (mkEq kn (.lit (n : Int)) (.lit 0))) fun b => if b then X.pure (.cons x rest) else X.bind (setC rest (mkSub (.lit (n : Int)) (.lit 1)) x) fun rest' => X.pure (.cons a rest') else X.none
   else X.none) := by cases a <;> first | rfl | cases ha
 rw [e, if_pos (by rw [ha, hx]; rfl)]
 cases n with
 | zero => rfl
 | succ n =>
  rw [if_neg (by intro h; injection h with h; omega)]
  unfold withKnow
  dsimp only
  rw [if_pos (by show (1 : Int) ≤ ((n + 1 : Nat) : Int); omega), lit_succ, if_neg (by omega)]
  rfl
theorem setC_arr (k : IntKind) (r l : Nat) (ws rest x : SV) (n : Nat) (m : Mem) : setC (.cons (.arr k r (.lit l) ws) rest) (.lit n) x m = if n < l then (match x with | .int k' e => if k' = k then some [(.cons (.arr k r (.lit l) (addW r (.lit n) e ws)) rest, m)] else none | _ => none) else X.bind (setC rest (.lit ((n - l : Nat) : Int)) x) (fun r' => X.pure (.cons (.arr k r (.lit l) ws) r')) m := by
 show (withKnow fun kn =>
   if 0 ≤ (rng kn.facts (.lit (n : Int))).1 then
    X.bind (branch (mkLt kn (.lit (n : Int)) (.lit l))) fun b => if b then (match x with
     | .int k' e => if k' = k then X.pure (SV.cons (.arr k r (.lit l) (addW r (.lit n) e ws)) rest) else X.none
     | _ => X.none) else
     withKnow fun kn => if 0 ≤ (rng kn.facts (.lit l)).1 then X.bind (setC rest (mkSub (.lit (n : Int)) (.lit l)) x) fun rest' => X.pure (SV.cons (.arr k r (.lit l) ws) rest') else X.none
   else X.none) m = _
 unfold withKnow
 dsimp only
 rw [if_pos (by show (0 : Int) ≤ (n : Int); omega), bind_one (m' := m) (a := decide ((n : Int) < l)) rfl]
 by_cases h : n < l
 ·rw [if_pos h, if_pos (by simpa using h)]
  cases x <;> try rfl
  rename_i k' e
  dsimp only
  by_cases hk : k' = k
  ·rw [if_pos hk, if_pos hk]; rfl
  ·rw [if_neg hk, if_neg hk]; rfl
 ·rw [if_neg h, if_neg (by simpa using h), if_pos (by show (0 : Int) ≤ (l : Int); omega)]
  rw [show mkSub (.lit (n : Int)) (.lit (l : Int)) = .lit ((n - l : Nat) : Int) by
   show IE.lit ((n : Int) + -(l : Int)) = _
   congr 1 <;> omega]
theorem setNK_at : ∀ (c : SV) (n : Nat) (x : SV) (K : SV → R) (N : R), x.isC = true → setNK c n x K N = N ∨ ∃ c', (∀ m, setC c (.lit n) x m = some [(c', m)]) ∧ (∀ kn, (n : Int) ≤ wdLo kn c) ∧ setNK c n x K N = K c'
 | .cons a rest, n, x, K, N, hx => by
  show setCell a rest (setNK rest) n x K N = N ∨ ∃ c', _ ∧ _ ∧ setCell a rest (setNK rest) n x K N = K c'
  by_cases ha : a.isC = true
  ·have e : setCell a rest (setNK rest) n x K N = yes (Nat.beq n 0) (K (.cons x rest)) (setNK rest (Nat.pred n) x (consK a K) N) := by cases a <;> first | rfl | cases ha
   have hlo : ∀ kn, oneLo kn a = 1 := fun kn => by cases a <;> first | rfl | cases ha
   rw [e, yes_beq]
   by_cases h : n = 0
   ·rw [if_pos h]
    refine .inr ⟨.cons x rest, fun m => by rw [setC_lit a rest x ha hx, if_pos h], fun kn => ?_, rfl⟩
    rw [h]; exact wdLo_nonneg kn _
   ·rw [if_neg h]
    rcases setNK_at rest (Nat.pred n) x (consK a K) N hx with h1 | ⟨v, h1, h3, h2⟩
    ·exact .inl h1
    ·refine .inr ⟨.cons a v, fun m => by rw [setC_lit a rest x ha hx, if_neg h]; exact bind_one (f := fun r => X.pure (SV.cons a r)) (h1 m), fun kn => ?_, h2⟩
     have := h3 kn
     show _ ≤ oneLo kn a + wdLo kn rest
     rw [hlo kn]
     have e3 : Nat.pred n = n - 1 := rfl
     rw [e3] at this
     omega
  ·cases a with
   | arr k r len ws =>
    show ieNat len (arrS1 k r len ws rest (setNK rest) n x K N) N = N ∨ ∃ c', _ ∧ _ ∧ ieNat len (arrS1 k r len ws rest (setNK rest) n x K N) N = K c'
    rcases ieNat_eq len (arrS1 k r len ws rest (setNK rest) n x K N) N with e | ⟨l, hl, e⟩
    ·exact .inl e
    ·subst hl
     have hlo : ∀ kn, oneLo kn (.arr k r (.lit l) ws) = l := fun kn => by
      show (if 0 ≤ (rng kn.facts (.lit (l : Int))).1 then (rng kn.facts (.lit (l : Int))).1 else 0) = _
      rw [if_pos (by show (0 : Int) ≤ (l : Int); omega)]; rfl
     rw [e]
     unfold arrS1
     rw [yes_ble]
     by_cases h : Nat.succ n ≤ l
     ·rw [if_pos h]
      cases x with
      | int k' y =>
       show yes (Nat.beq (kindNo k') (kindNo k)) (addWK r n y ws (arrPut k r (.lit l) rest K)) N = N ∨ ∃ c', _ ∧ _ ∧ yes (Nat.beq (kindNo k') (kindNo k)) (addWK r n y ws (arrPut k r (.lit l) rest K)) N = K c'
       rw [yes_eq]
       split
       ·rename_i hk
        have hk := kindNo_eq hk
        subst hk
        rw [addWK_eq]
        refine .inr ⟨_, fun m => by rw [setC_arr, if_pos (show n < l from h)]; dsimp only; rw [if_pos rfl], fun kn => ?_, rfl⟩
        have := wdLo_nonneg kn rest
        show _ ≤ oneLo kn _ + wdLo kn rest
        rw [hlo kn]
        have : n < l := h
        omega
       ·exact .inl rfl
      | _ => exact .inl rfl
     ·rw [if_neg h]
      rcases setNK_at rest (Nat.sub n l) x (consK (.arr k r (.lit l) ws) K) N hx with h1 | ⟨v, h1, h3, h2⟩
      ·exact .inl h1
      ·refine .inr ⟨.cons (.arr k r (.lit l) ws) v, fun m => by rw [setC_arr, if_neg (show ¬ n < l from h)]; exact bind_one (f := fun r' => X.pure (SV.cons (.arr k r (.lit l) ws) r')) (h1 m), fun kn => ?_, h2⟩
       have := h3 kn
       show _ ≤ oneLo kn _ + wdLo kn rest
       rw [hlo kn]
       have e3 : Nat.sub n l = n - l := rfl
       rw [e3] at this
       have : ¬ n < l := h
       omega
   | _ => first | exact .inl rfl | exact absurd rfl ha
 | .undef, _, _, _, _, _ | .opq _, _, _, _, _, _ | .int _ _, _, _, _, _, _ | .bool _, _, _, _, _, _ | .nilp, _, _, _, _, _ | .ptr _ _ _, _, _, _, _, _ | .nils, _, _, _, _, _ | .sli _ _ _ _ _, _, _, _, _, _ | .fn _ _, _, _, _, _, _ | .nilf, _, _, _, _, _ | .ifc _ _, _, _, _, _, _ | .nili, _, _, _, _, _ | .agg _, _, _, _, _, _ | .tup _, _, _, _, _, _ | .arr _ _ _ _, _, _, _, _, _ | .wr _ _ _, _, _, _, _, _ | .rep _ _, _, _, _, _, _ => .inl rfl
 | .nil, _, _, _, _, _ => .inl rfl
noncomputable def consE (x : Ent) (K : List Ent → R) (r : List Ent) : R := K (x :: r)
noncomputable def updF (l : List Ent) : Nat → Nat → SV → (List Ent → R) → R :=
 List.rec (motive := fun _ => Nat → Nat → SV → (List Ent → R) → R) (fun _ _ _ K => K [])
  (fun x r ih s k c K => Ent.rec (motive := fun _ => Ent → List Ent → (Nat → Nat → SV → (List Ent → R) → R) → Nat → Nat → SV → (List Ent → R) → R)
   (fun s' k' ro t b _ x r ih s k c K => yes (hitE k' k s' s) (K (⟨s', k', ro, t, b, c⟩ :: r)) (ih s k c (consE x K))) x x r ih s k c K) l
theorem updF_eq (s k : Nat) (c : SV) : ∀ (l : List Ent) (K : List Ent → R), updF l s k c K = K (upd1 s k c l)
 | [], _ => rfl
 | x :: l, K => by
  obtain ⟨s', k', ro, t, b, c'⟩ := x
  show yes (hitE k' k s' s) (K (⟨s', k', ro, t, b, c⟩ :: l)) (updF l s k c (consE ⟨s', k', ro, t, b, c'⟩ K)) = _
  rw [hitE_eq, yes_eq, updF_eq s k c l]
  show _ = K (if s' = s ∧ k' = k then (⟨s', k', ro, t, b, c⟩ : Ent) :: l else ⟨s', k', ro, t, b, c'⟩ :: upd1 s k c l)
  by_cases h : s' = s ∧ k' = k
  ·rw [if_pos h, if_pos (by rw [h.1, h.2, Nat.beq_refl, Nat.beq_refl]; rfl)]
  ·rw [if_neg h, if_neg (by
    intro e
    simp only [Bool.and_eq_true] at e
    exact h ⟨Nat.eq_of_beq_eq_true e.2, Nat.eq_of_beq_eq_true e.1⟩)]
   rfl
noncomputable def put1 (C : Ctx) (v : SV) (kn : Know) (sg nx nv : Nat) (h : List Ent) : R := finM C v ⟨kn, h, sg, nx, nv⟩
noncomputable def putC (C : Ctx) (s k : Nat) (c : SV) : R :=
 Ctx.rec (motive := fun _ => Ctx → Nat → Nat → SV → R) (fun _ _ _ _ _ m _ C s k c => Mem.rec (motive := fun _ => Ctx → Nat → Nat → SV → R) (fun kn h sg nx nv C s k c => updF h s k c (put1 C .undef kn sg nx nv)) m C s k c) C C s k c
theorem putC_eq (C : Ctx) (s k : Nat) (c : SV) : putC C s k c = finM C .undef { C.m with heap := upd1 s k c C.m.heap } := by
 show updF C.m.heap s k c (put1 C .undef C.m.know C.m.seg C.m.next C.m.nv) = _
 rw [updF_eq]
 rfl
theorem putX_run (s k : Nat) (c : SV) (m : Mem) : putX s k c m = some [((), { m with heap := upd1 s k c m.heap })] := by
 obtain ⟨kn, h, sg, nx, nv⟩ := m
 show nfS c (fun c => upd1K s k c h fun h' => some [((), (⟨kn, h', sg, nx, nv⟩ : Mem))]) = _
 rw [nfS_eq, upd1K_eq]
noncomputable def st6 (C : Ctx) (s k n : Nat) (x c : SV) : R := setNK c n x (putC C s k) (fb C)
noncomputable def st5 (C : Ctx) (s k n : Nat) (x : SV) (ro : Bool) (b : IE) (c : SV) : R := yes ro (fb C) (atE (fb C) (st6 C s k n x) ro b c)
noncomputable def st4 (C : Ctx) (s k n : Nat) (x : SV) : R := cOr x (blockOfC C s k (st5 C s k n x)) (fb C)
noncomputable def st3 (v : CO) (C : Ctx) (s k n : Nat) : R := opdC v C (st4 C s k n)
noncomputable def st2 (v : CO) (C : Ctx) (p : SV) : R := onPtrN p C (st3 v C)
noncomputable def stK (x v : CO) (C : Ctx) : R := opdC x C (st2 v C)
theorem rowPut_one {c x c' : SV} {n : Nat} {m : Mem} (hx : x.isC = true) (h : setC c (.lit n) x m = some [(c', m)]) : rowPut c (.cons x .nil) 1 (.lit n) m = some [(c', m)] := by
 unfold rowPut
 rw [if_pos (by show x.isC = true; exact hx)]
 unfold setN
 rw [if_pos hx, bind_one h]
 rfl
section
variable {P : Program} {T : Tab P} {cx : CX} {C : Ctx}
theorem storeS_run {t z s k n : Nat} {v vc c' : SV} {en : Ent} {m : Mem} (hf : m.find s k = some en) (hr : en.ro = false) (hb : en.base = .lit 0) (hz : sizeIn T t = some z) (hv : cellsS v = some vc) (hw : wd vc = some z)
  (hlo : ∀ kn, (n : Int) ≤ wdLo kn en.c) (hp : rowPut en.c vc z (.lit n) m = some [(c', m)]) : storeS T t (.ptr s k (.lit n)) v m = some [((), { m with heap := upd1 s k c' m.heap })] := by
 unfold storeS
 dsimp only
 rw [bind_one (a := en) (m' := m) (by unfold findX; rw [hf]; rfl)]
 unfold withKnow
 dsimp only
 rw [place_lit _ hb, bind_one (a := IE.lit n) (m' := m) rfl, hv, hz]
 dsimp only
 rw [if_pos ⟨hr, hw, by
  unfold fitsIn
  simp only [Bool.and_eq_true, Bool.or_eq_true, decide_eq_true_eq]
  exact ⟨by show (0 : Int) ≤ (n : Int); omega, .inl (hlo _)⟩⟩, bind_one hp]
 obtain ⟨_, h1, h2⟩ := Mem.find_ok hf
 rw [h1, h2]
 exact putX_run s k c' m
theorem st_fin (h : Fits T cx C) {t s k n : Nat} {x y : Operand} {v c' : SV} (ho : C.o.op = .store t x y) (hx : opd ⟨C.n, C.t⟩ x = some (.ptr s k (.lit n))) (hy : opd ⟨C.n, C.t⟩ y = some v)
  (hs : storeS T t (.ptr s k (.lit n)) v C.m = some [((), { C.m with heap := upd1 s k c' C.m.heap })]) : putC C s k c' = fb C := by
 rw [putC_eq]
 have ha : appArgs T ⟨C.n, C.t⟩ C.o = none := by unfold appArgs; rw [ho]
 refine h.skip ha ?_
 unfold opS
 rw [ho]
 dsimp only
 rw [hx, hy]
 dsimp only
 rw [bind_one hs]
 rfl
theorem st_ok (h : Fits T cx C) {t : Nat} {x y : Operand} (ho : C.o.op = .store t x y) (hz : sizeIn T t = some 1) : stK (coOf x) (coOf y) C = fb C := by
 unfold stK
 rw [opdC_eq]
 unfold st2
 rcases onPtrN_eq ((coOf x).of C.t) C (st3 (coOf y) C) with e | ⟨s, k, n, hv, e⟩
 ·exact e
 ·rw [e]
  unfold st3
  rw [opdC_eq]
  unfold st4
  rw [cOr_eq]
  split
  ·rename_i hc
   rw [blockOfC_eq]
   cases hf : C.m.find s k with
   | none => rfl
   | some en =>
    dsimp only
    unfold st5
    rw [yes_eq]
    split
    ·rfl
    ·rename_i hr
     have hr : en.ro = false := by simpa using hr
     rcases atE_eq (fb C) (st6 C s k n ((coOf y).of C.t)) en.ro en.base en.c with e2 | ⟨hb, e2⟩
     ·exact e2
     ·rw [e2]
      unfold st6
      rcases setNK_at en.c n ((coOf y).of C.t) (putC C s k) (fb C) hc with e3 | ⟨c', hg, hlo, e3⟩
      ·exact e3
      ·rw [e3]
       have hx : opd ⟨C.n, C.t⟩ x = some (.ptr s k (.lit n)) := by rw [coOf_ok (by rw [hv]; exact fun e => (by cases e)), hv]
       have hy : opd ⟨C.n, C.t⟩ y = some ((coOf y).of C.t) := coOf_ok (by intro e; rw [e] at hc; cases hc)
       refine st_fin h ho hx hy (storeS_run hf hr hb hz (vc := .cons ((coOf y).of C.t) .nil) ?_ ?_ hlo (rowPut_one hc (hg C.m)))
       ·revert hc; cases (coOf y).of C.t <;> intro hc <;> first | rfl | cases hc
       ·revert hc; cases (coOf y).of C.t <;> intro hc <;> first | rfl | cases hc
  ·rfl
end
abbrev FlatT := Nat → (SV → R) → R → R
noncomputable def flat1 (a : SV) (ih : FlatT) (n : Nat) (K : SV → R) (N : R) (x : Nat) : R := yes (Nat.ble x n) (ih (Nat.sub n x) (consK a K) N) N
noncomputable def flatK (c : SV) : FlatT := SV.rec (motive := fun _ => FlatT) (fun _ _ N => N) (fun _ _ _ N => N) (fun _ _ _ _ N => N) (fun _ _ _ N => N) (fun _ _ N => N) (fun _ _ _ _ _ N => N) (fun _ _ N => N) (fun _ _ _ _ _ _ _ N => N) (fun _ _ _ _ _ N => N) (fun _ _ N => N) (fun _ _ _ _ _ N => N) (fun _ _ N => N) (fun _ _ _ _ N => N) (fun _ _ _ _ N => N) (fun n K N => yes (Nat.beq n 0) (K .nil) N) (fun a _ _ ih n K N => widK a (flat1 a ih n K N) N) (fun _ _ _ _ _ _ _ N => N) (fun _ _ _ _ _ _ N => N) (fun _ _ _ _ _ N => N) c
theorem widK_flat (a : SV) (K : Nat → R) (N : R) : widK a K N = N ∨ ∃ x, (a.isC || (match a with | .arr _ _ _ _ => true | _ => false)) = true ∧ wd a = some x ∧ widK a K N = K x := by
 rcases widK_at a K N with e | ⟨x, h1, h2⟩
 ·exact .inl e
 ·cases a <;> first | exact .inl rfl | exact .inr ⟨x, rfl, h1, h2⟩
theorem flatK_at : ∀ (c : SV) (n : Nat) (K : SV → R) (N : R), flatK c n K N = N ∨ (flat c = true ∧ wd c = some n ∧ flatK c n K N = K c)
 | .nil, n, K, N => by
  show yes (Nat.beq n 0) (K .nil) N = N ∨ (_ ∧ _ ∧ yes (Nat.beq n 0) (K .nil) N = K .nil)
  rw [yes_beq]
  by_cases h : n = 0
  ·subst h; exact .inr ⟨rfl, rfl, by rw [if_pos rfl]⟩
  ·rw [if_neg h]; exact .inl rfl
 | .cons a r, n, K, N => by
  show widK a (flat1 a (flatK r) n K N) N = N ∨ (_ ∧ _ ∧ widK a (flat1 a (flatK r) n K N) N = K (.cons a r))
  rcases widK_flat a (flat1 a (flatK r) n K N) N with e | ⟨x, h1, h2, e⟩
  ·exact .inl e
  ·rw [e]
   unfold flat1
   rw [yes_ble]
   by_cases h : x ≤ n
   ·rw [if_pos h]
    rcases flatK_at r (Nat.sub n x) (consK a K) N with e2 | ⟨h3, h4, e2⟩
    ·exact .inl e2
    ·refine .inr ⟨?_, ?_, e2⟩
     ·unfold flat
      rw [h3, Bool.and_true]
      exact h1
     ·show (match wd a, wd r with | some x, some y => some (x + y) | _, _ => none) = _
      rw [h2, h4]
      show some (x + (n - x)) = _
      congr 1 <;> omega
   ·rw [if_neg h]; exact .inl rfl
 | .undef, _, _, _ | .opq _, _, _, _ | .int _ _, _, _, _ | .bool _, _, _, _ | .nilp, _, _, _ | .ptr _ _ _, _, _, _ | .nils, _, _, _ | .sli _ _ _ _ _, _, _, _ | .fn _ _, _, _, _ | .nilf, _, _, _ | .ifc _ _, _, _, _ | .nili, _, _, _ | .agg _, _, _, _ | .tup _, _, _, _ | .arr _ _ _ _, _, _, _ | .wr _ _ _, _, _, _ | .rep _ _, _, _, _ => .inl rfl
noncomputable def wdt1 (ih : Nat → (Nat → R) → R → R) (n : Nat) (K : Nat → R) (N : R) (x : Nat) : R := ih (Nat.add n x) K N
noncomputable def wdK (c : SV) : Nat → (Nat → R) → R → R := SV.rec (motive := fun _ => Nat → (Nat → R) → R → R) (fun _ _ N => N) (fun _ _ _ N => N) (fun _ _ _ _ N => N) (fun _ _ _ N => N) (fun _ _ N => N) (fun _ _ _ _ _ N => N) (fun _ _ N => N) (fun _ _ _ _ _ _ _ N => N) (fun _ _ _ _ _ N => N) (fun _ _ N => N) (fun _ _ _ _ _ N => N) (fun _ _ N => N) (fun _ _ _ _ N => N) (fun _ _ _ _ N => N) (fun n K _ => K n) (fun a _ _ ih n K N => widK a (wdt1 ih n K N) N) (fun _ _ _ _ _ _ _ N => N) (fun _ _ _ _ _ _ N => N) (fun _ _ _ _ _ N => N) c
theorem wdK_at : ∀ (c : SV) (n : Nat) (K : Nat → R) (N : R), wdK c n K N = N ∨ ∃ x, wd c = some x ∧ wdK c n K N = K (n + x)
 | .nil, n, K, N => .inr ⟨0, rfl, rfl⟩
 | .cons a r, n, K, N => by
  show widK a (wdt1 (wdK r) n K N) N = N ∨ ∃ x, _ ∧ widK a (wdt1 (wdK r) n K N) N = K (n + x)
  rcases widK_at a (wdt1 (wdK r) n K N) N with e | ⟨x, h1, e⟩
  ·exact .inl e
  ·rw [e]
   unfold wdt1
   rcases wdK_at r (Nat.add n x) K N with e2 | ⟨y, h2, e2⟩
   ·exact .inl e2
   ·refine .inr ⟨x + y, ?_, ?_⟩
    ·show (match wd a, wd r with | some x, some y => some (x + y) | _, _ => none) = _
     rw [h1, h2]
    ·rw [e2]
     show K (n + x + y) = _
     congr 1; omega
 | .undef, _, _, _ | .opq _, _, _, _ | .int _ _, _, _, _ | .bool _, _, _, _ | .nilp, _, _, _ | .ptr _ _ _, _, _, _ | .nils, _, _, _ | .sli _ _ _ _ _, _, _, _ | .fn _ _, _, _, _ | .nilf, _, _, _ | .ifc _ _, _, _, _ | .nili, _, _, _ | .agg _, _, _, _ | .tup _, _, _, _ | .arr _ _ _ _, _, _, _ | .wr _ _ _, _, _, _ | .rep _ _, _, _, _ => .inl rfl
noncomputable def appK (c : SV) : SV → SV → (SV → R) → R := SV.rec (motive := fun _ => SV → SV → (SV → R) → R) (fun v b K => K (.cons v b)) (fun _ v b K => K (.cons v b)) (fun _ _ v b K => K (.cons v b)) (fun _ v b K => K (.cons v b)) (fun v b K => K (.cons v b)) (fun _ _ _ v b K => K (.cons v b)) (fun v b K => K (.cons v b)) (fun _ _ _ _ _ v b K => K (.cons v b)) (fun _ _ _ v b K => K (.cons v b)) (fun v b K => K (.cons v b)) (fun _ _ _ v b K => K (.cons v b)) (fun v b K => K (.cons v b)) (fun _ _ v b K => K (.cons v b)) (fun _ _ v b K => K (.cons v b)) (fun _ b K => K b) (fun a r _ ih _ b K => ih r b (consK a K)) (fun _ _ _ _ _ v b K => K (.cons v b)) (fun _ _ _ _ v b K => K (.cons v b)) (fun _ _ _ v b K => K (.cons v b)) c
theorem appK_eq : ∀ (a b : SV) (K : SV → R), appK a a b K = K (appC a b)
 | .nil, _, _ => rfl
 | .cons a r, b, K => appK_eq r b (consK a K)
 | .undef, _, _ | .opq _, _, _ | .int _ _, _, _ | .bool _, _, _ | .nilp, _, _ | .ptr _ _ _, _, _ | .nils, _, _ | .sli _ _ _ _ _, _, _ | .fn _ _, _, _ | .nilf, _, _ | .ifc _ _, _, _ | .nili, _, _ | .agg _, _, _ | .tup _, _, _ | .arr _ _ _ _, _, _ | .wr _ _ _, _, _ | .rep _ _, _, _ => rfl
noncomputable def sa9 (C : Ctx) (s k : Nat) (x b : SV) : R := appK x x b (putC C s k)
noncomputable def sa8 (C : Ctx) (s k : Nat) (vc x y : SV) : R := appK vc vc y (sa9 C s k x)
noncomputable def sa7 (C : Ctx) (s k n z : Nat) (vc c : SV) (N : Nat) (x : SV) : R := takeK c (Nat.add n z) (Nat.sub N (Nat.add n z)) (sa8 C s k vc x) (fb C)
noncomputable def sa6 (C : Ctx) (s k n z : Nat) (vc c : SV) (N : Nat) : R := takeK c 0 n (sa7 C s k n z vc c N) (fb C)
noncomputable def sa5 (C : Ctx) (s k n z : Nat) (vc c : SV) : R := wdK c 0 (sa6 C s k n z vc c) (fb C)
noncomputable def sa4 (C : Ctx) (s k n z : Nat) (vc : SV) (ro : Bool) (b : IE) (c : SV) : R := yes ro (fb C) (atE (fb C) (sa5 C s k n z vc) ro b c)
noncomputable def sa3 (C : Ctx) (z s k n : Nat) (vc : SV) : R := blockOfC C s k (sa4 C s k n z vc)
noncomputable def sa2 (C : Ctx) (z s k n : Nat) (vc : SV) : R := flatK vc z (sa3 C z s k n) (fb C)
noncomputable def sa1 (C : Ctx) (z s k n : Nat) (v : SV) : R := onAgg v (sa2 C z s k n) (fb C)
noncomputable def sa0 (z : Nat) (v : CO) (C : Ctx) (s k n : Nat) : R := opdC v C (sa1 C z s k n)
noncomputable def saP (z : Nat) (v : CO) (C : Ctx) (p : SV) : R := onPtrN p C (sa0 z v C)
noncomputable def stAK (z : Nat) (x v : CO) (C : Ctx) : R := opdC x C (saP z v C)
theorem rowPut_row {c vc x y : SV} {n z N : Nat} {m : Mem} (hz : z ≠ 1) (hf : flat vc = true) (hw : wd vc = some z) (hN : wd c = some N) (hx : takeC c 0 n = some x) (hy : takeC c (n + z) (N - (n + z)) = some y) :
  rowPut c vc z (.lit n) m = some [(appC x (appC vc y), m)] := by
 have hs : single vc = false := by
  cases h : single vc with
  | false => rfl
  | true =>
   exfalso
   unfold single at h
   split at h
   ·rename_i a
    have : wd (SV.cons a .nil) = some 1 := by
     have e : wd a = some 1 := by cases a <;> first | rfl | cases h
     show (match wd a, wd .nil with | some x, some y => some (x + y) | _, _ => none) = _
     rw [e]; rfl
    rw [this] at hw
    cases hw
    exact hz rfl
   ·cases h
 unfold rowPut
 rw [if_neg (by rw [hs]; exact fun e => by cases e)]
 dsimp only
 rw [if_pos ⟨by omega, hf⟩, Int.toNat_natCast]
 unfold spliceC
 rw [hN]
 dsimp only
 rw [hx, hy]
 rfl
section
variable {P : Program} {T : Tab P} {cx : CX} {C : Ctx}
theorem sta_ok (h : Fits T cx C) {t z : Nat} {x y : Operand} (ho : C.o.op = .store t x y) (hz : sizeIn T t = some z) (h1 : z ≠ 1) : stAK z (coOf x) (coOf y) C = fb C := by
 unfold stAK
 rw [opdC_eq]
 unfold saP
 rcases onPtrN_eq ((coOf x).of C.t) C (sa0 z (coOf y) C) with e | ⟨s, k, n, hv, e⟩
 ·exact e
 ·rw [e]
  unfold sa0
  rw [opdC_eq]
  unfold sa1
  cases hw : (coOf y).of C.t <;> try rfl
  rename_i vc
  show sa2 C z s k n vc = _
  unfold sa2
  rcases flatK_at vc z (sa3 C z s k n) (fb C) with e2 | ⟨hfl, hwd, e2⟩
  ·exact e2
  ·rw [e2]
   unfold sa3
   rw [blockOfC_eq]
   cases hf : C.m.find s k with
   | none => rfl
   | some en =>
    dsimp only
    unfold sa4
    rw [yes_eq]
    split
    ·rfl
    ·rename_i hr
     have hr : en.ro = false := by simpa using hr
     rcases atE_eq (fb C) (sa5 C s k n z vc) en.ro en.base en.c with e3 | ⟨hb, e3⟩
     ·exact e3
     ·rw [e3]
      unfold sa5
      rcases wdK_at en.c 0 (sa6 C s k n z vc en.c) (fb C) with e4 | ⟨N, hN, e4⟩
      ·exact e4
      ·rw [e4]
       unfold sa6
       rcases takeK_lo en.c 0 n (sa7 C s k n z vc en.c (0 + N)) (fb C) with e5 | ⟨p, hp, e5, hlo⟩
       ·exact e5
       ·rw [e5]
        unfold sa7
        rcases takeK_at en.c (Nat.add n z) (Nat.sub (0 + N) (Nat.add n z)) (sa8 C s k vc p) (fb C) with e6 | ⟨q, hq, e6⟩
        ·exact e6
        ·rw [e6]
         unfold sa8
         rw [appK_eq]
         unfold sa9
         rw [appK_eq]
         have hx : opd ⟨C.n, C.t⟩ x = some (.ptr s k (.lit n)) := by rw [coOf_ok (by rw [hv]; exact fun e => (by cases e)), hv]
         have hy : opd ⟨C.n, C.t⟩ y = some (.agg vc) := by rw [coOf_ok (by rw [hw]; exact fun e => (by cases e)), hw]
         refine st_fin h ho hx hy (storeS_run hf hr hb hz (vc := vc) rfl hwd (fun kn => by have := hlo kn; omega) ?_)
         refine rowPut_row h1 hfl hwd hN hp ?_
         rw [Nat.zero_add] at hq
         exact hq
end
end Go.Sx
namespace Go.Sx
open Go
abbrev G1 := Know → SV → Option SV
abbrev G2 := Know → SV → SV → Option SV
noncomputable def know1 (C : Ctx) (g : G1) (v : SV) : R := Ctx.rec (motive := fun _ => Ctx → G1 → SV → R) (fun _ _ _ _ _ m _ C g v => optFin C (g (Mem.know m) v)) C C g v
noncomputable def know2 (C : Ctx) (g : G2) (v w : SV) : R := Ctx.rec (motive := fun _ => Ctx → G2 → SV → SV → R) (fun _ _ _ _ _ m _ C g v w => optFin C (g (Mem.know m) v w)) C C g v w
theorem know1_eq (C : Ctx) (g : G1) (v : SV) : know1 C g v = match g C.m.know v with | some r => fin C r | none => fb C := optFin_eq C _
theorem know2_eq (C : Ctx) (g : G2) (v w : SV) : know2 C g v w = match g C.m.know v w with | some r => fin C r | none => fb C := optFin_eq C _
noncomputable def p1a (C : Ctx) (g : G1) (v : SV) : R := nnS v (know1 C g) (fb C)
noncomputable def p1K (g : G1) (x : CO) (C : Ctx) : R := opdC x C (p1a C g)
noncomputable def finPtr (C : Ctx) (s k n : Nat) : R := fin C (.ptr s k (.lit (.ofNat n)))
noncomputable def fa2 (off : Nat) (C : Ctx) (s k n : Nat) : R := forceN (Nat.add n off) (finPtr C s k)
noncomputable def fa1 (off : Nat) (g : G1) (C : Ctx) (s k : Nat) (e : IE) : R := ieNat e (fa2 off C s k) (know1 C g (.ptr s k e))
noncomputable def fa0 (off : Nat) (g : G1) (C : Ctx) (v : SV) : R := onPtr v (fa1 off g C) (fb C)
noncomputable def faK (off : Nat) (g : G1) (x : CO) (C : Ctx) : R := opdC x C (fa0 off g C)
noncomputable def ia6 (n z : Nat) (C : Ctx) (s k a : Nat) (G : R) (b : Nat) : R := yes (Nat.ble (Nat.succ b) n) (forceN (Nat.add a (Nat.mul b z)) (finPtr C s k)) G
noncomputable def ia5 (n z : Nat) (C : Ctx) (s k : Nat) (i : IE) (G : R) (a : Nat) : R := ieNat i (ia6 n z C s k a G) G
noncomputable def ia4 (n z : Nat) (g : G2) (C : Ctx) (v : SV) (s k : Nat) (e : IE) (kd : IntKind) (i : IE) : R := ieNat e (ia5 n z C s k i (know2 C g v (.int kd i))) (know2 C g v (.int kd i))
noncomputable def ia3 (n z : Nat) (g : G2) (C : Ctx) (v : SV) (s k : Nat) (e : IE) (w : SV) : R := onInt w (ia4 n z g C v s k e) (fb C)
noncomputable def ia1 (n z : Nat) (g : G2) (i : CO) (C : Ctx) (s k : Nat) (e : IE) : R := opdC i C (ia3 n z g C (.ptr s k e) s k e)
noncomputable def ia0 (n z : Nat) (g : G2) (i : CO) (C : Ctx) (v : SV) : R := onPtr v (ia1 n z g i C) (fb C)
noncomputable def iaK (n z : Nat) (g : G2) (x i : CO) (C : Ctx) : R := opdC x C (ia0 n z g i C)
noncomputable def is5 (z : Nat) (g : G2) (C : Ctx) (v : SV) (s k : Nat) (e : IE) (kd : IntKind) (i : IE) (n : Nat) : R := ia4 n z g C v s k e kd i
noncomputable def is4 (z : Nat) (g : G2) (C : Ctx) (v : SV) (s k : Nat) (e len : IE) (kd : IntKind) (i : IE) : R := ieNat len (is5 z g C v s k e kd i) (know2 C g v (.int kd i))
noncomputable def is3 (z : Nat) (g : G2) (C : Ctx) (v : SV) (s k : Nat) (e len : IE) (w : SV) : R := onInt w (is4 z g C v s k e len) (fb C)
noncomputable def is1 (z : Nat) (g : G2) (i : CO) (C : Ctx) (s k : Nat) (e len cap : IE) : R := opdC i C (is3 z g C (.sli s k e len cap) s k e len)
noncomputable def is0 (z : Nat) (g : G2) (i : CO) (C : Ctx) (v : SV) : R := onSli v (is1 z g i C) (fb C)
noncomputable def isK2 (z : Nat) (g : G2) (x i : CO) (C : Ctx) : R := opdC x C (is0 z g i C)
noncomputable def chkOr (v : SV) (a b : R) : R := SV.rec (motive := fun _ => R → R → R) (fun _ b => b) (fun _ _ b => b) (fun _ _ _ b => b) (fun _ _ b => b) (fun _ b => b) (fun _ _ _ a _ => a) (fun _ b => b) (fun _ _ _ _ _ _ b => b) (fun _ _ _ a _ => a) (fun _ b => b) (fun _ _ _ a _ => a) (fun _ b => b) (fun _ _ _ b => b) (fun _ _ _ b => b) (fun _ b => b) (fun _ _ _ _ _ b => b) (fun _ _ _ _ _ _ b => b) (fun _ _ _ _ _ b => b) (fun _ _ _ _ b => b) v a b
noncomputable def nc0 (C : Ctx) (v : SV) : R := chkOr v (fin C v) (fb C)
noncomputable def ncK (x : CO) (C : Ctx) : R := opdC x C (nc0 C)
noncomputable def tupV (c : SV) (a b : R) : R := SV.rec (motive := fun _ => R → R → R) (fun _ b => b) (fun _ _ b => b) (fun _ _ _ b => b) (fun _ _ b => b) (fun _ b => b) (fun _ _ _ _ b => b) (fun _ b => b) (fun _ _ _ _ _ _ b => b) (fun _ _ _ _ b => b) (fun _ b => b) (fun _ _ _ _ b => b) (fun _ b => b) (fun _ _ _ b => b) (fun _ _ _ b => b) (fun a _ => a) (fun x _ _ ih a b => vOr x (ih a b) b) (fun _ _ _ _ _ _ b => b) (fun _ _ _ _ _ b => b) (fun _ _ _ _ b => b) c a b
noncomputable def tupN (c : SV) (i : Nat) (K : SV → R) (N : R) : R := SV.rec (motive := fun _ => Nat → (SV → R) → R → R) (fun _ _ N => N) (fun _ _ _ N => N) (fun _ _ _ _ N => N) (fun _ _ _ N => N) (fun _ _ N => N) (fun _ _ _ _ _ N => N) (fun _ _ N => N) (fun _ _ _ _ _ _ _ N => N) (fun _ _ _ _ _ N => N) (fun _ _ N => N) (fun _ _ _ _ _ N => N) (fun _ _ N => N) (fun _ _ _ _ N => N) (fun _ _ _ _ N => N) (fun _ _ N => N) (fun x r _ ih i K N => vOr x (yes (Nat.beq i 0) (tupV r (K x) N) (ih (Nat.pred i) K N)) N) (fun _ _ _ _ _ _ _ N => N) (fun _ _ _ _ _ _ N => N) (fun _ _ _ _ _ N => N) c i K N
noncomputable def ex1 (i : Nat) (C : Ctx) (c : SV) : R := tupN c i (fin C) (fb C)
noncomputable def ex0 (i : Nat) (C : Ctx) (v : SV) : R := onTup v (ex1 i C) (fb C)
noncomputable def exK (i : Nat) (x : CO) (C : Ctx) : R := opdC x C (ex0 i C)
noncomputable def mi0 (t : Nat) (C : Ctx) (v : SV) : R := vOr v (fin C (.ifc t v)) (fb C)
noncomputable def miK (t : Nat) (x : CO) (C : Ctx) : R := opdC x C (mi0 t C)
noncomputable def taV (ok : Bool) (C : Ctx) (v : SV) : R := yes ok (fin C (.tup (.cons v (.cons (.bool (.lit true)) .nil)))) (fin C v)
noncomputable def ta2 (t : Nat) (ok : Bool) (z : SV) (C : Ctx) (t' : Nat) (v : SV) : R := yes (Nat.beq t' t) (vOr v (taV ok C v) (fb C)) (yes ok (vOr z (fin C (.tup (.cons z (.cons (.bool (.lit false)) .nil)))) (fb C)) (fb C))
noncomputable def ta0 (t : Nat) (ok : Bool) (z : SV) (C : Ctx) (v : SV) : R := onIfc v (ta2 t ok z C) (fb C)
noncomputable def taK (t : Nat) (ok : Bool) (z : SV) (x : CO) (C : Ctx) : R := opdC x C (ta0 t ok z C)
noncomputable def cv2 (k : IntKind) (C : Ctx) (G : R) (n : Nat) : R := yes (Nat.ble n (maxN k)) (fin C (.int k (.lit (.ofNat n)))) G
noncomputable def cv1 (k : IntKind) (g : G1) (C : Ctx) (k' : IntKind) (e : IE) : R := ieNat e (cv2 k C (know1 C g (.int k' e))) (know1 C g (.int k' e))
noncomputable def cv0 (k : IntKind) (g : G1) (C : Ctx) (v : SV) : R := onInt v (cv1 k g C) (fb C)
noncomputable def cvK (k : IntKind) (g : G1) (x : CO) (C : Ctx) : R := opdC x C (cv0 k g C)
noncomputable def le1 (g : G1) (C : Ctx) (s k : Nat) (o len cap : IE) : R := ieNat len (fun _ => fin C (.int .i64 len)) (know1 C g (.sli s k o len cap))
noncomputable def le0 (g : G1) (C : Ctx) (v : SV) : R := onSli v (le1 g C) (p1a C g v)
noncomputable def leK (g : G1) (x : CO) (C : Ctx) : R := opdC x C (le0 g C)
noncomputable def fl1 (off : Nat) (C : Ctx) (c : SV) : R := getNK c off (fin C) (fb C)
noncomputable def fl0 (off : Nat) (C : Ctx) (v : SV) : R := onAgg v (fl1 off C) (fb C)
noncomputable def flK (off : Nat) (x : CO) (C : Ctx) : R := opdC x C (fl0 off C)
noncomputable def fg1 (off z : Nat) (C : Ctx) (c : SV) : R := takeK c off z (finA C) (fb C)
noncomputable def fg0 (off z : Nat) (C : Ctx) (v : SV) : R := onAgg v (fg1 off z C) (fb C)
noncomputable def fgK (off z : Nat) (x : CO) (C : Ctx) : R := opdC x C (fg0 off z C)
noncomputable def partK (ag : Bool) (z : Nat) (c : SV) (C : Ctx) (n : Nat) : R := yes ag (takeK c n z (finA C) (fb C)) (getNK c n (fin C) (fb C))
noncomputable def ix4 (ag : Bool) (n z : Nat) (C : Ctx) (c : SV) (b : Nat) : R := yes (Nat.ble (Nat.succ b) n) (partK ag z c C (Nat.mul b z)) (fb C)
noncomputable def ix3 (ag : Bool) (n z : Nat) (C : Ctx) (c : SV) (_ : IntKind) (i : IE) : R := ieNat i (ix4 ag n z C c) (fb C)
noncomputable def ix2 (ag : Bool) (n z : Nat) (C : Ctx) (c w : SV) : R := onInt w (ix3 ag n z C c) (fb C)
noncomputable def ix1 (ag : Bool) (n z : Nat) (i : CO) (C : Ctx) (c : SV) : R := opdC i C (ix2 ag n z C c)
noncomputable def ix0 (ag : Bool) (n z : Nat) (i : CO) (C : Ctx) (v : SV) : R := onAgg v (ix1 ag n z i C) (fb C)
noncomputable def ixK (ag : Bool) (n z : Nat) (x i : CO) (C : Ctx) : R := opdC x C (ix0 ag n z i C)
noncomputable def al2 (C : Ctx) (t : Nat) (c : SV) (kn : Know) (h : List Ent) (sg nx nv nx' : Nat) : R := finM C (.ptr sg nx (.lit 0)) ⟨kn, ⟨sg, nx, false, t, .lit 0, c⟩ :: h, sg, nx', nv⟩
noncomputable def alK (t : Nat) (c : SV) (C : Ctx) : R :=
 Ctx.rec (motive := fun _ => Ctx → Nat → SV → R) (fun _ _ _ _ _ m _ C t c => Mem.rec (motive := fun _ => Ctx → Nat → SV → R) (fun kn h sg nx nv C t c => forceN (Nat.succ nx) (al2 C t c kn h sg nx nv)) m C t c) C C t c
theorem alK_eq (t : Nat) (c : SV) (C : Ctx) : alK t c C = finM C (.ptr C.m.seg C.m.next (.lit 0)) { C.m with heap := { s := C.m.seg, k := C.m.next, ro := false, t, base := .lit 0, c } :: C.m.heap, next := C.m.next + 1 } := by
 obtain ⟨d, o, old, n, t', ⟨kn, h, sg, nx, nv⟩, K⟩ := C
 exact forceN_eq (Nat.succ nx) (al2 ⟨d, o, old, n, t', ⟨kn, h, sg, nx, nv⟩, K⟩ t c kn h sg nx nv)
noncomputable def bx0 (t : Nat) (C : Ctx) (v : SV) : R := onAgg v (fun c => alK t c C) (cOr v (alK t (.cons v .nil) C) (fb C))
noncomputable def bxK (t : Nat) (x : CO) (C : Ctx) : R := opdC x C (bx0 t C)
noncomputable def beLitR (b : BE) (f : Bool → R) (g : R) : R := BE.rec (motive := fun _ => (Bool → R) → R → R) (fun b f _ => f b) (fun _ _ g => g) (fun _ _ _ g => g) (fun _ _ _ g => g) (fun _ _ _ g => g) b f g
noncomputable def pi2 (C : Ctx) (a b : CO) (c : Bool) : R := opdC a C (fun x => nnS x (fun x => opdC b C (fun y => nnS y (fun y => yes c (fin C x) (fin C y)) (fb C))) (fb C))
noncomputable def pi0 (C : Ctx) (a b : CO) (v : SV) : R := onBool v (fun t => beLitR t (pi2 C a b) (fb C)) (fb C)
noncomputable def piK (c a b : CO) (C : Ctx) : R := opdC c C (pi0 C a b)
section
variable {P : Program} {T : Tab P} {cx : CX} {C : Ctx}
structure P1 (T : Tab P) (C : Ctx) (x : Operand) (g : G1) : Prop where
 app : appArgs T ⟨C.n, C.t⟩ C.o = none
 run : ∀ v, opd ⟨C.n, C.t⟩ x = some v → opS T ⟨C.n, C.t⟩ C.o C.m = valO (g C.m.know v) C.m
theorem P1.fin (h : Fits T cx C) {x : Operand} {g : G1} (p : P1 T C x g) {r : SV} (hv : (coOf x).of C.t ≠ .nil) (hr : g C.m.know ((coOf x).of C.t) = some r) : fin C r = fb C := by
 rw [← finM_self]
 exact h.val p.app (by rw [p.run _ (coOf_ok hv), hr]; rfl)
theorem P1.know (h : Fits T cx C) {x : Operand} {g : G1} (p : P1 T C x g) (hv : (coOf x).of C.t ≠ .nil) : know1 C g ((coOf x).of C.t) = fb C := by
 rw [know1_eq]
 cases hr : g C.m.know ((coOf x).of C.t) with
 | none => rfl
 | some r => exact p.fin h hv hr
theorem P1.p1a (h : Fits T cx C) {x : Operand} {g : G1} (p : P1 T C x g) : p1a C g ((coOf x).of C.t) = fb C := by
 unfold Sx.p1a
 by_cases hv : (coOf x).of C.t = .nil
 ·rw [hv]; rfl
 ·rw [nnS_eq _ _ hv]; exact p.know h hv
theorem p1_ok (h : Fits T cx C) {x : Operand} {g : G1} (p : P1 T C x g) : p1K g (coOf x) C = fb C := by
 unfold p1K
 rw [opdC_eq]
 exact p.p1a h
structure P2 (T : Tab P) (C : Ctx) (x y : Operand) (g : G2) : Prop where
 app : appArgs T ⟨C.n, C.t⟩ C.o = none
 run : ∀ v w, opd ⟨C.n, C.t⟩ x = some v → opd ⟨C.n, C.t⟩ y = some w → opS T ⟨C.n, C.t⟩ C.o C.m = valO (g C.m.know v w) C.m
theorem P2.fin (h : Fits T cx C) {x y : Operand} {g : G2} (p : P2 T C x y g) {r : SV} (hv : (coOf x).of C.t ≠ .nil) (hw : (coOf y).of C.t ≠ .nil) (hr : g C.m.know ((coOf x).of C.t) ((coOf y).of C.t) = some r) : fin C r = fb C := by
 rw [← finM_self]
 exact h.val p.app (by rw [p.run _ _ (coOf_ok hv) (coOf_ok hw), hr]; rfl)
theorem P2.know (h : Fits T cx C) {x y : Operand} {g : G2} (p : P2 T C x y g) (hv : (coOf x).of C.t ≠ .nil) (hw : (coOf y).of C.t ≠ .nil) : know2 C g ((coOf x).of C.t) ((coOf y).of C.t) = fb C := by
 rw [know2_eq]
 cases hr : g C.m.know ((coOf x).of C.t) ((coOf y).of C.t) with
 | none => rfl
 | some r => exact p.fin h hv hw hr
theorem nonneg_lit (kn : Know) (n : Nat) : nonneg kn (.lit n) = true := by
 unfold nonneg
 exact decide_eq_true (show (0 : Int) ≤ (n : Int) by omega)
theorem isLt_lit (kn : Know) (a b : Nat) : isLt kn (.lit a) (.lit b) = decide (a < b) := by
 unfold isLt
 show (BE.lit (decide ((a : Int) < (b : Int))) == BE.lit true) = _
 by_cases h : a < b
 ·rw [decide_eq_true (show (a : Int) < b by omega), decide_eq_true h]; rfl
 ·rw [decide_eq_false (show ¬ (a : Int) < b by omega), decide_eq_false h]; rfl
theorem mkAdd_lit (a b : Nat) : mkAdd (.lit a) (.lit b) = .lit ((a + b : Nat) : Int) := by rw [Int.natCast_add]; rfl
theorem mkMul_lit (a b : Nat) : mkMul (.lit a) (.lit b) = .lit ((a * b : Nat) : Int) := by rw [Int.natCast_mul]; rfl
theorem fa_ok (h : Fits T cx C) {t i sz off : Nat} {fs : Array Field} {f : Field} {x : Operand} (ho : C.o.op = .fieldAddr t x i) (ht : T.under t = some (.struct fs)) (hf : fs[i]? = some f) (hz : sizeIn T f.type = some sz) (h0 : sz ≠ 0) (hoff : f.offset = off) :
  faK off (fun kn v => fieldAddrS T kn t v i) (coOf x) C = fb C := by
 have p : P1 T C x (fun kn v => fieldAddrS T kn t v i) := ⟨by unfold appArgs; rw [ho], fun v hv => by unfold opS; rw [ho]; dsimp only; rw [hv]; rfl⟩
 unfold faK
 rw [opdC_eq]
 have key : ∀ r, fieldAddrS T C.m.know t ((coOf x).of C.t) i = some r → (coOf x).of C.t ≠ .nil → fin C r = fb C := fun r hr hv => p.fin h hv hr
 have key2 := fun hv => p.know h (g := fun kn v => fieldAddrS T kn t v i) hv
 generalize (coOf x).of C.t = v at key key2
 unfold fa0
 cases v <;> try rfl
 rename_i s k e
 show fa1 off _ C s k e = _
 unfold fa1
 rcases ieNat_eq e (fa2 off C s k) (know1 C (fun kn v => fieldAddrS T kn t v i) (.ptr s k e)) with e1 | ⟨n, rfl, e1⟩
 ·rw [e1]; exact key2 (by intro hh; cases hh)
 ·rw [e1]
  unfold fa2
  rw [forceN_eq]
  refine key _ ?_ (by intro hh; cases hh)
  unfold fieldAddrS
  rw [ht]
  dsimp only
  rw [hf]
  dsimp only
  rw [hz]
  dsimp only
  rw [if_pos ⟨h0, nonneg_lit _ n⟩, hoff, mkAdd_lit]
  rfl
theorem ia4_ok {n z : Nat} {g : G2} {v : SV} {s k : Nat} {e : IE} {kd : IntKind} {i : IE} (hk : know2 C g v (.int kd i) = fb C)
  (hr : ∀ a b : Nat, e = .lit a → i = .lit b → b < n → fin C (.ptr s k (.lit ((a + b * z : Nat) : Int))) = fb C) : ia4 n z g C v s k e kd i = fb C := by
 unfold ia4
 rw [hk]
 rcases ieNat_eq e (ia5 n z C s k i (fb C)) (fb C) with e1 | ⟨a, ha, e1⟩
 ·exact e1
 ·rw [e1]
  unfold ia5
  rcases ieNat_eq i (ia6 n z C s k a (fb C)) (fb C) with e2 | ⟨b, hb, e2⟩
  ·exact e2
  ·rw [e2]
   unfold ia6
   rw [yes_ble]
   by_cases h : Nat.succ b ≤ n
   ·rw [if_pos h, forceN_eq]
    exact hr a b ha hb h
   ·rw [if_neg h]
theorem ia_ok (h : Fits T cx C) {t n el z : Nat} {x y : Operand} (ho : C.o.op = .indexAddr t x y) (ht : T.under t = some (.array n el)) (hz : sizeIn T el = some z) :
  iaK n z (fun kn v w => indexAddrS T kn t v w) (coOf x) (coOf y) C = fb C := by
 have p : P2 T C x y (fun kn v w => indexAddrS T kn t v w) := ⟨by unfold appArgs; rw [ho], fun v w hv hw => by unfold opS; rw [ho]; dsimp only; rw [hv, hw]; rfl⟩
 unfold iaK
 rw [opdC_eq]
 unfold ia0
 cases hv : (coOf x).of C.t <;> try rfl
 rename_i s k e
 show opdC (coOf y) C (ia3 n z _ C (.ptr s k e) s k e) = _
 rw [opdC_eq]
 unfold ia3
 cases hw : (coOf y).of C.t <;> try rfl
 rename_i kd i
 show ia4 n z _ C (.ptr s k e) s k e kd i = _
 have n1 : (coOf x).of C.t ≠ .nil := by rw [hv]; intro hh; cases hh
 have n2 : (coOf y).of C.t ≠ .nil := by rw [hw]; intro hh; cases hh
 refine ia4_ok ?_ fun a b ha hb hlt => ?_
 ·have := p.know h n1 n2
  rw [hv, hw] at this
  exact this
 ·refine p.fin h n1 n2 ?_
  rw [hv, hw, ha, hb]
  unfold indexAddrS
  rw [ht]
  dsimp only
  rw [hz]
  dsimp only
  rw [if_pos ⟨nonneg_lit _ a, nonneg_lit _ b, by rw [isLt_lit]; exact decide_eq_true hlt⟩, mkMul_lit, mkAdd_lit]
theorem is_ok (h : Fits T cx C) {t el z : Nat} {x y : Operand} (ho : C.o.op = .indexAddr t x y) (ht : T.under t = some (.slice el)) (hz : sizeIn T el = some z) :
  isK2 z (fun kn v w => indexAddrS T kn t v w) (coOf x) (coOf y) C = fb C := by
 have p : P2 T C x y (fun kn v w => indexAddrS T kn t v w) := ⟨by unfold appArgs; rw [ho], fun v w hv hw => by unfold opS; rw [ho]; dsimp only; rw [hv, hw]; rfl⟩
 unfold isK2
 rw [opdC_eq]
 unfold is0
 cases hv : (coOf x).of C.t <;> try rfl
 rename_i s k e len cap
 show opdC (coOf y) C (is3 z _ C (.sli s k e len cap) s k e len) = _
 rw [opdC_eq]
 unfold is3
 cases hw : (coOf y).of C.t <;> try rfl
 rename_i kd i
 show is4 z _ C (.sli s k e len cap) s k e len kd i = _
 have n1 : (coOf x).of C.t ≠ .nil := by rw [hv]; intro hh; cases hh
 have n2 : (coOf y).of C.t ≠ .nil := by rw [hw]; intro hh; cases hh
 have hk : know2 C (fun kn v w => indexAddrS T kn t v w) (.sli s k e len cap) (.int kd i) = fb C := by
  have := p.know h n1 n2
  rw [hv, hw] at this
  exact this
 unfold is4
 rw [hk]
 rcases ieNat_eq len (is5 z (fun kn v w => indexAddrS T kn t v w) C (.sli s k e len cap) s k e kd i) (fb C) with e1 | ⟨n, hn, e1⟩
 ·exact e1
 ·rw [e1]
  unfold is5
  refine ia4_ok hk fun a b ha hb hlt => ?_
  refine p.fin h n1 n2 ?_
  rw [hv, hw, ha, hb, hn]
  unfold indexAddrS
  rw [ht]
  dsimp only
  rw [hz]
  dsimp only
  rw [if_pos ⟨nonneg_lit _ a, nonneg_lit _ b, by rw [isLt_lit]; exact decide_eq_true hlt⟩, mkMul_lit, mkAdd_lit]
theorem nc_ok (h : Fits T cx C) {x : Operand} (ho : C.o.op = .nilCheck x) : ncK (coOf x) C = fb C := by
 have p : P1 T C x (fun _ v => nilCheckS v) := ⟨by unfold appArgs; rw [ho], fun v hv => by unfold opS; rw [ho]; dsimp only; rw [hv]⟩
 unfold ncK
 rw [opdC_eq]
 unfold nc0
 have key : ∀ r, nilCheckS ((coOf x).of C.t) = some r → (coOf x).of C.t ≠ .nil → fin C r = fb C := fun r hr hv => p.fin h hv hr
 generalize (coOf x).of C.t = v at key
 cases v <;> first | rfl | exact key _ rfl (by intro hh; cases hh)
theorem tupV_eq : ∀ (c : SV) (a b : R), tupV c a b = b ∨ ((∃ l, listOf c = some l) ∧ tupV c a b = a)
 | .nil, a, b => .inr ⟨⟨[], rfl⟩, rfl⟩
 | .cons x r, a, b => by
  show vOr x (tupV r a b) b = b ∨ (_ ∧ vOr x (tupV r a b) b = a)
  rw [vOr_eq]
  by_cases hx : x.isV = true
  ·rw [if_pos hx]
   rcases tupV_eq r a b with e | ⟨⟨l, hl⟩, e⟩
   ·exact .inl e
   ·exact .inr ⟨⟨x :: l, by unfold listOf; rw [if_pos hx, hl]⟩, e⟩
  ·rw [if_neg hx]; exact .inl rfl
 | .undef, _, _ | .opq _, _, _ | .int _ _, _, _ | .bool _, _, _ | .nilp, _, _ | .ptr _ _ _, _, _ | .nils, _, _ | .sli _ _ _ _ _, _, _ | .fn _ _, _, _ | .nilf, _, _ | .ifc _ _, _, _ | .nili, _, _ | .agg _, _, _ | .tup _, _, _ | .arr _ _ _ _, _, _ | .wr _ _ _, _, _ | .rep _ _, _, _ => .inl rfl
theorem tupN_eq : ∀ (c : SV) (i : Nat) (K : SV → R) (N : R), tupN c i K N = N ∨ ∃ l x, listOf c = some l ∧ l[i]? = some x ∧ tupN c i K N = K x
 | .nil, _, _, _ => .inl rfl
 | .cons x r, i, K, N => by
  show vOr x (yes (Nat.beq i 0) (tupV r (K x) N) (tupN r (Nat.pred i) K N)) N = N ∨ ∃ l y, _ ∧ _ ∧ vOr x (yes (Nat.beq i 0) (tupV r (K x) N) (tupN r (Nat.pred i) K N)) N = K y
  rw [vOr_eq]
  by_cases hx : x.isV = true
  ·rw [if_pos hx, yes_beq]
   by_cases hi : i = 0
   ·rw [if_pos hi]
    rcases tupV_eq r (K x) N with e | ⟨⟨l, hl⟩, e⟩
    ·exact .inl e
    ·exact .inr ⟨x :: l, x, by unfold listOf; rw [if_pos hx, hl], by rw [hi]; rfl, e⟩
   ·rw [if_neg hi]
    rcases tupN_eq r (Nat.pred i) K N with e | ⟨l, y, hl, hy, e⟩
    ·exact .inl e
    ·refine .inr ⟨x :: l, y, by unfold listOf; rw [if_pos hx, hl], ?_, e⟩
     cases i with
     | zero => exact absurd rfl hi
     | succ i => exact hy
  ·rw [if_neg hx]; exact .inl rfl
 | .undef, _, _, _ | .opq _, _, _, _ | .int _ _, _, _, _ | .bool _, _, _, _ | .nilp, _, _, _ | .ptr _ _ _, _, _, _ | .nils, _, _, _ | .sli _ _ _ _ _, _, _, _ | .fn _ _, _, _, _ | .nilf, _, _, _ | .ifc _ _, _, _, _ | .nili, _, _, _ | .agg _, _, _, _ | .tup _, _, _, _ | .arr _ _ _ _, _, _, _ | .wr _ _ _, _, _, _ | .rep _ _, _, _, _ => .inl rfl
theorem ex_ok (h : Fits T cx C) {x : Operand} {i : Nat} (ho : C.o.op = .extract x i) : exK i (coOf x) C = fb C := by
 have p : P1 T C x (fun _ v => extractS v i) := ⟨by unfold appArgs; rw [ho], fun v hv => by unfold opS; rw [ho]; dsimp only; rw [hv]⟩
 unfold exK
 rw [opdC_eq]
 unfold ex0
 have key : ∀ r, extractS ((coOf x).of C.t) i = some r → (coOf x).of C.t ≠ .nil → fin C r = fb C := fun r hr hv => p.fin h hv hr
 generalize (coOf x).of C.t = v at key
 cases v <;> try rfl
 rename_i c
 show ex1 i C c = _
 unfold ex1
 rcases tupN_eq c i (fin C) (fb C) with e | ⟨l, y, hl, hy, e⟩
 ·exact e
 ·rw [e]
  exact key y (by unfold extractS; dsimp only; rw [hl]; exact hy) (by intro hh; cases hh)
theorem mi_ok (h : Fits T cx C) {x : Operand} {t : Nat} {d : TypeDesc} (ho : C.o.op = .makeInterface t x) (ht : T.under t = some d) (hd : ∀ i, d ≠ .interface i) : miK t (coOf x) C = fb C := by
 have p : P1 T C x (fun _ v => makeIfaceS T t v) := ⟨by unfold appArgs; rw [ho], fun v hv => by unfold opS; rw [ho]; dsimp only; rw [hv]⟩
 unfold miK
 rw [opdC_eq]
 unfold mi0
 rw [vOr_eq]
 split
 ·rename_i hv
  refine p.fin h (by intro e; rw [e] at hv; cases hv) ?_
  unfold makeIfaceS
  rw [ht]
  split
  ·rename_i e; injection e with e; exact absurd e (hd _)
  ·rw [if_pos hv]
  ·rename_i e; cases e
 ·rfl
theorem ta_ok (h : Fits T cx C) {x : Operand} {xt t : Nat} {ok : Bool} {d : TypeDesc} {z : SV} (ho : C.o.op = .typeAssert x xt t ok) (ht : T.under t = some d) (hd : ∀ i, d ≠ .interface i) (hz : T.zero t = some z) : taK t ok z (coOf x) C = fb C := by
 have p : P1 T C x (fun _ v => typeAssertS T v xt t ok) := ⟨by unfold appArgs; rw [ho], fun v hv => by unfold opS; rw [ho]; dsimp only; rw [hv]⟩
 unfold taK
 rw [opdC_eq]
 unfold ta0
 have key : ∀ r, typeAssertS T ((coOf x).of C.t) xt t ok = some r → (coOf x).of C.t ≠ .nil → fin C r = fb C := fun r hr hv => p.fin h hv hr
 generalize (coOf x).of C.t = v at key
 cases v <;> try rfl
 rename_i t' v
 show ta2 t ok z C t' v = _
 have e : typeAssertS T (.ifc t' v) xt t ok = if t' = t then (if v.isV then some (if ok then .tup (.cons v (.cons (.bool (.lit true)) .nil)) else v) else none)
   else if ok then match T.zero t with
    | some z => if z.isV then some (.tup (.cons z (.cons (.bool (.lit false)) .nil))) else none
    | none => none
   else none := by
  unfold typeAssertS
  rw [ht]
  cases d <;> first | rfl | exact absurd rfl (hd _)
 rw [e] at key
 unfold ta2
 rw [yes_beq]
 by_cases h1 : t' = t
 ·rw [if_pos h1] at key ⊢
  rw [vOr_eq]
  split
  ·rename_i hv
   rw [if_pos hv] at key
   unfold taV
   rw [yes_eq]
   cases ok
   ·exact key _ rfl (by intro hh; cases hh)
   ·exact key _ rfl (by intro hh; cases hh)
  ·rfl
 ·rw [if_neg h1] at key ⊢
  rw [yes_eq]
  cases ok
  ·rfl
  ·rw [if_pos rfl] at key ⊢
   rw [vOr_eq]
   split
   ·rename_i hv
    rw [hz] at key
    dsimp only at key
    rw [if_pos hv] at key
    exact key _ rfl (by intro hh; cases hh)
   ·rfl
theorem cv_ok (h : Fits T cx C) {x : Operand} {s d : Nat} {k : IntKind} {u : TypeDesc} (ho : C.o.op = .convert s d x) (hs : T.under s = some u) (hd : T.under d = some (.int k)) : cvK k (fun kn v => convertS T kn s d v) (coOf x) C = fb C := by
 have p : P1 T C x (fun kn v => convertS T kn s d v) := ⟨by unfold appArgs; rw [ho], fun v hv => by unfold opS; rw [ho]; dsimp only; rw [hv]; rfl⟩
 unfold cvK
 rw [opdC_eq]
 unfold cv0
 have key : ∀ r, convertS T C.m.know s d ((coOf x).of C.t) = some r → (coOf x).of C.t ≠ .nil → fin C r = fb C := fun r hr hv => p.fin h hv hr
 have key2 := fun hv => p.know h (g := fun kn v => convertS T kn s d v) hv
 generalize (coOf x).of C.t = v at key key2
 cases v <;> try rfl
 rename_i k' e
 show cv1 k _ C k' e = _
 have hk := key2 (by intro hh; cases hh)
 unfold cv1
 rw [hk]
 rcases ieNat_eq e (cv2 k C (fb C)) (fb C) with e1 | ⟨n, rfl, e1⟩
 ·exact e1
 ·rw [e1]
  unfold cv2
  rw [yes_ble]
  by_cases hn : n ≤ maxN k
  ·rw [if_pos hn]
   refine key _ ?_ (by intro hh; cases hh)
   unfold convertS
   rw [hs, hd]
   dsimp only
   rw [mkWrap_nat _ hn]
   rfl
  ·rw [if_neg hn]
end
end Go.Sx
namespace Go.Sx
open Go
section
variable {P : Program} {T : Tab P} {cx : CX} {C : Ctx}
theorem Fits.valX (h : Fits T cx C) (ha : appArgs T ⟨C.n, C.t⟩ C.o = none) {x : X SV} {v : SV} (ho : opS T ⟨C.n, C.t⟩ C.o = Sx.valX x) (hx : x C.m = some [(v, C.m)]) : fin C v = fb C := by
 rw [← finM_self]
 refine h.val ha ?_
 rw [ho]
 unfold Sx.valX
 rw [bind_one hx]
 rfl
theorem part_cell {t : Nat} {c v : SV} {n : Nat} {m : Mem} (ht : aggOf T t = some false) (h : getC c (.lit n) m = some [(v, m)]) : partS T t c (.lit n) m = some [(v, m)] := by
 unfold partS
 rw [ht]
 exact h
theorem part_row {t z : Nat} {c r : SV} {n : Nat} {m : Mem} (ht : aggOf T t = some true) (hz : sizeIn T t = some z) (h : takeC c n z = some r) : partS T t c (.lit n) m = some [(.agg r, m)] := by
 unfold partS
 rw [ht]
 dsimp only
 rw [hz]
 unfold withKnow
 dsimp only
 rw [if_pos (nonneg_lit _ n), bind_one (rowAt_lit h m)]
 rfl
theorem fl_ok (h : Fits T cx C) {t i off : Nat} {fs : Array Field} {f : Field} {x : Operand} (ho : C.o.op = .field t x i) (ht : T.under t = some (.struct fs)) (hf : fs[i]? = some f) (hg : aggOf T f.type = some false) (hoff : f.offset = off) : flK off (coOf x) C = fb C := by
 unfold flK
 rw [opdC_eq]
 unfold fl0
 cases hv : (coOf x).of C.t <;> try rfl
 rename_i c
 show fl1 off C c = _
 unfold fl1
 rcases getNK_at c off (fin C) (fb C) with e | ⟨v, hc, e⟩
 ·exact e
 ·rw [e]
  have hx : opd ⟨C.n, C.t⟩ x = some (.agg c) := by rw [coOf_ok (by rw [hv]; exact fun e => (by cases e)), hv]
  refine h.valX (by unfold appArgs; rw [ho]) (x := fieldS T t (.agg c) i) (by unfold opS; rw [ho]; dsimp only; rw [hx]) ?_
  unfold fieldS
  rw [ht]
  dsimp only
  rw [hf]
  dsimp only
  rw [hoff]
  exact part_cell hg (hc C.m)
theorem fg_ok (h : Fits T cx C) {t i off z : Nat} {fs : Array Field} {f : Field} {x : Operand} (ho : C.o.op = .field t x i) (ht : T.under t = some (.struct fs)) (hf : fs[i]? = some f) (hg : aggOf T f.type = some true) (hz : sizeIn T f.type = some z) (hoff : f.offset = off) : fgK off z (coOf x) C = fb C := by
 unfold fgK
 rw [opdC_eq]
 unfold fg0
 cases hv : (coOf x).of C.t <;> try rfl
 rename_i c
 show fg1 off z C c = _
 unfold fg1
 rcases takeK_at c off z (finA C) (fb C) with e | ⟨r, hc, e⟩
 ·exact e
 ·rw [e]
  have hx : opd ⟨C.n, C.t⟩ x = some (.agg c) := by rw [coOf_ok (by rw [hv]; exact fun e => (by cases e)), hv]
  refine h.valX (by unfold appArgs; rw [ho]) (x := fieldS T t (.agg c) i) (by unfold opS; rw [ho]; dsimp only; rw [hx]) ?_
  unfold fieldS
  rw [ht]
  dsimp only
  rw [hf]
  dsimp only
  rw [hoff]
  exact part_row hg hz hc
theorem ix_ok (h : Fits T cx C) {t n el z : Nat} {ag : Bool} {x y : Operand} (ho : C.o.op = .index t x y) (ht : T.under t = some (.array n el)) (hg : aggOf T el = some ag) (hz : sizeIn T el = some z) : ixK ag n z (coOf x) (coOf y) C = fb C := by
 unfold ixK
 rw [opdC_eq]
 unfold ix0
 cases hv : (coOf x).of C.t <;> try rfl
 rename_i c
 show opdC (coOf y) C (ix2 ag n z C c) = _
 rw [opdC_eq]
 unfold ix2
 cases hw : (coOf y).of C.t <;> try rfl
 rename_i kd i
 show ieNat i (ix4 ag n z C c) (fb C) = _
 rcases ieNat_eq i (ix4 ag n z C c) (fb C) with e | ⟨b, hb, e⟩
 ·exact e
 ·rw [e]
  unfold ix4
  rw [yes_ble]
  by_cases hlt : Nat.succ b ≤ n
  ·rw [if_pos hlt]
   have hx : opd ⟨C.n, C.t⟩ x = some (.agg c) := by rw [coOf_ok (by rw [hv]; exact fun e => (by cases e)), hv]
   have hy : opd ⟨C.n, C.t⟩ y = some (.int kd i) := by rw [coOf_ok (by rw [hw]; exact fun e => (by cases e)), hw]
   have run : ∀ v, partS T el c (.lit ((b * z : Nat) : Int)) C.m = some [(v, C.m)] → fin C v = fb C := fun v hp => by
    refine h.valX (by unfold appArgs; rw [ho]) (x := indexS T t (.agg c) (.int kd i)) (by unfold opS; rw [ho]; dsimp only; rw [hx, hy]) ?_
    unfold indexS
    rw [ht, hb]
    dsimp only
    rw [hz]
    unfold withKnow
    dsimp only
    rw [if_pos ⟨nonneg_lit _ b, by rw [isLt_lit]; exact decide_eq_true hlt⟩, mkMul_lit]
    exact hp
   unfold partK
   rw [yes_eq]
   cases ag
   ·rcases getNK_at c (Nat.mul b z) (fin C) (fb C) with e2 | ⟨v, hc, e2⟩
    ·exact e2
    ·rw [if_neg (by simp), e2]
     exact run v (part_cell hg (hc C.m))
   ·rcases takeK_at c (Nat.mul b z) z (finA C) (fb C) with e2 | ⟨r, hc, e2⟩
    ·exact e2
    ·rw [if_pos rfl, e2]
     exact run (.agg r) (part_row hg hz hc)
  ·rw [if_neg hlt]
theorem box_run {t : Nat} {v c : SV} (hc : cellsS v = some c) (m : Mem) : boxS t v m = some [(.ptr m.seg m.next (.lit 0), { m with heap := { s := m.seg, k := m.next, ro := false, t, base := .lit 0, c } :: m.heap, next := m.next + 1 })] := by
 unfold boxS
 rw [hc, bind_one (a := c) (m' := m) rfl, allocX_eq]
theorem al_ok (h : Fits T cx C) {t : Nat} {z c : SV} (ho : C.o.op = .alloc t) (hz : T.zero t = some z) (hc : cellsS z = some c) : alK t c C = fb C := by
 rw [alK_eq]
 refine h.val (by unfold appArgs; rw [ho]) ?_
 unfold opS
 rw [ho]
 dsimp only
 unfold Sx.valX allocS
 have e : (X.bind (X.ofOption (T.zero t)) fun z => boxS t z) C.m = boxS t z C.m := by rw [hz]; exact bind_one (m' := C.m) rfl
 rw [bind_one (e.trans (box_run hc C.m))]
 rfl
theorem bx_ok (h : Fits T cx C) {t : Nat} {x : Operand} (ho : C.o.op = .box t x) : bxK t (coOf x) C = fb C := by
 unfold bxK
 rw [opdC_eq]
 have key : ∀ c, cellsS ((coOf x).of C.t) = some c → (coOf x).of C.t ≠ .nil → alK t c C = fb C := fun c hc hv => by
  rw [alK_eq]
  refine h.val (by unfold appArgs; rw [ho]) ?_
  unfold opS
  rw [ho]
  dsimp only
  rw [coOf_ok hv]
  dsimp only
  unfold Sx.valX
  rw [bind_one (box_run hc C.m)]
  rfl
 unfold bx0
 generalize (coOf x).of C.t = v at key
 cases v <;> first | rfl | exact key _ rfl (by intro hh; cases hh)
theorem pi_ok (h : Fits T cx C) {c a b : Operand} (ho : C.o.op = .pick c a b) : piK (coOf c) (coOf a) (coOf b) C = fb C := by
 unfold piK
 rw [opdC_eq]
 unfold pi0
 cases hv : (coOf c).of C.t <;> try rfl
 rename_i t
 show beLitR t (pi2 C (coOf a) (coOf b)) (fb C) = _
 cases t <;> try rfl
 rename_i r
 show pi2 C (coOf a) (coOf b) r = _
 unfold pi2
 rw [opdC_eq]
 by_cases ha : (coOf a).of C.t = .nil
 ·rw [ha]; rfl
 ·rw [nnS_eq _ _ ha, opdC_eq]
  by_cases hb : (coOf b).of C.t = .nil
  ·rw [hb]; rfl
  ·rw [nnS_eq _ _ hb, yes_eq]
   have hc : opd ⟨C.n, C.t⟩ c = some (.bool (.lit r)) := by rw [coOf_ok (by rw [hv]; exact fun e => (by cases e)), hv]
   have : fin C (if r then (coOf a).of C.t else (coOf b).of C.t) = fb C := by
    refine h.valX (by unfold appArgs; rw [ho]) (x := pickS (.bool (.lit r)) ((coOf a).of C.t) ((coOf b).of C.t)) (by unfold opS; rw [ho]; dsimp only; rw [hc, coOf_ok ha, coOf_ok hb]) ?_
    cases r <;> rfl
   cases r <;> exact this
theorem le_ok (h : Fits T cx C) {c : Call} {x : Operand} {t : Nat} (ho : C.o.op = .call c) (hc : c.callee = .builtin .len) (hx : c.args.toList = [x]) (ht : c.argTypes[0]? = some t) (hu : ∃ e, T.under t = some (.slice e)) : leK (fun kn v => lenS T kn t v) (coOf x) C = fb C := by
 have p : P1 T C x (fun kn v => lenS T kn t v) := ⟨by unfold appArgs; rw [ho]; dsimp only; rw [hc], fun v hv => by
  unfold opS; rw [ho]; dsimp only
  unfold callS
  rw [hx]
  have e : opds ⟨C.n, C.t⟩ [x] = some [v] := by show (match opd ⟨C.n, C.t⟩ x, some [] with | some v, some l => some (v :: l) | _, _ => none) = _; rw [hv]
  rw [e, hc, ht]
  rfl⟩
 unfold leK
 rw [opdC_eq]
 have key : ∀ r, lenS T C.m.know t ((coOf x).of C.t) = some r → (coOf x).of C.t ≠ .nil → fin C r = fb C := fun r hr hv => p.fin h hv hr
 have key2 := p.p1a h
 have key3 := fun hv => p.know h (g := fun kn v => lenS T kn t v) hv
 generalize (coOf x).of C.t = v at key key2 key3
 unfold le0
 cases v <;> try exact key2
 rename_i s k o len cap
 show le1 _ C s k o len cap = _
 unfold le1
 rw [key3 (by intro hh; cases hh)]
 rcases ieNat_eq len (fun _ => fin C (.int .i64 len)) (fb C) with e | ⟨n, hn, e⟩
 ·exact e
 ·rw [e]
  refine key _ ?_ (by intro hh; cases hh)
  obtain ⟨el, hu⟩ := hu
  unfold lenS
  rw [hu, hn]
  dsimp only
  rw [if_pos (nonneg_lit _ n)]
end
noncomputable def consL (k : List SV → R) (v : SV) (l : List SV) : R := k (v :: l)
noncomputable def arg2 (ih : (List SV → R) → R) (k : List SV → R) (v : SV) : R := ih (consL k v)
noncomputable def arg1 (C : Ctx) (ih : Ctx → (List SV → R) → R) (k : List SV → R) (v : SV) : R := nnS v (arg2 (ih C) k) (fb C)
noncomputable def argsK (l : List CO) : Ctx → (List SV → R) → R :=
 List.rec (motive := fun _ => Ctx → (List SV → R) → R) (fun _ k => k []) (fun x _ ih C k => opdC x C (arg1 C ih k)) l
theorem argsK_eq (C : Ctx) : ∀ (xs : List Operand) (k : List SV → R), argsK (xs.map coOf) C k = fb C ∨ ∃ l, opds ⟨C.n, C.t⟩ xs = some l ∧ argsK (xs.map coOf) C k = k l
 | [], k => .inr ⟨[], rfl, rfl⟩
 | x :: xs, k => by
  show opdC (coOf x) C (arg1 C (argsK (xs.map coOf)) k) = fb C ∨ ∃ l, _ ∧ opdC (coOf x) C (arg1 C (argsK (xs.map coOf)) k) = k l
  rw [opdC_eq]
  unfold arg1
  by_cases hv : (coOf x).of C.t = .nil
  ·rw [hv]; exact .inl rfl
  ·rw [nnS_eq _ _ hv]
   unfold arg2
   rcases argsK_eq C xs (consL k ((coOf x).of C.t)) with e | ⟨l, hl, e⟩
   ·exact .inl e
   ·refine .inr ⟨(coOf x).of C.t :: l, ?_, e⟩
    show (match opd ⟨C.n, C.t⟩ x, opds ⟨C.n, C.t⟩ xs with | some v, some l => some (v :: l) | _, _ => none) = _
    rw [coOf_ok hv, hl]
noncomputable def nvOk (m' m : Mem) (t : FT) : Bool := Bool.rec (motive := fun _ => Bool) (t.all (SV.nm m.nv)) true (Nat.beq m'.nv m.nv)
theorem nvOk_eq (m' m : Mem) (t : FT) : nvOk m' m t = (Nat.beq m'.nv m.nv || t.all (SV.nm m.nv)) := by unfold nvOk; cases Nat.beq m'.nv m.nv <;> rfl
noncomputable def ret1 (C : Ctx) (m' : Mem) (v : SV) : R := finM C v m'
noncomputable def retK (C : Ctx) (v : SV) (m' : Mem) : R :=
 Ctx.rec (motive := fun _ => Ctx → SV → Mem → R) (fun _ _ _ _ t m _ C v m' => yes (nvOk m' m t) (nfS v (ret1 C m')) none) C C v m'
theorem retK_eq (C : Ctx) (v : SV) (m' : Mem) : retK C v m' = if (Nat.beq m'.nv C.m.nv || C.t.all (SV.nm C.m.nv)) = true then finM C v m' else none := by
 show yes (nvOk m' C.m C.t) (nfS v (ret1 C m')) none = _
 rw [yes_eq, nvOk_eq, nfS_eq]
 rfl
noncomputable def enterK (cx : CX) (f : Nat) (C : Ctx) (l : List SV) : R := Ctx.rec (motive := fun _ => CX → Nat → Ctx → List SV → R) (fun _ _ _ _ _ m _ cx f C l => bindR (cx f l m) (retK C)) C cx f C l
noncomputable def calK (f : Nat) (args : List CO) (cx : CX) (C : Ctx) : R := argsK args C (enterK cx f C)
noncomputable def lstK (c : SV) : (List SV → R) → R → R := SV.rec (motive := fun _ => (List SV → R) → R → R) (fun _ N => N) (fun _ _ N => N) (fun _ _ _ N => N) (fun _ _ N => N) (fun _ N => N) (fun _ _ _ _ N => N) (fun _ N => N) (fun _ _ _ _ _ _ N => N) (fun _ _ _ _ N => N) (fun _ N => N) (fun _ _ _ _ N => N) (fun _ N => N) (fun _ _ _ N => N) (fun _ _ _ N => N) (fun k _ => k []) (fun a _ _ ih k N => vOr a (ih (consL k a) N) N) (fun _ _ _ _ _ _ N => N) (fun _ _ _ _ _ N => N) (fun _ _ _ _ N => N) c
noncomputable def appL (l : List SV) : List SV → (List SV → R) → R := List.rec (motive := fun _ => List SV → (List SV → R) → R) (fun b k => k b) (fun x _ ih b k => ih b (consL k x)) l
noncomputable def clv3 (cx : CX) (f : Nat) (C : Ctx) (cl l : List SV) : R := appL l cl (enterK cx f C)
noncomputable def clv2 (args : List CO) (cx : CX) (f : Nat) (C : Ctx) (cl : List SV) : R := argsK args C (clv3 cx f C cl)
noncomputable def clv1 (cf : Nat → Bool) (args : List CO) (cx : CX) (C : Ctx) (f : Nat) (caps : SV) : R := yes (cf f) (lstK caps (clv2 args cx f C) (fb C)) (fb C)
noncomputable def clv0 (cf : Nat → Bool) (args : List CO) (cx : CX) (C : Ctx) (v : SV) : R := onFn v (clv1 cf args cx C) (fb C)
noncomputable def clvK (cf : Nat → Bool) (x : CO) (args : List CO) (cx : CX) (C : Ctx) : R := opdC x C (clv0 cf args cx C)
noncomputable def inv2 (args : List CO) (cx : CX) (C : Ctx) (v : SV) (f : Nat) : R := argsK args C (consL (enterK cx f C) v)
noncomputable def inv1 (mf : Nat → Option Nat) (args : List CO) (cx : CX) (C : Ctx) (t : Nat) (v : SV) : R :=
 Option.rec (motive := fun _ => List CO → CX → Ctx → SV → R) (fun _ _ C _ => fb C) (fun f args cx C v => vOr v (inv2 args cx C v f) (fb C)) (mf t) args cx C v
noncomputable def inv0 (mf : Nat → Option Nat) (args : List CO) (cx : CX) (C : Ctx) (v : SV) : R := onIfc v (inv1 mf args cx C) (fb C)
noncomputable def invK (mf : Nat → Option Nat) (x : CO) (args : List CO) (cx : CX) (C : Ctx) : R := opdC x C (inv0 mf args cx C)
noncomputable def methOf {P : Program} (T : Tab P) (name : String) (t : Nat) : Option Nat := match T.meth t name with
 | some f => if T.call f = true then some f else none
 | none => none
theorem lstK_eq : ∀ (c : SV) (k : List SV → R) (N : R), lstK c k N = N ∨ ∃ l, listOf c = some l ∧ lstK c k N = k l
 | .nil, k, N => .inr ⟨[], rfl, rfl⟩
 | .cons x r, k, N => by
  show vOr x (lstK r (consL k x) N) N = N ∨ ∃ l, _ ∧ vOr x (lstK r (consL k x) N) N = k l
  rw [vOr_eq]
  by_cases hx : x.isV = true
  ·rw [if_pos hx]
   rcases lstK_eq r (consL k x) N with e | ⟨l, hl, e⟩
   ·exact .inl e
   ·exact .inr ⟨x :: l, by unfold listOf; rw [if_pos hx, hl], e⟩
  ·rw [if_neg hx]; exact .inl rfl
 | .undef, _, _ | .opq _, _, _ | .int _ _, _, _ | .bool _, _, _ | .nilp, _, _ | .ptr _ _ _, _, _ | .nils, _, _ | .sli _ _ _ _ _, _, _ | .fn _ _, _, _ | .nilf, _, _ | .ifc _ _, _, _ | .nili, _, _ | .agg _, _, _ | .tup _, _, _ | .arr _ _ _ _, _, _ | .wr _ _ _, _, _ | .rep _ _, _, _ => .inl rfl
theorem appL_eq : ∀ (l b : List SV) (k : List SV → R), appL l b k = k (l ++ b)
 | [], _, _ => rfl
 | x :: l, b, k => appL_eq l b (consL k x)
section
variable {P : Program} {T : Tab P} {cx : CX} {C : Ctx}
theorem enter_fin (h : Fits T cx C) (ha : appArgs T ⟨C.n, C.t⟩ C.o = none) {f : Nat} {l : List SV} (hv : opS T ⟨C.n, C.t⟩ C.o C.m = some [(.enter f l, C.m)]) : enterK cx f C l = fb C := by
 rw [← h.enter ha hv]
 show bindR (cx f l C.m) (retK C) = _
 congr 1
 funext v m'
 exact retK_eq C v m'
theorem cal_ok (h : Fits T cx C) {c : Call} {f : Nat} (ho : C.o.op = .call c) (hc : c.callee = .value (.func f)) (hf : T.call f = true) : calK f (c.args.toList.map coOf) cx C = fb C := by
 unfold calK
 rcases argsK_eq C c.args.toList (enterK cx f C) with e | ⟨l, hl, e⟩
 ·exact e
 ·rw [e]
  refine enter_fin h (by unfold appArgs; rw [ho]; dsimp only; rw [hc]) ?_
  unfold opS
  rw [ho]
  dsimp only
  unfold callS
  rw [hl]
  dsimp only
  rw [hc]
  show (if T.call f = true then X.pure (NX.enter f (l ++ [])) else X.none) C.m = _
  rw [if_pos hf, List.append_nil]
  rfl
theorem clv_ok (h : Fits T cx C) {c : Call} {x : Operand} (ho : C.o.op = .call c) (hc : c.callee = .value x) : clvK T.call (coOf x) (c.args.toList.map coOf) cx C = fb C := by
 unfold clvK
 rw [opdC_eq]
 unfold clv0
 cases hv : (coOf x).of C.t <;> try rfl
 rename_i f caps
 show clv1 T.call _ cx C f caps = _
 unfold clv1
 rw [yes_eq]
 split
 ·rename_i hf
  rcases lstK_eq caps (clv2 (c.args.toList.map coOf) cx f C) (fb C) with e | ⟨cl, hcl, e⟩
  ·exact e
  ·rw [e]
   unfold clv2
   rcases argsK_eq C c.args.toList (clv3 cx f C cl) with e2 | ⟨l, hl, e2⟩
   ·exact e2
   ·rw [e2]
    unfold clv3
    rw [appL_eq]
    refine enter_fin h (by unfold appArgs; rw [ho]; dsimp only; rw [hc]) ?_
    have hx : opd ⟨C.n, C.t⟩ x = some (.fn f caps) := by rw [coOf_ok (by rw [hv]; exact fun e => (by cases e)), hv]
    unfold opS
    rw [ho]
    dsimp only
    unfold callS
    rw [hl]
    dsimp only
    rw [hc]
    dsimp only
    rw [hx]
    dsimp only
    rw [hcl]
    dsimp only
    rw [if_pos hf]
    rfl
 ·rfl
theorem inv_ok (h : Fits T cx C) {c : Call} {x : Operand} {name : String} (ho : C.o.op = .call c) (hc : c.callee = .invoke x name) : invK (methOf T name) (coOf x) (c.args.toList.map coOf) cx C = fb C := by
 unfold invK
 rw [opdC_eq]
 unfold inv0
 cases hv : (coOf x).of C.t <;> try rfl
 rename_i t v
 show inv1 (methOf T name) _ cx C t v = _
 unfold inv1
 cases hm : methOf T name t with
 | none => rfl
 | some f =>
  show vOr v (inv2 (c.args.toList.map coOf) cx C v f) (fb C) = _
  rw [vOr_eq]
  split
  ·rename_i hV
   unfold inv2
   rcases argsK_eq C c.args.toList (consL (enterK cx f C) v) with e | ⟨l, hl, e⟩
   ·exact e
   ·rw [e]
    show enterK cx f C (v :: l) = _
    refine enter_fin h (by unfold appArgs; rw [ho]; dsimp only; rw [hc]) ?_
    have hx : opd ⟨C.n, C.t⟩ x = some (.ifc t v) := by rw [coOf_ok (by rw [hv]; exact fun e => (by cases e)), hv]
    unfold methOf at hm
    unfold opS
    rw [ho]
    dsimp only
    unfold callS
    rw [hl]
    dsimp only
    rw [hc]
    dsimp only
    rw [hx]
    dsimp only
    cases hme : T.meth t name with
    | none => rw [hme] at hm; cases hm
    | some f' =>
     rw [hme] at hm
     dsimp only at hm
     split at hm
     ·rename_i hf
      cases hm
      dsimp only
      rw [if_pos ⟨hf, hV⟩]
      rfl
     ·cases hm
  ·rfl
end
noncomputable def spl4 (x : SV) (K : SV → R) (b : SV) : R := appK x x b K
noncomputable def spl3 (v : SV) (K : SV → R) (x y : SV) : R := appK v v y (spl4 x K)
noncomputable def spl2 (c : SV) (o n : Nat) (v : SV) (K : SV → R) (N : R) (w : Nat) (x : SV) : R := takeK c (Nat.add o n) (Nat.sub w (Nat.add o n)) (spl3 v K x) N
noncomputable def spl1 (c : SV) (o n : Nat) (v : SV) (K : SV → R) (N : R) (w : Nat) : R := takeK c 0 o (spl2 c o n v K N w) N
noncomputable def splK (c : SV) (o n : Nat) (v : SV) (K : SV → R) (N : R) : R := wdK c 0 (spl1 c o n v K N) N
theorem splK_at (c : SV) (o n : Nat) (v : SV) (K : SV → R) (N : R) : splK c o n v K N = N ∨ ∃ r, spliceC c o n v = some r ∧ splK c o n v K N = K r := by
 unfold splK
 rcases wdK_at c 0 (spl1 c o n v K N) N with e | ⟨w, hw, e⟩
 ·exact .inl e
 ·rw [e]
  unfold spl1
  rcases takeK_at c 0 o (spl2 c o n v K N (0 + w)) N with e2 | ⟨x, hx, e2⟩
  ·exact .inl e2
  ·rw [e2]
   unfold spl2
   rcases takeK_at c (Nat.add o n) (Nat.sub (0 + w) (Nat.add o n)) (spl3 v K x) N with e3 | ⟨y, hy, e3⟩
   ·exact .inl e3
   ·rw [e3]
    unfold spl3
    rw [appK_eq]
    unfold spl4
    rw [appK_eq]
    refine .inr ⟨appC x (appC v y), ?_, rfl⟩
    unfold spliceC
    rw [hw]
    dsimp only
    rw [hx]
    rw [Nat.zero_add] at hy
    rw [show takeC c (o + n) (w - (o + n)) = some y from hy]
abbrev BldT := SV → Ctx → R
noncomputable def bl3 (off sz : Nat) (c vc : SV) (ih : BldT) (C : Ctx) (w : Nat) : R := yes (Nat.beq w sz) (splK c off sz vc (fun c => ih c C) (fb C)) (fb C)
noncomputable def bl2 (off sz : Nat) (c : SV) (ih : BldT) (C : Ctx) (vc : SV) : R := wdK vc 0 (bl3 off sz c vc ih C) (fb C)
noncomputable def bl1 (off sz : Nat) (c : SV) (ih : BldT) (C : Ctx) (v : SV) : R := onAgg v (bl2 off sz c ih C) (cOr v (bl2 off sz c ih C (.cons v .nil)) (fb C))
abbrev PartC := (Nat × Nat) × CO
noncomputable def bldK (ps : List PartC) : BldT :=
 List.rec (motive := fun _ => BldT) (fun c C => finA C c)
  (fun p _ ih c C => Prod.rec (motive := fun _ => BldT → SV → Ctx → R) (fun os x ih c C => Prod.rec (motive := fun _ => CO → BldT → SV → Ctx → R) (fun off sz x ih c C => opdC x C (bl1 off sz c ih C)) os x ih c C) p ih c C) ps
noncomputable def placesOf (place : Nat → Option (Nat × Nat)) : List (Nat × Operand) → Option (List ((Nat × Nat) × Operand))
 | [] => some []
 | (i, x) :: r => match place i, placesOf place r with
  | some p, some l => some ((p, x) :: l)
  | _, _ => none
theorem bldK_at (C : Ctx) (place : Nat → Option (Nat × Nat)) : ∀ (ps : List (Nat × Operand)) (qs : List ((Nat × Nat) × Operand)) (c : SV), placesOf place ps = some qs → bldK (qs.map fun q => (q.1, coOf q.2)) c C = fb C ∨ ∃ l r, partsS ⟨C.n, C.t⟩ ps = some l ∧ fillS place c l = some r ∧ bldK (qs.map fun q => (q.1, coOf q.2)) c C = fin C (.agg r)
 | [], qs, c, h => by cases h; exact .inr ⟨[], c, rfl, rfl, rfl⟩
 | (i, x) :: ps, qs, c, h => by
  unfold placesOf at h
  cases hp : place i with
  | none => rw [hp] at h; cases h
  | some p =>
   cases hq : placesOf place ps with
   | none => rw [hp, hq] at h; cases h
   | some qs' =>
    rw [hp, hq] at h
    cases h
    obtain ⟨off, sz⟩ := p
    show opdC (coOf x) C (bl1 off sz c (bldK (qs'.map fun q => (q.1, coOf q.2))) C) = fb C ∨ ∃ l r, _ ∧ _ ∧ opdC (coOf x) C (bl1 off sz c (bldK (qs'.map fun q => (q.1, coOf q.2))) C) = fin C (.agg r)
    rw [opdC_eq]
    have key : ∀ vc, cellsS ((coOf x).of C.t) = some vc → (coOf x).of C.t ≠ .nil → bl2 off sz c (bldK (qs'.map fun q => (q.1, coOf q.2))) C vc = fb C ∨ ∃ l r, partsS ⟨C.n, C.t⟩ ((i, x) :: ps) = some l ∧ fillS place c l = some r ∧ bl2 off sz c (bldK (qs'.map fun q => (q.1, coOf q.2))) C vc = fin C (.agg r) := fun vc hc hv => by
     unfold bl2
     rcases wdK_at vc 0 (bl3 off sz c vc (bldK (qs'.map fun q => (q.1, coOf q.2))) C) (fb C) with e | ⟨w, hw, e⟩
     ·exact .inl e
     ·rw [e]
      unfold bl3
      rw [yes_beq]
      by_cases h0 : 0 + w = sz
      ·rw [if_pos h0]
       rw [Nat.zero_add] at h0
       rcases splK_at c off sz vc (fun c => bldK (qs'.map fun q => (q.1, coOf q.2)) c C) (fb C) with e2 | ⟨c', hc', e2⟩
       ·exact .inl e2
       ·rw [e2]
        rcases bldK_at C place ps qs' c' hq with e3 | ⟨l, r, hl, hr, e3⟩
        ·exact .inl e3
        ·refine .inr ⟨(i, (coOf x).of C.t) :: l, r, ?_, ?_, e3⟩
         ·unfold partsS
          rw [coOf_ok hv, hl]
         ·unfold fillS
          rw [hp, hc]
          dsimp only
          rw [if_pos (by rw [hw, h0]), hc']
          exact hr
      ·rw [if_neg h0]; exact .inl rfl
    unfold bl1
    generalize (coOf x).of C.t = v at key
    cases v <;> first | exact .inl rfl | exact key _ rfl (by intro hh; cases hh)
section
variable {P : Program} {T : Tab P} {cx : CX} {C : Ctx}
noncomputable def placeOf' (T : Tab P) (t : Nat) : Option (Nat → Option (Nat × Nat)) :=
 match T.under t with
 | some (.struct fs) => match sizesOf T fs.toList with
  | some pl => some (pl.toArray[·]?)
  | none => none
 | some (.array _ elem) => match sizeIn T elem with
  | some n => some fun i => some (i * n, n)
  | none => none
 | _ => none
theorem bld_ok (h : Fits T cx C) {t : Nat} {ps : Array (Nat × Operand)} {z : SV} {place : Nat → Option (Nat × Nat)} {qs : List ((Nat × Nat) × Operand)} (ho : C.o.op = .build t ps) (hz : T.zero t = some (.agg z)) (hp : placeOf' T t = some place) (hq : placesOf place ps.toList = some qs) :
  bldK (qs.map fun q => (q.1, coOf q.2)) z C = fb C := by
 rcases bldK_at C place ps.toList qs z hq with e | ⟨l, r, hl, hr, e⟩
 ·exact e
 ·rw [e]
  refine h.valX (by unfold appArgs; rw [ho]) (x := X.ofOption (some (.agg r))) ?_ rfl
  unfold opS
  rw [ho]
  dsimp only
  rw [hl]
  dsimp only
  have : buildS T t l = some (.agg r) := by
   unfold buildS
   unfold placeOf' at hp
   rw [hz]
   dsimp only
   split
   ·rename_i fs hu
    rw [hu] at hp
    dsimp only at hp
    split
    ·rename_i pl hpl
     rw [hpl] at hp
     cases hp
     rw [hr]
    ·rename_i hpl
     rw [hpl] at hp
     cases hp
   ·rename_i elem hu
    rw [hu] at hp
    dsimp only at hp
    split
    ·rename_i n hn
     rw [hn] at hp
     cases hp
     rw [hr]
    ·rename_i hn
     rw [hn] at hp
     cases hp
   ·rename_i h1 h2
    exfalso
    revert hp
    cases hu : T.under t with
    | none => intro hp; cases hp
    | some d => cases d <;> first | (intro hp; cases hp; done) | exact absurd hu (h1 _) | exact absurd hu (h2 _ _)
  rw [this]
  rfl
end
end Go.Sx
namespace Go.Sx
open Go
abbrev Leaf := Nat × Nat × Nat
abbrev EqxT := Nat → SV → SV → X BE
abbrev SlowT := SV → SV → List Leaf → X BE
abbrev BEK := BE → Mem → R
abbrev EqKT := EqxT → SlowT → SV → SV → Mem → BEK → R
noncomputable def brQ (c : BE) (m : Mem) (k : Bool → Mem → R) : R :=
 BE.rec (motive := fun _ => BE → Mem → (Bool → Mem → R) → R) (fun b _ m k => k b m) (fun _ c m k => bindR (branch c m) k) (fun _ _ c m k => bindR (branch c m) k) (fun _ _ c m k => bindR (branch c m) k) (fun _ _ c m k => bindR (branch c m) k) c c m k
theorem zEq_refl (z : Int) : zEq z z = true := by cases z <;> exact Nat.beq_refl _
theorem ieEq_refl (e : IE) : ieEq e e = true := by
 induction e with
 | lit z => exact zEq_refl z
 | var i => exact Nat.beq_refl i
 | sel r i ih => show andB (Nat.beq r r) (ieEq i i) = true; rw [Nat.beq_refl, ih]; rfl
 | add a b iha ihb => show andB (ieEq a a) (ieEq b b) = true; rw [iha, ihb]; rfl
 | sub a b iha ihb => show andB (ieEq a a) (ieEq b b) = true; rw [iha, ihb]; rfl
 | mul a b iha ihb => show andB (ieEq a a) (ieEq b b) = true; rw [iha, ihb]; rfl
 | quo a b iha ihb => show andB (ieEq a a) (ieEq b b) = true; rw [iha, ihb]; rfl
 | rem a b iha ihb => show andB (ieEq a a) (ieEq b b) = true; rw [iha, ihb]; rfl
 | wrap k a ih => show andB (Nat.beq (kindNo k) (kindNo k)) (ieEq a a) = true; rw [Nat.beq_refl, ih]; rfl
 | bit op k a b iha ihb => show andB (decide (op = op)) (andB (Nat.beq (kindNo k) (kindNo k)) (andB (ieEq a a) (ieEq b b))) = true; rw [Nat.beq_refl, iha, ihb, decide_eq_true rfl]; rfl
 | shr a n ih => show andB (ieEq a a) (Nat.beq n n) = true; rw [Nat.beq_refl, ih]; rfl
 | app f x ih => show andB (Nat.beq f f) (ieEq x x) = true; rw [Nat.beq_refl, ih]; rfl
 | arg a r iha ihr => show andB (ieEq a a) (ieEq r r) = true; rw [iha, ihr]; rfl
 | noarg => rfl
 | ite k a b x y iha ihb ihx ihy => show andB (bEq k k) (andB (ieEq a a) (andB (ieEq b b) (andB (ieEq x x) (ieEq y y)))) = true; rw [iha, ihb, ihx, ihy]; cases k <;> rfl
 | bv i => exact Nat.beq_refl i
theorem brQ_eq (c : BE) (m : Mem) (k : Bool → Mem → R) : brQ c m k = bindR (branch c m) k := by cases c <;> rfl
noncomputable def eq5 (ih : EqKT) (ex : EqxT) (sl : SlowT) (xs ys : SV) (K : BEK) (r : Bool) (m : Mem) : R :=
 Bool.rec (motive := fun _ => EqKT → EqxT → SlowT → SV → SV → Mem → BEK → R) (fun _ _ _ _ _ m K => K (.lit false) m) (fun ih ex sl xs ys m K => ih ex sl xs ys m K) r ih ex sl xs ys m K
noncomputable def eq4 (ih : EqKT) (ex : EqxT) (sl : SlowT) (xs ys : SV) (K : BEK) (c : BE) (m : Mem) : R := brQ c m (eq5 ih ex sl xs ys K)
noncomputable def eqI (a b : SV) : Bool := vbInt a fun k e => vbInt b fun k' e' => andB (Nat.beq (kindNo k) (kindNo k')) (ieEq e e')
noncomputable def eqB (a b : SV) : Bool := vbBool a fun e => vbBool b fun e' => beEq e e'
noncomputable def same1 (kd : Nat) (a b : SV) : Bool := Nat.rec (motive := fun _ => SV → SV → Bool) (fun _ _ => false) (fun n _ a b => Nat.rec (motive := fun _ => SV → SV → Bool) (fun a b => eqI a b) (fun _ _ a b => eqB a b) n a b) kd a b
noncomputable def eq3 (ih : EqKT) (ex : EqxT) (sl : SlowT) (xs ys : SV) (m : Mem) (K : BEK) (t kd : Nat) (a b : SV) : R := yes (same1 kd a b) (ih ex sl xs ys m K) (bindR (ex t a b m) (eq4 ih ex sl xs ys K))
noncomputable def eq2 (ih : EqKT) (ex : EqxT) (sl : SlowT) (xs ys : SV) (m : Mem) (K : BEK) (N : R) (off t kd : Nat) (a : SV) : R := getNK ys off (eq3 ih ex sl xs ys m K t kd a) N
noncomputable def eq1 (ih : EqKT) (ex : EqxT) (sl : SlowT) (xs ys : SV) (m : Mem) (K : BEK) (N : R) (off t kd : Nat) : R := getNK xs off (eq2 ih ex sl xs ys m K N off t kd) N
noncomputable def eqK (l : List Leaf) : EqKT :=
 List.rec (motive := fun _ => EqKT) (fun _ _ _ _ m K => K (.lit true) m)
  (fun p r ih ex sl xs ys m K => Prod.rec (motive := fun _ => List Leaf → Leaf → EqKT → EqKT) (fun off q r p ih ex sl xs ys m K => Prod.rec (motive := fun _ => Nat → R → EqKT → EqKT) (fun t kd off N ih ex sl xs ys m K => eq1 ih ex sl xs ys m K N off t kd) q off (bindR (sl xs ys (p :: r) m) K) ih ex sl xs ys m K) p r p ih ex sl xs ys m K) l
noncomputable def leafKind {P : Program} (T : Tab P) (t : Nat) : Nat := match T.under t with
 | some (.int _) => 1
 | some .bool => 2
 | _ => 0
noncomputable def leafOf {P : Program} (T : Tab P) (p : Nat × Nat) : Leaf := (p.1, p.2, leafKind T p.2)
noncomputable def slowOf {P : Program} (T : Tab P) : SlowT := fun xs ys l => eqFieldsS T xs ys (l.map fun p => (p.1, p.2.1))
theorem eqI_ok {a b : SV} (h : eqI a b = true) : ∃ k e, a = .int k e ∧ b = .int k e := by
 obtain ⟨k, e, rfl, h⟩ := vbInt_ok (vv := a) h
 obtain ⟨k', e', rfl, h⟩ := vbInt_ok (vv := b) h
 obtain ⟨h1, h2⟩ := andB_ok h
 rw [kindNo_eq h1, ieEq_ok h2]
 exact ⟨_, _, rfl, rfl⟩
theorem eqB_ok {a b : SV} (h : eqB a b = true) : ∃ e, a = .bool e ∧ b = .bool e := by
 obtain ⟨e, rfl, h⟩ := vbBool_ok (vv := a) h
 obtain ⟨e', rfl, h⟩ := vbBool_ok (vv := b) h
 rw [beEq_ok h]
 exact ⟨_, rfl, rfl⟩
theorem mkEq_same (kn : Know) (e : IE) : mkEq kn e e = .lit true := by
 unfold mkEq
 split
 ·simp
 ·rw [if_pos (ieEq_refl _)]
theorem same1_ok {P : Program} {T : Tab P} {t : Nat} {a b : SV} (h : same1 (leafKind T t) a b = true) (m : Mem) : eqX T t a b m = some [(.lit true, m)] := by
 unfold leafKind at h
 cases hu : T.under t with
 | none => rw [hu] at h; cases h
 | some d =>
  rw [hu] at h
  cases d <;> first | (cases h; done) | skip
  case bool =>
   obtain ⟨e, rfl, rfl⟩ := eqB_ok (show eqB a b = true from h)
   unfold eqX
   rw [hu]
   dsimp only
   rw [if_pos rfl]
   rfl
  case int k =>
   obtain ⟨k', e, rfl, rfl⟩ := eqI_ok (show eqI a b = true from h)
   unfold eqX
   rw [hu]
   show (X.ofOption (eqCell T m.know t (.int k' e) (.int k' e))) m = _
   unfold eqCell
   rw [hu]
   dsimp only
   rw [if_pos rfl, mkEq_same]
   rfl
theorem eqK_eq {P : Program} (T : Tab P) : ∀ (l : List (Nat × Nat)) (xs ys : SV) (m : Mem) (K : BEK), eqK (l.map (leafOf T)) (eqX T) (slowOf T) xs ys m K = bindR (eqFieldsS T xs ys l m) K
 | [], xs, ys, m, K => rfl
 | (off, t) :: l, xs, ys, m, K => by
  have hs : slowOf T xs ys (leafOf T (off, t) :: l.map (leafOf T)) = eqFieldsS T xs ys ((off, t) :: l) := by
   unfold slowOf
   rw [List.map_cons, List.map_map]
   congr 1
   show (off, t) :: l.map _ = _
   congr 1
   exact List.map_id' l
  show eq1 (eqK (l.map (leafOf T))) (eqX T) (slowOf T) xs ys m K (bindR (slowOf T xs ys (leafOf T (off, t) :: l.map (leafOf T)) m) K) off t (leafKind T t) = _
  rw [hs]
  unfold eq1
  rcases getNK_at xs off (eq2 (eqK (l.map (leafOf T))) (eqX T) (slowOf T) xs ys m K (bindR (eqFieldsS T xs ys ((off, t) :: l) m) K) off t (leafKind T t)) (bindR (eqFieldsS T xs ys ((off, t) :: l) m) K) with e | ⟨a, ha, e⟩
  ·exact e
  ·rw [e]
   unfold eq2
   rcases getNK_at ys off (eq3 (eqK (l.map (leafOf T))) (eqX T) (slowOf T) xs ys m K t (leafKind T t) a) (bindR (eqFieldsS T xs ys ((off, t) :: l) m) K) with e | ⟨b, hb, e⟩
   ·exact e
   ·rw [e]
    have step : bindR (eqFieldsS T xs ys ((off, t) :: l) m) K = bindR (eqX T t a b m) (eq4 (eqK (l.map (leafOf T))) (eqX T) (slowOf T) xs ys K) := by
     show bindR (X.bind (getC xs (.lit off)) (fun a => X.bind (getC ys (.lit off)) fun b => X.bind (eqX T t a b) fun c => X.bind (branch c) fun r => if r then eqFieldsS T xs ys l else X.pure (.lit false)) m) K = _
     rw [bind_one (ha m), bind_one (hb m), bindR_bind]
     congr 1
     funext c m'
     rw [bindR_bind]
     show _ = brQ c m' _
     rw [brQ_eq]
     congr 1
     funext r m2
     cases r
     ·rfl
     ·exact (eqK_eq T l xs ys m2 K).symm
    unfold eq3
    rw [yes_eq]
    split
    ·rename_i hsm
     rw [step, same1_ok hsm m, bindR_one]
     show _ = brQ (.lit true) m _
     exact rfl
    ·rw [step]
noncomputable def yesB (b : Bool) (x y : BE) : BE := match b with | true => x | false => y
noncomputable def finQ (ng : Bool) (C : Ctx) (c : BE) (m : Mem) : R :=
 BE.rec (motive := fun _ => Bool → Ctx → BE → Mem → R) (fun b ng C _ m => yes (bEq b ng) (finM C (.bool (.lit false)) m) (finM C (.bool (.lit true)) m))
  (fun _ ng C c m => finM C (.bool (yesB ng (mkNot c) c)) m) (fun _ _ ng C c m => finM C (.bool (yesB ng (mkNot c) c)) m) (fun _ _ ng C c m => finM C (.bool (yesB ng (mkNot c) c)) m) (fun _ _ ng C c m => finM C (.bool (yesB ng (mkNot c) c)) m) c ng C c m
theorem finQ_eq (ng : Bool) (C : Ctx) (c : BE) (m : Mem) : finQ ng C c m = finM C (.bool (if ng then mkNot c else c)) m := by
 cases c with
 | lit b => cases ng <;> cases b <;> rfl
 | _ => cases ng <;> rfl
noncomputable def qa5 (ng : Bool) (l : List Leaf) (ex : EqxT) (sl : SlowT) (xs ys : SV) (C : Ctx) : R := Ctx.rec (motive := fun _ => Bool → List Leaf → EqxT → SlowT → SV → SV → Ctx → R) (fun _ _ _ _ _ m _ ng l ex sl xs ys C => eqK l ex sl xs ys m (finQ ng C)) C ng l ex sl xs ys C
noncomputable def qa4 (ng : Bool) (l : List Leaf) (n : Nat) (ex : EqxT) (sl : SlowT) (xs ys : SV) (C : Ctx) (b : Nat) : R := yes (Nat.beq b n) (qa5 ng l ex sl xs ys C) (fb C)
noncomputable def qa3 (ng : Bool) (l : List Leaf) (n : Nat) (ex : EqxT) (sl : SlowT) (xs ys : SV) (C : Ctx) (a : Nat) : R := yes (Nat.beq a n) (wdK ys 0 (qa4 ng l n ex sl xs ys C) (fb C)) (fb C)
noncomputable def qa2 (ng : Bool) (l : List Leaf) (n : Nat) (ex : EqxT) (sl : SlowT) (C : Ctx) (xs ys : SV) : R := wdK xs 0 (qa3 ng l n ex sl xs ys C) (fb C)
noncomputable def qa1 (ng : Bool) (l : List Leaf) (n : Nat) (ex : EqxT) (sl : SlowT) (C : Ctx) (xs : SV) (w : SV) : R := onAgg w (qa2 ng l n ex sl C xs) (fb C)
noncomputable def qaB (ng : Bool) (l : List Leaf) (n : Nat) (ex : EqxT) (sl : SlowT) (y : CO) (C : Ctx) (xs : SV) : R := opdC y C (qa1 ng l n ex sl C xs)
noncomputable def qa0 (ng : Bool) (l : List Leaf) (n : Nat) (ex : EqxT) (sl : SlowT) (y : CO) (C : Ctx) (v : SV) : R := onAgg v (qaB ng l n ex sl y C) (fb C)
noncomputable def qaK (ng : Bool) (l : List Leaf) (n : Nat) (ex : EqxT) (sl : SlowT) (x y : CO) (C : Ctx) : R := opdC x C (qa0 ng l n ex sl y C)
section
variable {P : Program} {T : Tab P} {cx : CX} {C : Ctx}
theorem Fits.multi (h : Fits T cx C) (ha : appArgs T ⟨C.n, C.t⟩ C.o = none) {x : X SV} (ho : opS T ⟨C.n, C.t⟩ C.o = Sx.valX x) : bindR (x C.m) (fun v m' => finM C v m') = fb C := by
 rw [h.fb_eq, h.step ha, ho, bindR_bind]
 unfold Sx.valX
 rw [bindR_bind]
 congr 1
 funext v m'
 rw [bindR_pure]
 show _ = bindR (putX' ⟨C.n, C.t⟩ C.o.dst v m') C.K
 rw [putX'_eq, bindR_pure, finM_eq C v m' h.d]
theorem qa_ok (h : Fits T cx C) {op : BinOp} {t t' n : Nat} {x y : Operand} {l : List (Nat × Nat)} {ng : Bool} (hop : op = if ng then .neq else .eql) (ho : C.o.op = .binOp op t x y t') (hl : T.eqs t = some l) (hn : sizeIn T t = some n) :
  qaK ng (l.map (leafOf T)) n (eqX T) (slowOf T) (coOf x) (coOf y) C = fb C := by
 unfold qaK
 rw [opdC_eq]
 unfold qa0
 cases hv : (coOf x).of C.t <;> try rfl
 rename_i xs
 show opdC (coOf y) C (qa1 ng (l.map (leafOf T)) n (eqX T) (slowOf T) C xs) = _
 rw [opdC_eq]
 unfold qa1
 cases hw : (coOf y).of C.t <;> try rfl
 rename_i ys
 show qa2 ng (l.map (leafOf T)) n (eqX T) (slowOf T) C xs ys = _
 unfold qa2
 rcases wdK_at xs 0 (qa3 ng (l.map (leafOf T)) n (eqX T) (slowOf T) xs ys C) (fb C) with e | ⟨a, ha, e⟩
 ·exact e
 ·rw [e]
  unfold qa3
  rw [yes_beq]
  by_cases h1 : 0 + a = n
  ·rw [if_pos h1]
   rcases wdK_at ys 0 (qa4 ng (l.map (leafOf T)) n (eqX T) (slowOf T) xs ys C) (fb C) with e2 | ⟨b, hb, e2⟩
   ·exact e2
   ·rw [e2]
    unfold qa4
    rw [yes_beq]
    by_cases h2 : 0 + b = n
    ·rw [if_pos h2]
     show eqK (l.map (leafOf T)) (eqX T) (slowOf T) xs ys C.m (finQ ng C) = _
     rw [eqK_eq]
     have hx : opd ⟨C.n, C.t⟩ x = some (.agg xs) := by rw [coOf_ok (by rw [hv]; exact fun e => (by cases e)), hv]
     have hy : opd ⟨C.n, C.t⟩ y = some (.agg ys) := by rw [coOf_ok (by rw [hw]; exact fun e => (by cases e)), hw]
     have hs : eqS T t (.agg xs) (.agg ys) = eqFieldsS T xs ys l := by
      unfold eqS
      dsimp only
      rw [hl, ha, hb, hn]
      dsimp only
      rw [if_pos ⟨by omega, by omega⟩]
     have hB : opS T ⟨C.n, C.t⟩ C.o = Sx.valX (X.bind (eqFieldsS T xs ys l) fun c => X.pure (.bool (if ng then mkNot c else c))) := by
      unfold opS
      rw [ho]
      dsimp only
      rw [hx, hy]
      dsimp only
      congr 1
      unfold binS
      rw [hop]
      cases ng
      ·simp only [Bool.false_eq_true, if_false]
       rw [if_neg (by simp), hs]
      ·simp only [if_true]
       rw [if_neg (by simp), hs]
     rw [← h.multi (by unfold appArgs; rw [ho]) hB, bindR_bind]
     congr 1
     funext c m'
     rw [bindR_pure, finQ_eq]
    ·rw [if_neg h2]
  ·rw [if_neg h1]
end
end Go.Sx
namespace Go.Sx
open Go
inductive COp where
 | old
 | mv (x : CO)
 | bin (op : BinOp) (x : CO) (y : CO)
 | ld (x : CO)
 | lda (z : Nat) (x : CO)
 | st (x : CO) (y : CO)
 | sta (z : Nat) (x : CO) (y : CO)
 | fa (off : Nat) (g : G1) (x : CO)
 | ia (n : Nat) (z : Nat) (g : G2) (x : CO) (y : CO)
 | isl (z : Nat) (g : G2) (x : CO) (y : CO)
 | nc (x : CO)
 | ex (i : Nat) (x : CO)
 | mi (t : Nat) (x : CO)
 | ta (t : Nat) (ok : Bool) (z : SV) (x : CO)
 | cv (k : IntKind) (g : G1) (x : CO)
 | p1 (g : G1) (x : CO)
 | le (g : G1) (x : CO)
 | fl (off : Nat) (x : CO)
 | fg (off : Nat) (z : Nat) (x : CO)
 | ix (ag : Bool) (n : Nat) (z : Nat) (x : CO) (y : CO)
 | al (t : Nat) (c : SV)
 | bx (t : Nat) (x : CO)
 | pi (c : CO) (x : CO) (y : CO)
 | cal (f : Nat) (args : List CO)
 | clv (cf : Nat → Bool) (x : CO) (args : List CO)
 | inv (mf : Nat → Option Nat) (x : CO) (args : List CO)
 | bld (ps : List PartC) (z : SV)
 | eqa (ng : Bool) (l : List Leaf) (n : Nat) (ex : EqxT) (sl : SlowT) (x : CO) (y : CO)
noncomputable def runOp (c : COp) (cx : CX) (C : Ctx) : R :=
 COp.rec (motive := fun _ => CX → Ctx → R) (fun _ C => fb C) (fun x _ C => opdC x C (mvK C)) (fun op x y _ C => binK op x y C) (fun x _ C => ldK x C) (fun z x _ C => ldaK z x C) (fun x y _ C => stK x y C) (fun z x y _ C => stAK z x y C) (fun off g x _ C => faK off g x C) (fun n z g x y _ C => iaK n z g x y C) (fun z g x y _ C => isK2 z g x y C) (fun x _ C => ncK x C) (fun i x _ C => exK i x C) (fun t x _ C => miK t x C) (fun t ok z x _ C => taK t ok z x C) (fun k g x _ C => cvK k g x C) (fun g x _ C => p1K g x C) (fun g x _ C => leK g x C) (fun off x _ C => flK off x C) (fun off z x _ C => fgK off z x C) (fun ag n z x y _ C => ixK ag n z x y C) (fun t c _ C => alK t c C) (fun t x _ C => bxK t x C) (fun c x y _ C => piK c x y C) (fun f args cx C => calK f args cx C) (fun cf x args cx C => clvK cf x args cx C) (fun mf x args cx C => invK mf x args cx C) (fun ps z _ C => bldK ps z C) (fun ng l n ex sl x y _ C => qaK ng l n ex sl x y C) c cx C
noncomputable def nfPa {α : Type} (p : Pa) : (Pa → α) → α := Pa.rec (motive := fun _ => (Pa → α) → α) (fun k => k .h) (fun _ ih k => ih fun p => k (.l p)) (fun _ ih k => ih fun p => k (.r p)) p
theorem nfPa_eq {α : Type} (p : Pa) : ∀ k : Pa → α, nfPa p k = k p := by
 induction p with
 | h => intro k; rfl
 | l p ih => intro k; exact ih _
 | r p ih => intro k; exact ih _
noncomputable def nfCO {α : Type} (x : CO) (k : CO → α) : α := match x with
 | .slot p => nfPa p fun p => k (.slot p)
 | .val v => nfS v fun v => k (.val v)
 | .bad => k .bad
theorem nfCO_eq {α : Type} (x : CO) (k : CO → α) : nfCO x k = k x := by cases x with
 | slot p => exact nfPa_eq p _
 | val v => exact nfS_eq v _
 | bad => rfl
noncomputable def nfCD {α : Type} (x : CD) (k : CD → α) : α := match x with
 | .no => k .no
 | .at p => nfPa p fun p => k (.at p)
theorem nfCD_eq {α : Type} (x : CD) (k : CD → α) : nfCD x k = k x := by cases x with
 | no => rfl
 | «at» p => exact nfPa_eq p _
noncomputable def nfPart {α : Type} (p : PartC) (k : PartC → α) : α := nfN p.1.1 fun a => nfN p.1.2 fun b => nfCO p.2 fun x => k ((a, b), x)
theorem nfPart_eq {α : Type} (p : PartC) (k : PartC → α) : nfPart p k = k p := by unfold nfPart; rw [nfN_eq, nfN_eq, nfCO_eq]
noncomputable def nfLeaf {α : Type} (p : Leaf) (k : Leaf → α) : α := nfN p.1 fun a => nfN p.2.1 fun b => nfN p.2.2 fun c => k (a, b, c)
theorem nfLeaf_eq {α : Type} (p : Leaf) (k : Leaf → α) : nfLeaf p k = k p := by unfold nfLeaf; rw [nfN_eq, nfN_eq, nfN_eq]
noncomputable def nfCOs {α : Type} (l : List Operand) (k : List CO → α) : α := nfL nfCO (l.map coOf) k
theorem nfCOs_eq {α : Type} (l : List Operand) (k : List CO → α) : nfCOs l k = k (l.map coOf) := nfL_eq nfCO_eq _ k
noncomputable def nfC1 {α : Type} (x : Operand) (k : CO → α) : α := nfCO (coOf x) k
theorem nfC1_eq {α : Type} (x : Operand) (k : CO → α) : nfC1 x k = k (coOf x) := nfCO_eq _ k
section
variable {P : Program}
noncomputable def notIface : TypeDesc → Bool
 | .interface _ => false
 | _ => true
noncomputable def compCall (T : Tab P) (c : Call) : COp :=
 match c.callee with
 | .value (.func f) => if T.call f = true then nfCOs c.args.toList fun l => .cal f l else .old
 | .value x => nfC1 x fun x => nfCOs c.args.toList fun l => .clv T.call x l
 | .invoke x name => nfC1 x fun x => nfCOs c.args.toList fun l => .inv (methOf T name) x l
 | .builtin .len => match c.args.toList, c.argTypes[0]? with
  | [x], some t => match T.under t with
   | some (.slice _) => nfC1 x fun x => .le (fun kn v => lenS T kn t v) x
   | _ => .old
  | _, _ => .old
 | _ => .old
noncomputable def compOp (T : Tab P) (o : Oper) : COp :=
 match o.op with
  | .move x => nfC1 x fun x => .mv x
  | .assign x => nfC1 x fun x => .mv x
  | .binOp op t x y _ => match op with
   | .shl => .old
   | .shr => .old
   | .eql => match T.eqs t, sizeIn T t with
    | some l, some n => nfL nfLeaf (l.map (leafOf T)) fun l => nfN n fun n => nfC1 x fun x => nfC1 y fun y => .eqa false l n (eqX T) (slowOf T) x y
    | _, _ => nfC1 x fun x => nfC1 y fun y => .bin .eql x y
   | .neq => match T.eqs t, sizeIn T t with
    | some l, some n => nfL nfLeaf (l.map (leafOf T)) fun l => nfN n fun n => nfC1 x fun x => nfC1 y fun y => .eqa true l n (eqX T) (slowOf T) x y
    | _, _ => nfC1 x fun x => nfC1 y fun y => .bin .neq x y
   | op => nfC1 x fun x => nfC1 y fun y => .bin op x y
  | .load t x => match aggOf T t with
   | some false => nfC1 x fun x => .ld x
   | some true => match sizeIn T t with
    | some z => nfN z fun z => nfC1 x fun x => .lda z x
    | none => .old
   | none => .old
  | .store t x y => match sizeIn T t with
   | some z => if z = 1 then nfC1 x fun x => nfC1 y fun y => .st x y else nfN z fun z => nfC1 x fun x => nfC1 y fun y => .sta z x y
   | none => .old
  | .fieldAddr t x i => match T.under t with
   | some (.struct fs) => match fs[i]? with
    | some f => match sizeIn T f.type with
     | some z => if z = 0 then .old else nfN f.offset fun off => nfC1 x fun x => .fa off (fun kn v => fieldAddrS T kn t v i) x
     | none => .old
    | none => .old
   | _ => .old
  | .indexAddr t x y => match T.under t with
   | some (.array n el) => match sizeIn T el with
    | some z => nfN n fun n => nfN z fun z => nfC1 x fun x => nfC1 y fun y => .ia n z (fun kn v w => indexAddrS T kn t v w) x y
    | none => .old
   | some (.slice el) => match sizeIn T el with
    | some z => nfN z fun z => nfC1 x fun x => nfC1 y fun y => .isl z (fun kn v w => indexAddrS T kn t v w) x y
    | none => .old
   | _ => .old
  | .field t x i => match T.under t with
   | some (.struct fs) => match fs[i]? with
    | some f => match aggOf T f.type with
     | some false => nfN f.offset fun off => nfC1 x fun x => .fl off x
     | some true => match sizeIn T f.type with
      | some z => nfN f.offset fun off => nfN z fun z => nfC1 x fun x => .fg off z x
      | none => .old
     | none => .old
    | none => .old
   | _ => .old
  | .index t x y => match T.under t with
   | some (.array n el) => match aggOf T el, sizeIn T el with
    | some ag, some z => nfN n fun n => nfN z fun z => nfC1 x fun x => nfC1 y fun y => .ix ag n z x y
    | _, _ => .old
   | _ => .old
  | .nilCheck x => nfC1 x fun x => .nc x
  | .extract x i => nfN i fun i => nfC1 x fun x => .ex i x
  | .makeInterface t x => match T.under t with
   | some d => if notIface d = true then nfC1 x fun x => .mi t x else .old
   | none => .old
  | .typeAssert x _ t ok => match T.under t with
   | some d => if notIface d = true then match T.zero t with
    | some z => nfS z fun z => nfC1 x fun x => .ta t ok z x
    | none => .old else .old
   | none => .old
  | .convert s d x => match T.under s, T.under d with
   | some _, some (.int k) => nfC1 x fun x => .cv k (fun kn v => convertS T kn s d v) x
   | _, _ => .old
  | .unOp op _ x => nfC1 x fun x => .p1 (fun kn v => unOpS kn op v) x
  | .alloc t => match T.zero t with
   | some z => match cellsS z with
    | some c => nfS c fun c => .al t c
    | none => .old
   | none => .old
  | .box t x => nfC1 x fun x => .bx t x
  | .pick c x y => nfC1 c fun c => nfC1 x fun x => nfC1 y fun y => .pi c x y
  | .build t ps => match T.zero t, placeOf' T t with
   | some (.agg z), some place => match placesOf place ps.toList with
    | some qs => nfS z fun z => nfL nfPart (qs.map fun q => (q.1, coOf q.2)) fun qs => .bld qs z
    | none => .old
   | _, _ => .old
  | .call c => compCall T c
  | _ => .old
theorem notIface_ok {d : TypeDesc} (h : notIface d = true) : ∀ i, d ≠ .interface i := by
 intro i e; subst e; cases h
variable {T : Tab P} {cx : CX} {C : Ctx}
theorem compCall_ok (h : Fits T cx C) {c : Call} (ho : C.o.op = .call c) : runOp (compCall T c) cx C = fb C := by
 unfold compCall
 split
 ·rename_i f hc
  split
  ·rename_i hf
   rw [nfCOs_eq]
   exact cal_ok h ho hc hf
  ·rfl
 ·rename_i x _ hc
  rw [nfC1_eq, nfCOs_eq]
  exact clv_ok h ho hc
 ·rename_i x name hc
  rw [nfC1_eq, nfCOs_eq]
  exact inv_ok h ho hc
 ·rename_i hc
  split
  ·rename_i x t hx ht
   split
   ·rename_i el hu
    rw [nfC1_eq]
    exact le_ok h ho hc hx ht ⟨el, hu⟩
   ·rfl
  ·rfl
 ·rfl
theorem compOp_ok (h : Fits T cx C) : runOp (compOp T C.o) cx C = fb C := by
 unfold compOp
 cases ho : C.o.op <;> dsimp only <;> try rfl
 case move x => rw [nfC1_eq]; exact mv_ok h (.inl ho)
 case assign x => rw [nfC1_eq]; exact mv_ok h (.inr ho)
 case binOp op t x y t' =>
  split
  ·rfl
  ·rfl
  ·split
   ·rename_i l n hl hn
    rw [nfL_eq nfLeaf_eq, nfN_eq, nfC1_eq, nfC1_eq]
    exact qa_ok (ng := false) h rfl ho hl hn
   ·rw [nfC1_eq, nfC1_eq]
    exact bin_ok h ho (fun e => by cases e) (fun e => by cases e)
  ·split
   ·rename_i l n hl hn
    rw [nfL_eq nfLeaf_eq, nfN_eq, nfC1_eq, nfC1_eq]
    exact qa_ok (ng := true) h rfl ho hl hn
   ·rw [nfC1_eq, nfC1_eq]
    exact bin_ok h ho (fun e => by cases e) (fun e => by cases e)
  ·rename_i h1 h2 _ _
   rw [nfC1_eq, nfC1_eq]
   exact bin_ok h ho (fun e => h1 e) (fun e => h2 e)
 case load t x =>
  split
  ·rename_i ht
   rw [nfC1_eq]; exact ld_ok h ho ht
  ·rename_i ht
   split
   ·rename_i z hz
    rw [nfN_eq, nfC1_eq]; exact lda_ok h ho ht hz
   ·rfl
  ·rfl
 case store t x y =>
  split
  ·rename_i z hz
   split
   ·rename_i h1
    rw [nfC1_eq, nfC1_eq]; exact st_ok h ho (by rw [hz, h1])
   ·rename_i h1
    rw [nfN_eq, nfC1_eq, nfC1_eq]; exact sta_ok h ho hz h1
  ·rfl
 case fieldAddr t x i =>
  split
  ·rename_i fs ht
   split
   ·rename_i f hf
    split
    ·rename_i z hz
     split
     ·rfl
     ·rename_i h0
      rw [nfN_eq, nfC1_eq]; exact fa_ok h ho ht hf hz h0 rfl
    ·rfl
   ·rfl
  ·rfl
 case indexAddr t x y =>
  split
  ·rename_i n el ht
   split
   ·rename_i z hz
    rw [nfN_eq, nfN_eq, nfC1_eq, nfC1_eq]; exact ia_ok h ho ht hz
   ·rfl
  ·rename_i el ht
   split
   ·rename_i z hz
    rw [nfN_eq, nfC1_eq, nfC1_eq]; exact is_ok h ho ht hz
   ·rfl
  ·rfl
 case field t x i =>
  split
  ·rename_i fs ht
   split
   ·rename_i f hf
    split
    ·rename_i hg
     rw [nfN_eq, nfC1_eq]; exact fl_ok h ho ht hf hg rfl
    ·rename_i hg
     split
     ·rename_i z hz
      rw [nfN_eq, nfN_eq, nfC1_eq]; exact fg_ok h ho ht hf hg hz rfl
     ·rfl
    ·rfl
   ·rfl
  ·rfl
 case index t x y =>
  split
  ·rename_i n el ht
   split
   ·rename_i ag z hg hz
    rw [nfN_eq, nfN_eq, nfC1_eq, nfC1_eq]; exact ix_ok h ho ht hg hz
   ·rfl
  ·rfl
 case nilCheck x => rw [nfC1_eq]; exact nc_ok h ho
 case extract x i => rw [nfN_eq, nfC1_eq]; exact ex_ok h ho
 case makeInterface t x =>
  split
  ·rename_i d ht
   split
   ·rename_i hd
    rw [nfC1_eq]; exact mi_ok h ho ht (notIface_ok hd)
   ·rfl
  ·rfl
 case typeAssert x xt t ok =>
  split
  ·rename_i d ht
   split
   ·rename_i hd
    split
    ·rename_i z hz
     rw [nfS_eq, nfC1_eq]; exact ta_ok h ho ht (notIface_ok hd) hz
    ·rfl
   ·rfl
  ·rfl
 case convert s d x =>
  split
  ·rename_i u k hs hd
   rw [nfC1_eq]; exact cv_ok h ho hs hd
  ·rfl
 case unOp op t x =>
  rw [nfC1_eq]
  exact p1_ok h (x := x) (g := fun kn v => unOpS kn op v) ⟨by unfold appArgs; rw [ho], fun v hv => by unfold opS; rw [ho]; dsimp only; rw [hv]; rfl⟩
 case alloc t =>
  split
  ·rename_i z hz
   split
   ·rename_i c hc
    rw [nfS_eq]; exact al_ok h ho hz hc
   ·rfl
  ·rfl
 case box t x => rw [nfC1_eq]; exact bx_ok h ho
 case pick c x y => rw [nfC1_eq, nfC1_eq, nfC1_eq]; exact pi_ok h ho
 case build t ps =>
  split
  ·rename_i z place hz hp
   split
   ·rename_i qs hq
    rw [nfS_eq, nfL_eq nfPart_eq]; exact bld_ok h ho hz hp hq
   ·rfl
  ·rfl
 case call c => exact compCall_ok h ho
end
noncomputable def brK (c : BE) (m : Mem) (k : Bool → Mem → R) : R :=
 BE.rec (motive := fun _ => BE → Mem → (Bool → Mem → R) → R) (fun b _ m k => k b m) (fun _ c m k => bindR (branch c m) k) (fun _ _ c m k => bindR (branch c m) k) (fun _ _ c m k => bindR (branch c m) k) (fun _ _ c m k => bindR (branch c m) k) c c m k
theorem brK_eq (c : BE) (m : Mem) (k : Bool → Mem → R) : brK c m k = bindR (branch c m) k := by cases c <;> rfl
inductive CG where
 | no
 | never
 | at (p : Pa) (w : Bool)
structure CP where
 d : CD
 o : Oper
 c : COp
 g : CG
noncomputable def cgOf (ops : Array Oper) (o : Oper) : CG := match o.guard with
 | none => .no
 | some (j, w) => match (ops[j]?).bind (·.dst) with
  | none => .never
  | some d => nfPa (pa d) fun p => .at p w
noncomputable def compP {P : Program} (T : Tab P) (ops : Array Oper) (o : Oper) : CP := nfCD (cdOf o.dst) fun d => ⟨d, o, compOp T o, cgOf ops o⟩
noncomputable def compL {P : Program} (T : Tab P) (ops : Array Oper) (l : List Oper) : List CP := List.rec (motive := fun _ => List CP) [] (fun o _ ih => compP T ops o :: ih) l
abbrev OldT := Oper → Fr → Mem → Option (List (Fr × Mem))
abbrev SeqT := OldT → CX → Nat → FT → Mem → (Fr → Mem → R) → R
noncomputable def seqK (ih : SeqT) (old : OldT) (cx : CX) (K : Fr → Mem → R) (fr : Fr) (m : Mem) : R :=
 Fr.rec (motive := fun _ => SeqT → OldT → CX → (Fr → Mem → R) → Mem → R) (fun n t ih old cx K m => ih old cx n t m K) fr ih old cx K m
noncomputable def ctxM (C : Ctx) (m : Mem) : Ctx := Ctx.rec (motive := fun _ => Mem → Ctx) (fun d o old n t _ K m => ⟨d, o, old, n, t, m, K⟩) C m
noncomputable def beqB (r w : Bool) : Bool := Bool.rec (motive := fun _ => Bool → Bool) (fun w => Bool.rec (motive := fun _ => Bool) true false w) (fun w => w) r w
theorem beqB_eq (r w : Bool) : beqB r w = (r == w) := by cases r <;> cases w <;> rfl
noncomputable def gd1 (c : COp) (cx : CX) (w : Bool) (C : Ctx) (r : Bool) (m : Mem) : R := yes (beqB r w) (runOp c cx (ctxM C m)) (finM C .undef m)
noncomputable def gd0 (c : COp) (cx : CX) (w : Bool) (C : Ctx) (b : BE) : R := Ctx.rec (motive := fun _ => COp → CX → Bool → BE → Ctx → R) (fun _ _ _ _ _ m _ c cx w b C => brK b m (gd1 c cx w C)) C c cx w b C
noncomputable def gdV (c : COp) (cx : CX) (w : Bool) (C : Ctx) (v : SV) : R := onBool v (gd0 c cx w C) (vOr v (fin C .undef) none)
noncomputable def runG (g : CG) (c : COp) (cx : CX) (C : Ctx) : R :=
 CG.rec (motive := fun _ => COp → CX → Ctx → R) (fun c cx C => runOp c cx C) (fun _ _ C => fin C .undef)
  (fun p w c cx C => Ctx.rec (motive := fun _ => Pa → Bool → COp → CX → Ctx → R) (fun _ _ _ _ t _ _ p w c cx C => getP p t (gdV c cx w C)) C p w c cx C) g c cx C
noncomputable def seqF (l : List CP) : SeqT :=
 List.rec (motive := fun _ => SeqT) (fun _ _ n t m K => K ⟨n, t⟩ m)
  (fun p _ ih old cx n t m K => CP.rec (motive := fun _ => SeqT → SeqT) (fun d o c g ih old cx n t m K => runG g c cx ⟨d, o, old, n, t, m, seqK ih old cx K⟩) p ih old cx n t m K) l
theorem runG_eq {P : Program} {T : Tab P} {cx : CX} {C : Ctx} (h : Fits T cx C) (ops : Array Oper) : runG (cgOf ops C.o) (compOp T C.o) cx C = bindR (stepOp T cx ops ⟨C.n, C.t⟩ C.o C.m) C.K := by
 have hu : ∀ m, finM C .undef m = bindR (putX' ⟨C.n, C.t⟩ C.o.dst .undef m) C.K := fun m => by rw [finM_eq C _ m h.d, putX'_eq, bindR_pure]
 have hr : ∀ m, runOp (compOp T C.o) cx (ctxM C m) = bindR (stepBody T cx ⟨C.n, C.t⟩ C.o m) C.K := fun m => by
  have h' : Fits T cx (ctxM C m) := ⟨h.old, h.d⟩
  exact (compOp_ok h').trans h'.fb_eq
 rw [stepOp_body, bindR_bind]
 unfold cgOf wantedX
 cases hg : C.o.guard with
 | none =>
  show runOp (compOp T C.o) cx C = bindR (X.pure true C.m) _
  rw [bindR_pure, if_pos rfl]
  exact hr C.m
 | some g =>
  obtain ⟨j, w⟩ := g
  dsimp only
  cases hj : (ops[j]?).bind (·.dst) with
  | none =>
   show fin C .undef = bindR (X.pure false C.m) _
   rw [bindR_pure, if_neg (by simp)]
   exact hu C.m
  | some d =>
   dsimp only
   rw [nfPa_eq]
   show getP (pa d) C.t (gdV (compOp T C.o) cx w C) = _
   rw [getP_eq, pa_get]
   have e : Fr.get ⟨C.n, C.t⟩ d = C.t.get d := rfl
   rw [e]
   have other : ∀ v : SV, (∀ b, v ≠ .bool b) → gdV (compOp T C.o) cx w C v = bindR ((if v.isV then X.pure false else X.none) C.m) (fun a m => bindR ((if a = true then stepBody T cx ⟨C.n, C.t⟩ C.o else putX' ⟨C.n, C.t⟩ C.o.dst .undef) m) C.K) := fun v hv => by
    have e1 : gdV (compOp T C.o) cx w C v = vOr v (fin C .undef) none := by cases v <;> first | rfl | exact absurd rfl (hv _)
    rw [e1, vOr_eq]
    split
    ·rw [bindR_pure, if_neg (by simp)]
     exact hu C.m
    ·rfl
   cases hv : C.t.get d
   case bool b =>
    show brK b C.m (gd1 (compOp T C.o) cx w C) = bindR (X.bind (branch b) (fun r => X.pure (r == w)) C.m) _
    rw [brK_eq, bindR_bind]
    congr 1
    funext r m
    rw [bindR_pure]
    unfold gd1
    rw [yes_eq, beqB_eq]
    cases (r == w)
    ·rw [if_neg (by simp), if_neg (by simp)]; exact hu m
    ·rw [if_pos rfl, if_pos rfl]; exact hr m
   all_goals exact other _ (fun b hb => by cases hb)
theorem seqF_eq {P : Program} (T : Tab P) (cx : CX) (ops : Array Oper) : ∀ (l : List Oper) (n : Nat) (t : FT) (m : Mem) (K : Fr → Mem → R),
  seqF (compL T ops l) (fun o fr m => stepBody T cx fr o m) cx n t m K = bindR (seqOps T cx ops l ⟨n, t⟩ m) K
 | [], n, t, m, K => rfl
 | o :: l, n, t, m, K => by
  have e0 : ∀ p : CP, seqF (p :: compL T ops l) = fun old cx n t m K => runG p.g p.c cx ⟨p.d, p.o, old, n, t, m, seqK (seqF (compL T ops l)) old cx K⟩ := fun p => by cases p; rfl
  show seqF (compP T ops o :: compL T ops l) _ cx n t m K = _
  rw [e0]
  have e1 : compP T ops o = ⟨cdOf o.dst, o, compOp T o, cgOf ops o⟩ := nfCD_eq _ _
  rw [e1]
  have e2 : seqOps T cx ops (o :: l) ⟨n, t⟩ m = X.bind (stepOp T cx ops ⟨n, t⟩ o) (fun tm' => seqOps T cx ops l tm') m := rfl
  rw [e2, bindR_bind]
  have e3 : (fun (a : Fr) (m : Mem) => bindR (seqOps T cx ops l a m) K) = seqK (seqF (compL T ops l)) (fun o fr m => stepBody T cx fr o m) cx K := by
   funext fr m
   obtain ⟨n', t'⟩ := fr
   exact (seqF_eq T cx ops l n' t' m K).symm
  rw [e3]
  exact runG_eq (T := T) (cx := cx) (C := ⟨cdOf o.dst, o, fun o fr m => stepBody T cx fr o m, n, t, m, _⟩) ⟨rfl, rfl⟩ ops
noncomputable def idF (fr : Fr) (m : Mem) : R := some [((.normal, fr), m)]
noncomputable def stepR (p : CP) (old : OldT) (cx : CX) (fr : Fr) (m : Mem) : R :=
 CP.rec (motive := fun _ => OldT → CX → Fr → Mem → R) (fun d o c g old cx fr m => Fr.rec (motive := fun _ => CD → Oper → COp → CG → OldT → CX → Mem → R) (fun n t d o c g old cx m => runG g c cx ⟨d, o, old, n, t, m, idF⟩) fr d o c g old cx m) p old cx fr m
theorem gather_idF : ∀ l : List (Fr × Mem), gather (β := SX × Fr) idF l = some (l.map fun q => ((.normal, q.1), q.2))
 | [] => rfl
 | p :: l => by rw [gather_cat, gather_idF l]; rfl
theorem stepR_eq {P : Program} (T : Tab P) (cx : CX) (ops : Array Oper) (o : Oper) (fr : Fr) (m : Mem) :
  stepR (compP T ops o) (fun o fr m => stepBody T cx fr o m) cx fr m = match stepOp T cx ops fr o m with | some l => some (l.map fun q => ((.normal, q.1), q.2)) | none => none := by
 have e1 : compP T ops o = ⟨cdOf o.dst, o, compOp T o, cgOf ops o⟩ := nfCD_eq _ _
 rw [e1]
 obtain ⟨n, t⟩ := fr
 show runG (cgOf ops o) (compOp T o) cx ⟨cdOf o.dst, o, fun o fr m => stepBody T cx fr o m, n, t, m, idF⟩ = _
 have := runG_eq (T := T) (cx := cx) (C := ⟨cdOf o.dst, o, fun o fr m => stepBody T cx fr o m, n, t, m, idF⟩) ⟨rfl, rfl⟩ ops
 rw [this]
 show bindR (stepOp T cx ops ⟨n, t⟩ o m) idF = _
 cases stepOp T cx ops ⟨n, t⟩ o m with
 | none => rfl
 | some l => exact gather_idF l
noncomputable def evM (i msk : Nat) (l : List ((SX × Fr) × Mem)) (r : List BS) : Option (List BS) := nfN (msk ||| 2 ^ i) fun k => some (l.map (fun q => (k, q.1.2, q.2)) ++ r)
noncomputable def everyF (cps : List CP) (old : OldT) (cx : CX) (msk : Nat) (tm : Fr) (m : Mem) (rs : List Nat) : Option (List BS) :=
 List.rec (motive := fun _ => Option (List BS)) (some []) (fun i _ ih => match cps[i]? with
  | none => none
  | some p => match stepR p old cx tm m, ih with
   | some l, some r => evM i msk l r
   | _, _ => none) rs
theorem compL_get {P : Program} (T : Tab P) (ops : Array Oper) : ∀ (l : List Oper) (i : Nat), (compL T ops l)[i]? = (l[i]?).map (compP T ops)
 | [], i => by show ([] : List CP)[i]? = _; simp
 | o :: l, i => by
  show (compP T ops o :: compL T ops l)[i]? = _
  cases i with
  | zero => simp
  | succ i => simpa using compL_get T ops l i
theorem everyF_eq {P : Program} (T : Tab P) (cx : CX) (ops : Array Oper) (msk : Nat) (tm : Fr) (m : Mem) : ∀ rs : List Nat, everyF (compL T ops ops.toList) (fun o fr m => stepBody T cx fr o m) cx msk tm m rs = everyNext T cx ops msk tm m rs
 | [] => rfl
 | i :: rs => by
  show (match (compL T ops ops.toList)[i]? with
   | none => none
   | some p => match stepR p (fun o fr m => stepBody T cx fr o m) cx tm m, everyF (compL T ops ops.toList) (fun o fr m => stepBody T cx fr o m) cx msk tm m rs with
    | some l, some r => evM i msk l r
    | _, _ => none) = _
  rw [compL_get, everyF_eq T cx ops msk tm m rs]
  show _ = (match ops[i]? with
   | none => none
   | some o => match stepOp T cx ops tm o m, everyNext T cx ops msk tm m rs with
    | some l, some r => some (l.map (spl fun tm m => (msk ||| 2 ^ i, tm, m)) ++ r)
    | _, _ => none)
  have e : ops.toList[i]? = ops[i]? := by simp
  rw [e]
  cases ops[i]? with
  | none => rfl
  | some o =>
   show (match stepR (compP T ops o) (fun o fr m => stepBody T cx fr o m) cx tm m, everyNext T cx ops msk tm m rs with
    | some l, some r => evM i msk l r
    | _, _ => none) = _
   rw [stepR_eq]
   show _ = (match stepOp T cx ops tm o m, everyNext T cx ops msk tm m rs with
    | some l, some r => some (l.map (spl fun tm m => (msk ||| 2 ^ i, tm, m)) ++ r)
    | _, _ => none)
   cases stepOp T cx ops tm o m with
   | none => rfl
   | some l =>
    cases everyNext T cx ops msk tm m rs with
    | none => rfl
    | some r =>
     show evM i msk _ r = _
     unfold evM
     rw [nfN_eq, List.map_map]
     rfl
noncomputable def nextsG {P : Program} (ev : EvT) (T : Tab P) (ops : Array Oper) (msk : Nat) (tm : Fr) (m : Mem) (rs : List Nat) : Option (List BS) :=
 match takeFirst T m.know ops tm rs with
 | some (i, d, v) => nfN (msk ||| 2 ^ i) fun L => match d with
  | some d => nfS v fun v => tm.setK d v fun tm' => some [(L, tm', m)]
  | none => some [(L, tm, m)]
 | none => ev msk tm m rs
noncomputable def levelG {P : Program} (ev : EvT) (T : Tab P) (ops : Array Oper) : List BS → Option (List (Fr × Mem) × List BS)
 | [] => some ([], [])
 | s :: rest => match levelG ev T ops rest with
  | none => none
  | some (fin, L) => spl (fun msk => spl fun tm m => match readyGo msk ops.toList 0 with
   | [] => some ((tm, m) :: fin, L)
   | i :: rs => match nextsG ev T ops msk tm m (i :: rs) with
    | none => none
    | some N => some (fin, N ++ L)) s
noncomputable def bfsG {P : Program} (ev : EvT) (T : Tab P) (ops : Array Oper) : Nat → List BS → Option (List (Fr × Mem))
 | 0, L => if L.all (fun s => (readyGo s.1 ops.toList 0).isEmpty) then some (L.map fun s => (s.2.1, s.2.2)) else none
 | n + 1, L => match levelG ev T ops L with
  | none => none
  | some (fin, L') => match bfsG ev T ops n (dedup L') with
   | none => none
   | some r => some (fin ++ r)
theorem levelG_eq {P : Program} (T : Tab P) (cx : CX) (ops : Array Oper) : ∀ L : List BS, levelG (everyNext T cx ops) T ops L = level T cx ops L
 | [] => rfl
 | s :: L => by unfold levelG level; rw [levelG_eq T cx ops L]; rfl
theorem bfsG_eq {P : Program} (T : Tab P) (cx : CX) (ops : Array Oper) : ∀ (n : Nat) (L : List BS), bfsG (everyNext T cx ops) T ops n L = bfs T cx ops n L
 | 0, L => rfl
 | n + 1, L => by
  unfold bfsG bfs
  rw [levelG_eq]
  cases level T cx ops L with
  | none => rfl
  | some x => dsimp only; rw [bfsG_eq T cx ops n]; rfl
noncomputable def regF {P : Program} (T : Tab P) (cx : CX) (ops : Array Oper) (tm : Fr) (m : Mem) : R :=
 if okS ops then match regE (everyF (compL T ops ops.toList) (fun o fr m => stepBody T cx fr o m) cx) T ops tm m with
  | some l => some ((canonF m l).map (spl fun tm m => ((.normal, tm), m)))
  | none => none
 else if Region.noSelect ops then match bfsG (everyF (compL T ops ops.toList) (fun o fr m => stepBody T cx fr o m) cx) T ops ops.size [(0, tm, m)] with
  | some l => some ((canonF m l).map (spl fun tm m => ((.normal, tm), m)))
  | none => none
 else none
theorem regF_eq {P : Program} (T : Tab P) (cx : CX) (ops : Array Oper) (tm : Fr) (m : Mem) : regF T cx ops tm m = region T cx ops true tm m := by
 have e : everyF (compL T ops ops.toList) (fun o fr m => stepBody T cx fr o m) cx = everyNext T cx ops := by
  funext msk tm m rs
  exact everyF_eq T cx ops msk tm m rs
 unfold regF region
 rw [e, bfsG_eq, if_pos rfl]
 split
 ·rfl
 ·split <;> rfl
abbrev KT := SX → Fr → Mem → R
structure Eng where
 cx : CX
 comp : Array Oper → List CP
 old : Array Oper → OldT
 reg : Array Oper → Fr → Mem → R
 bx : BX
 jm : Option Nat
abbrev RunT := Eng → Code → Fr → Mem → KT → R
noncomputable def outK (K : KT) (p : SX × Fr) (m : Mem) : R := Prod.rec (motive := fun _ => KT → Mem → R) (fun e fr K m => K e fr m) p K m
noncomputable def idK (e : SX) (fr : Fr) (m : Mem) : R := some [((e, fr), m)]
noncomputable def regS (ops : Array Oper) (E : Eng) (fr : Fr) (m : Mem) (K : KT) : R :=
 Eng.rec (motive := fun _ => Array Oper → Fr → Mem → KT → R) (fun cx comp old _ _ _ ops fr m K => Fr.rec (motive := fun _ => List CP → OldT → CX → Mem → (Fr → Mem → R) → R) (fun n t l old cx m K => seqF l old cx n t m K) fr (comp ops) (old ops) cx m (K .normal)) E ops fr m K
noncomputable def regD (ops : Array Oper) (E : Eng) (fr : Fr) (m : Mem) (K : KT) : R := bindR (Eng.reg E ops fr m) (outK K)
noncomputable def seqC (b : Code) (ih : RunT) (E : Eng) (K : KT) (e : SX) (fr : Fr) (m : Mem) : R :=
 SX.rec (motive := fun _ => Code → RunT → Eng → KT → Fr → Mem → R) (fun b ih E K fr m => ih E b fr m K) (fun n _ _ _ K fr m => K (.exit n) fr m) (fun _ _ _ K fr m => K .ret fr m) e b ih E K fr m
noncomputable def cnd3 (x y : Code) (ih : RunT) (E : Eng) (fr : Fr) (K : KT) (r : Bool) (m : Mem) : R :=
 Bool.rec (motive := fun _ => Code → Code → RunT → Eng → Fr → Mem → KT → R) (fun _ y ih E fr m K => ih E y fr m K) (fun x _ ih E fr m K => ih E x fr m K) r x y ih E fr m K
noncomputable def cnd2 (x y : Code) (ih : RunT) (E : Eng) (fr : Fr) (m : Mem) (K : KT) (b : BE) : R := brK b m (cnd3 x y ih E fr K)
noncomputable def cnd1 (x y : Code) (ih : RunT) (E : Eng) (fr : Fr) (m : Mem) (K : KT) (v : SV) : R := onBool v (cnd2 x y ih E fr m K) none
noncomputable def condD (c : Operand) (x y : Code) (ih : RunT) (E : Eng) (fr : Fr) (m : Mem) (K : KT) : R := opdK (coOf c) (Fr.t fr) (cnd1 x y ih E fr m K)
noncomputable def joinF (dead : Nat) (m : Mem) (r : R) : R := Option.rec (motive := fun _ => Nat → Mem → R) (fun _ _ => none) (fun l dead m => some (joinL dead m l)) r dead m
noncomputable def condJ (c : Operand) (x y : Code) (ih : RunT) (E : Eng) (fr : Fr) (m : Mem) (K : KT) : R :=
 Option.rec (motive := fun _ => Operand → Code → Code → RunT → Eng → Fr → Mem → KT → R) (fun c x y ih E fr m K => condD c x y ih E fr m K)
  (fun dead c x y ih E fr m K => bindR (joinF dead m (condD c x y ih E fr m idK)) (outK K)) (Eng.jm E) c x y ih E fr m K
noncomputable def blkC (id : Nat) (K : KT) (e : SX) (fr : Fr) (m : Mem) : R :=
 SX.rec (motive := fun _ => Nat → KT → Fr → Mem → R) (fun _ K fr m => K .normal fr m) (fun i id K fr m => yes (Nat.beq i id) (K .normal fr m) (K (.exit i) fr m)) (fun _ K fr m => K .ret fr m) e id K fr m
noncomputable def blkJ (id : Nat) (body : Code) (ih : RunT) (E : Eng) (fr : Fr) (m : Mem) (K : KT) : R :=
 Option.rec (motive := fun _ => Nat → Code → RunT → Eng → Fr → Mem → KT → R) (fun id body ih E fr m K => ih E body fr m (blkC id K))
  (fun dead id body ih E fr m K => bindR (joinF dead m (ih E body fr m (blkC id idK))) (outK K)) (Eng.jm E) id body ih E fr m K
noncomputable def blkB (id : Nat) (body : Code) (ih : RunT) (E : Eng) (fr : Fr) (m : Mem) (K : KT) : R :=
 Option.rec (motive := fun _ => Nat → Code → RunT → Eng → Fr → Mem → KT → R) (fun id body ih E fr m K => blkJ id body ih E fr m K)
  (fun sp _ _ _ _ fr m K => bindR (sp fr m) (outK K)) (Eng.bx E id) id body ih E fr m K
noncomputable def loopC (body : Code) (ih : RunT) (E : Eng) (K : KT) (e : SX) (fr : Fr) (m : Mem) : R :=
 SX.rec (motive := fun _ => Code → RunT → Eng → KT → Fr → Mem → R) (fun b ih E K fr m => ih E (.loop b) fr m K) (fun n _ _ _ K fr m => K (.exit n) fr m) (fun _ _ _ K fr m => K .ret fr m) e body ih E K fr m
noncomputable def runF (n : Nat) : RunT :=
 Nat.rec (motive := fun _ => RunT) (fun _ _ _ _ _ => none)
  (fun _ ih E c fr m K => Code.rec (motive := fun _ => RunT → Eng → Fr → Mem → KT → R)
   (fun _ _ fr m K => K .normal fr m)
   (fun _ ops draw _ E fr m K => Bool.rec (motive := fun _ => Array Oper → Eng → Fr → Mem → KT → R) (fun ops E fr m K => regS ops E fr m K) (fun ops E fr m K => regD ops E fr m K) draw ops E fr m K)
   (fun a b _ _ ih E fr m K => ih E a fr m (seqC b ih E K))
   (fun c x y _ _ ih E fr m K => condJ c x y ih E fr m K)
   (fun id body _ ih E fr m K => blkB id body ih E fr m K)
   (fun body _ ih E fr m K => ih E body fr m (loopC body ih E K))
   (fun _ _ _ _ _ _ _ _ _ _ _ => none)
   (fun i _ _ fr m K => K (.exit i) fr m)
   (fun body _ ih E fr m K => ih E body fr m K)
   (fun _ _ _ fr m K => K .normal fr m)
   (fun _ _ _ _ _ _ => none)
   (fun _ _ fr m K => K .ret fr m)
   (fun _ _ _ _ _ _ => none) c ih E fr m K) n
noncomputable def engOf {P : Program} (T : Tab P) (cx : CX) (bx : BX) (jm : Option Nat) : Eng where
 cx := cx
 comp ops := compL T ops ops.toList
 old _ o fr m := stepBody T cx fr o m
 reg ops fr m := regF T cx ops fr m
 bx := bx
 jm := jm
theorem outK_id : ∀ l : List ((SX × Fr) × Mem), gather (β := SX × Fr) (outK idK) l = some l
 | [] => rfl
 | p :: l => by
  rw [gather_cat, outK_id l]
  obtain ⟨⟨e, fr⟩, m⟩ := p
  rfl
theorem bindR_id (r : R) : bindR r (outK idK) = r := by
 cases r with
 | none => rfl
 | some l => exact outK_id l
theorem joinF_eq (dead : Nat) (m : Mem) (r : R) : joinF dead m r = match r with | some l => some (joinL dead m l) | none => none := by cases r <;> rfl
theorem joinX_some (dead : Nat) (x : X (SX × Fr)) (m : Mem) : joinX (some dead) x m = joinF dead m (x m) := by
 unfold joinX
 rw [joinF_eq]
 rfl
section
variable {P : Program} (T : Tab P) (cx : CX) (bx : BX) (jm : Option Nat)
theorem cond_eq (n : Nat) (ih : ∀ (c : Code) (fr : Fr) (m : Mem) (K : KT), runF n (engOf T cx bx jm) c fr m K = bindR (runC T cx bx jm n c fr m) (outK K)) (c : Operand) (x y : Code) (fr : Fr) (m : Mem) (K : KT) :
  condD c x y (runF n) (engOf T cx bx jm) fr m K = bindR ((match opd fr c with
   | some (.bool b) => X.bind (branch b) fun r => if r then runC T cx bx jm n x fr else runC T cx bx jm n y fr
   | _ => X.none) m) (outK K) := by
 obtain ⟨k, t⟩ := fr
 unfold condD
 rw [opdK_eq]
 show cnd1 x y (runF n) (engOf T cx bx jm) ⟨k, t⟩ m K ((coOf c).of t) = _
 have key : ∀ b, (coOf c).of t = .bool b → opd ⟨k, t⟩ c = some (.bool b) := fun b hb => by rw [coOf_ok (by rw [hb]; intro hh; cases hh), hb]
 unfold cnd1
 by_cases hB : ∃ b, (coOf c).of t = .bool b
 ·obtain ⟨b, hb⟩ := hB
  rw [key b hb, hb]
  dsimp only
  show cnd2 x y (runF n) (engOf T cx bx jm) ⟨k, t⟩ m K b = _
  unfold cnd2
  rw [brK_eq, bindR_bind]
  congr 1
  funext r m'
  cases r
  ·exact ih y ⟨k, t⟩ m' K
  ·exact ih x ⟨k, t⟩ m' K
 ·have e1 : onBool ((coOf c).of t) (cnd2 x y (runF n) (engOf T cx bx jm) ⟨k, t⟩ m K) none = none := by
   rw [onBool_eq]
   split
   ·rename_i b hb; exact absurd ⟨b, hb⟩ hB
   ·rfl
  rw [e1]
  have e2 : ∀ b, opd ⟨k, t⟩ c ≠ some (.bool b) := fun b hb => by
   apply hB
   by_cases hn : (coOf c).of t = .nil
   ·exfalso
    cases c with
    | tmp i =>
     have e : (coOf (.tmp i)).of t = t.get i := pa_get i t
     rw [e] at hn
     have : opd ⟨k, t⟩ (.tmp i) = match Fr.get ⟨k, t⟩ i with | .nil => none | v => some v := rfl
     rw [this] at hb
     unfold Fr.get at hb
     rw [hn] at hb
     cases hb
    | const v =>
     have : opd ⟨k, t⟩ (.const v) = ofV v := rfl
     rw [this] at hb
     unfold coOf at hn
     dsimp only at hn
     rw [hb] at hn
     dsimp only at hn
     rw [nfS_eq] at hn
     cases hn
    | func f => cases hn
    | global g => cases hb
   ·rw [coOf_ok hn] at hb
    injection hb with hb
    exact ⟨b, hb⟩
  cases ho : opd ⟨k, t⟩ c with
  | none => rfl
  | some v => cases v <;> first | rfl | exact absurd ho (e2 _)
theorem runF_eq : ∀ (n : Nat) (c : Code) (fr : Fr) (m : Mem) (K : KT), runF n (engOf T cx bx jm) c fr m K = bindR (runC T cx bx jm n c fr m) (outK K) := by
 intro n
 induction n with
 | zero => intro c fr m K; rfl
 | succ n ih =>
  intro c fr m K
  cases c with
  | skip => rfl
  | label l => rfl
  | exit i => rfl
  | ret => rfl
  | goto l => rfl
  | refuse w => rfl
  | rangeFunc f ps as body => rfl
  | scope body => exact ih body fr m K
  | region id ops draw =>
   show Bool.rec (motive := fun _ => Array Oper → Eng → Fr → Mem → KT → R) _ _ draw ops (engOf T cx bx jm) fr m K = bindR (region T cx ops draw fr m) (outK K)
   cases draw
   ·obtain ⟨k, t⟩ := fr
    show seqF (compL T ops ops.toList) (fun o fr m => stepBody T cx fr o m) cx k t m (K .normal) = _
    rw [seqF_eq]
    show _ = bindR (X.bind (seqOps T cx ops ops.toList ⟨k, t⟩) (fun tm' => X.pure (.normal, tm')) m) (outK K)
    rw [bindR_bind]
    rfl
   ·show bindR (regF T cx ops fr m) (outK K) = _
    rw [regF_eq]
  | seq a b =>
   show runF n (engOf T cx bx jm) a fr m (seqC b (runF n) (engOf T cx bx jm) K) = bindR (X.bind (runC T cx bx jm n a fr) (spl fun e tm => match e with
    | .normal => runC T cx bx jm n b tm
    | e => X.pure (e, tm)) m) (outK K)
   rw [ih, bindR_bind]
   congr 1
   funext p m'
   obtain ⟨e, fr'⟩ := p
   cases e with
   | normal => exact ih b fr' m' K
   | exit i => rfl
   | ret => rfl
  | loop body =>
   show runF n (engOf T cx bx jm) body fr m (loopC body (runF n) (engOf T cx bx jm) K) = bindR (X.bind (runC T cx bx jm n body fr) (spl fun e tm => match e with
    | .normal => runC T cx bx jm n (.loop body) tm
    | e => X.pure (e, tm)) m) (outK K)
   rw [ih, bindR_bind]
   congr 1
   funext p m'
   obtain ⟨e, fr'⟩ := p
   cases e with
   | normal => exact ih (.loop body) fr' m' K
   | exit i => rfl
   | ret => rfl
  | cond c x y =>
   show condJ c x y (runF n) (engOf T cx bx jm) fr m K = bindR ((match opd fr c with
    | some (.bool b) => joinX jm (X.bind (branch b) fun r => if r then runC T cx bx jm n x fr else runC T cx bx jm n y fr)
    | _ => X.none) m) (outK K)
   cases jm with
   | none =>
    show condD c x y (runF n) (engOf T cx bx none) fr m K = _
    rw [cond_eq T cx bx none n ih]
    rfl
   | some dead =>
    show bindR (joinF dead m (condD c x y (runF n) (engOf T cx bx (some dead)) fr m idK)) (outK K) = _
    rw [cond_eq T cx bx (some dead) n ih, bindR_id]
    congr 1
    cases opd fr c with
    | none => rfl
    | some v => cases v <;> first | rfl | exact (joinX_some _ _ _).symm
  | block id body =>
   show blkB id body (runF n) (engOf T cx bx jm) fr m K = bindR ((match bx id with
    | some sp => sp fr
    | none => joinX jm (X.bind (runC T cx bx jm n body fr) (spl fun e tm => match e with
     | .exit i => if i = id then X.pure (.normal, tm) else X.pure (.exit i, tm)
     | e => X.pure (e, tm)))) m) (outK K)
   unfold blkB
   show Option.rec (motive := fun _ => Nat → Code → RunT → Eng → Fr → Mem → KT → R) _ _ (bx id) id body (runF n) (engOf T cx bx jm) fr m K = _
   cases bx id with
   | some sp => rfl
   | none =>
    dsimp only
    have key : ∀ K', runF n (engOf T cx bx jm) body fr m (blkC id K') = bindR (X.bind (runC T cx bx jm n body fr) (spl fun e tm => match e with
     | .exit i => if i = id then X.pure (.normal, tm) else X.pure (.exit i, tm)
     | e => X.pure (e, tm)) m) (outK K') := fun K' => by
     rw [ih, bindR_bind]
     congr 1
     funext p m'
     obtain ⟨e, fr'⟩ := p
     cases e with
     | normal => rfl
     | ret => rfl
     | exit i =>
      show yes (Nat.beq i id) (K' .normal fr' m') (K' (.exit i) fr' m') = bindR ((if i = id then X.pure (SX.normal, fr') else X.pure (.exit i, fr')) m') (outK K')
      rw [yes_beq]
      by_cases hi : i = id
      ·rw [if_pos hi, if_pos hi]; rfl
      ·rw [if_neg hi, if_neg hi]; rfl
    cases jm with
    | none => exact key K
    | some dead =>
     show bindR (joinF dead m (runF n (engOf T cx bx (some dead)) body fr m (blkC id idK))) (outK K) = _
     rw [key idK, bindR_id, joinX_some]
end
theorem runF_run {P : Program} (T : Tab P) (cx : CX) (bx : BX) (jm : Option Nat) (n : Nat) (c : Code) (fr : Fr) (m : Mem) : runF n (engOf T cx bx jm) c fr m idK = runC T cx bx jm n c fr m := by
 rw [runF_eq, bindR_id]
noncomputable def inlineF {P : Program} (T : Tab P) (cx : CX) (bx : Nat → BX) (fuel : Nat) (f : Nat) (args : List SV) : X SV :=
 match T.func f with
 | some fn => match fn.body with
  | some c => fun m => X.bind (if Nat.blt fn.ntmps (2 ^ 20) && Nat.ble args.length fn.ntmps then fun m => Fr.start args fn.ntmps fun tm => runF fuel (engOf T cx (bx f) (T.dead f)) c tm m idK else X.none) (spl fun e tm => match e with
   | .exit _ => X.none
   | _ => X.bind (resS T fn tm) fun v => gcX m.seg m.next v) m
  | none => X.none
 | none => X.none
noncomputable def callF {P : Program} (T : Tab P) (sp : Specs) (bx : Nat → BX) (fuel : Nat) (d : Nat) : CX :=
 Nat.rec (motive := fun _ => CX) (fun _ _ => X.none) (fun _ ih f args => Option.rec (motive := fun _ => CX → Nat → List SV → X SV) (fun cx f args => canonX (inlineF T cx bx fuel f) args) (fun s _ _ args => s args) (sp f) ih f args) d
theorem start_run {β : Type} (args : List SV) (n : Nat) (k : Fr → X β) (m : Mem) : (Fr.start args n fun tm => k tm) m = Fr.start args n fun tm => k tm m := by
 unfold Fr.start
 have : ∀ (l : List SV) (i : Nat) (t : FT) (k : FT → X β), FT.putAll l i t k m = FT.putAll l i t fun t => k t m := by
  intro l
  induction l with
  | nil => intro i t k; rfl
  | cons x l ih =>
   intro i t k
   show (t.setK i x fun t => FT.putAll l (Nat.succ i) t k) m = t.setK i x fun t => FT.putAll l (Nat.succ i) t fun t => k t m
   rw [FT.setK_eq, FT.setK_eq, ih]
 exact this _ _ _ _
theorem inlineF_eq {P : Program} (T : Tab P) (cx : CX) (bx : Nat → BX) (fuel f : Nat) (args : List SV) : inlineF T cx bx fuel f args = inlineS T cx bx fuel f args := by
 unfold inlineF inlineS
 cases T.func f with
 | none => rfl
 | some fn =>
  dsimp only
  cases fn.body with
  | none => rfl
  | some c =>
   dsimp only
   funext m
   have : (if (Nat.blt fn.ntmps (2 ^ 20) && Nat.ble args.length fn.ntmps) = true then fun m => Fr.start args fn.ntmps fun tm => runF fuel (engOf T cx (bx f) (T.dead f)) c tm m idK else X.none) = (if (Nat.blt fn.ntmps (2 ^ 20) && Nat.ble args.length fn.ntmps) = true then Fr.start args fn.ntmps fun tm => runC T cx (bx f) (T.dead f) fuel c tm else X.none) := by
    split
    ·funext m
     rw [start_run]
     congr 1
     funext tm
     exact runF_run T cx (bx f) (T.dead f) fuel c tm m
    ·rfl
   rw [this]
   rfl
theorem callF_eq {P : Program} (T : Tab P) (sp : Specs) (bx : Nat → BX) (fuel : Nat) : ∀ d, callF T sp bx fuel d = callD T sp bx fuel d
 | 0 => rfl
 | d + 1 => by
  funext f args
  show Option.rec (motive := fun _ => CX → Nat → List SV → X SV) _ _ (sp f) (callF T sp bx fuel d) f args = match sp f with | some s => s args | none => canonX (inlineS T (callD T sp bx fuel d) bx fuel f) args
  cases sp f with
  | none =>
   dsimp only
   have : inlineF T (callF T sp bx fuel d) bx fuel f = inlineS T (callD T sp bx fuel d) bx fuel f := by
    funext args
    rw [inlineF_eq, callF_eq T sp bx fuel d]
   rw [this]
  | some s => rfl
theorem callF_ok {G : Gf} {P : Program} {T : Tab P} {sp : Specs} (hsp : SpecsOk G P sp) {bx : Nat → BX} (hbx : BxOk G P bx) (fuel d f : Nat) : SpecOk G P f (fun args => callF T sp bx fuel d f args) := by
 rw [callF_eq]
 exact call_ok hsp hbx fuel d f
end Go.Sx
