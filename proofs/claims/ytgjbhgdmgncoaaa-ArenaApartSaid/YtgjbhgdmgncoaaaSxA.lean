/- A symbolic executor over the model, its numbers: expressions, their ranges, their tests. -/
import GoSem.Step
namespace Go.Sx
open Go

/-- integer expressions over an environment -/
inductive IE where
  | lit (z : Int)
  | var (i : Nat)
  | sel (r : Nat) (i : IE)
  | add (a b : IE)
  | sub (a b : IE)
  | mul (a b : IE)
  | quo (a b : IE)
  | rem (a b : IE)
  | wrap (k : IntKind) (a : IE)
  | bit (op : BinOp) (k : IntKind) (a b : IE)
  | shr (a : IE) (n : Nat)
  | app (f : Nat) (args : IE)
  | arg (a rest : IE)
  | noarg
  deriving DecidableEq, Repr, Inhabited

/-- tests -/
inductive BE where
  | lit (b : Bool)
  | var (i : Nat)
  | lt (a b : IE)
  | eq (a b : IE)
  | not (a : BE)
  deriving DecidableEq, Repr, Inhabited

structure Env where
  i : Nat → Int
  b : Nat → Bool
  l : Nat → List Int
  base : Nat → Nat
  o : Nat → Nat
  v : Nat → Value
  f : Nat → List Int → Int

def lo64 : Int := -9223372036854775808
def hi64 : Int := 9223372036854775807
def in64 (x : Int) : Prop := lo64 ≤ x ∧ x ≤ hi64

structure Env.Ok (E : Env) : Prop where
  i : ∀ n, in64 (E.i n)
  l : ∀ n x, x ∈ E.l n → in64 x
  f : ∀ n xs, in64 (E.f n xs)

def bitI (op : BinOp) (k : IntKind) (x y : Int) : Int :=
  let a := BitVec.ofInt k.bits x
  let b := BitVec.ofInt k.bits y
  match op with
  | .and => k.wrap (a &&& b).toNat
  | .or => k.wrap (a ||| b).toNat
  | .xor => k.wrap (a ^^^ b).toNat
  | .andNot => k.wrap (a &&& ~~~b).toNat
  | _ => 0

/-- the list that an array is read from: number 0 is empty, so that all its numbers are 0 -/
def Env.row (E : Env) (r : Nat) : List Int := if r = 0 then [] else E.l r

def evp (E : Env) : IE → Int × List Int
  | .lit z => (z, [])
  | .var i => (E.i i, [])
  | .sel r i => ((E.row r).getD (evp E i).1.toNat 0, [])
  | .add a b => ((evp E a).1 + (evp E b).1, [])
  | .sub a b => ((evp E a).1 - (evp E b).1, [])
  | .mul a b => ((evp E a).1 * (evp E b).1, [])
  | .quo a b => ((evp E a).1.tdiv (evp E b).1, [])
  | .rem a b => ((evp E a).1.tmod (evp E b).1, [])
  | .wrap k a => (k.wrap (evp E a).1, [])
  | .bit op k a b => (bitI op k (evp E a).1 (evp E b).1, [])
  | .shr a n => ((evp E a).1.fdiv (2 ^ n), [])
  | .app f x => (E.f f (evp E x).2, [])
  | .arg a r => (0, (evp E a).1 :: (evp E r).2)
  | .noarg => (0, [])
def ev (E : Env) (e : IE) : Int := (evp E e).1
def evA (E : Env) (e : IE) : List Int := (evp E e).2
section
variable (E : Env)
theorem ev_lit (z : Int) : ev E (.lit z) = z := rfl
theorem ev_var (i : Nat) : ev E (.var i) = E.i i := rfl
theorem ev_sel (r : Nat) (i : IE) : ev E (.sel r i) = (E.row r).getD (ev E i).toNat 0 := rfl
theorem ev_add (a b : IE) : ev E (.add a b) = ev E a + ev E b := rfl
theorem ev_sub (a b : IE) : ev E (.sub a b) = ev E a - ev E b := rfl
theorem ev_mul (a b : IE) : ev E (.mul a b) = ev E a * ev E b := rfl
theorem ev_quo (a b : IE) : ev E (.quo a b) = (ev E a).tdiv (ev E b) := rfl
theorem ev_rem (a b : IE) : ev E (.rem a b) = (ev E a).tmod (ev E b) := rfl
theorem ev_wrap (k : IntKind) (a : IE) : ev E (.wrap k a) = k.wrap (ev E a) := rfl
theorem ev_bit (op : BinOp) (k : IntKind) (a b : IE) : ev E (.bit op k a b) = bitI op k (ev E a) (ev E b) := rfl
theorem ev_shr (a : IE) (n : Nat) : ev E (.shr a n) = (ev E a).fdiv (2 ^ n) := rfl
theorem ev_app (f : Nat) (a : IE) : ev E (.app f a) = E.f f (evA E a) := rfl
theorem evA_arg (a r : IE) : evA E (.arg a r) = ev E a :: evA E r := rfl
theorem evA_no : evA E .noarg = [] := rfl
end

def evB (E : Env) : BE → Bool
  | .lit b => b
  | .var i => E.b i
  | .lt a b => decide (ev E a < ev E b)
  | .eq a b => decide (ev E a = ev E b)
  | .not a => !evB E a

/-- facts: an expression, and its bounds -/
abbrev Fact := IE × Int × Int
def FactOk (E : Env) (f : Fact) : Prop := f.2.1 ≤ ev E f.1 ∧ ev E f.1 ≤ f.2.2

abbrev Rng := Int × Int
def meet (a b : Rng) : Rng := (if a.1 ≤ b.1 then b.1 else a.1, if a.2 ≤ b.2 then a.2 else b.2)
theorem meet_ok {a b : Rng} {x : Int} (h1 : a.1 ≤ x ∧ x ≤ a.2) (h2 : b.1 ≤ x ∧ x ≤ b.2) : (meet a b).1 ≤ x ∧ x ≤ (meet a b).2 := by
  unfold meet; dsimp only; constructor <;> split <;> omega

def looks (fs : List Fact) (e : IE) (r : Rng) : Rng :=
  match fs with
  | [] => r
  | f :: fs => looks fs e (if f.1 = e then meet r f.2 else r)
theorem looks_ok {E : Env} {fs : List Fact} (h : ∀ f ∈ fs, FactOk E f) {e : IE} : ∀ {r : Rng}, (r.1 ≤ ev E e ∧ ev E e ≤ r.2) → (looks fs e r).1 ≤ ev E e ∧ ev E e ≤ (looks fs e r).2 := by
  induction fs with
  | nil => intro r hr; exact hr
  | cons f fs ih =>
    intro r hr
    refine ih (fun g hg => h g (List.mem_cons_of_mem _ hg)) ?_
    split
    · rename_i he
      exact meet_ok hr (by have := h f List.mem_cons_self; unfold FactOk at this; rw [he] at this; exact this)
    · exact hr

def min4 (a b c d : Int) : Int := min (min a b) (min c d)
def max4 (a b c d : Int) : Int := max (max a b) (max c d)
def mulR (a b : Rng) : Rng := (min4 (a.1 * b.1) (a.1 * b.2) (a.2 * b.1) (a.2 * b.2), max4 (a.1 * b.1) (a.1 * b.2) (a.2 * b.1) (a.2 * b.2))
theorem mulR_ok {a b : Rng} {x y : Int} (h1 : a.1 ≤ x ∧ x ≤ a.2) (h2 : b.1 ≤ y ∧ y ≤ b.2) : (mulR a b).1 ≤ x * y ∧ x * y ≤ (mulR a b).2 := by
  obtain ⟨a1, a2⟩ := a; obtain ⟨b1, b2⟩ := b
  simp only [mulR, min4, max4] at *
  -- for a fixed y the product lies between the ends' products
  have key : ∀ (l u v z : Int), l ≤ v → v ≤ u → min (l * z) (u * z) ≤ v * z ∧ v * z ≤ max (l * z) (u * z) := by
    intro l u v z hl hu
    rcases Int.le_total 0 z with hz | hz
    · have p := Int.mul_le_mul_of_nonneg_right hl hz
      have q := Int.mul_le_mul_of_nonneg_right hu hz
      constructor <;> omega
    · have p := Int.mul_le_mul_of_nonpos_right hl hz
      have q := Int.mul_le_mul_of_nonpos_right hu hz
      constructor <;> omega
  have k1 := key a1 a2 x y h1.1 h1.2
  have k2 := key b1 b2 y a1 h2.1 h2.2
  have k3 := key b1 b2 y a2 h2.1 h2.2
  rw [Int.mul_comm b1 a1, Int.mul_comm b2 a1, Int.mul_comm y a1] at k2
  rw [Int.mul_comm b1 a2, Int.mul_comm b2 a2, Int.mul_comm y a2] at k3
  constructor <;> omega

def remR (a : Rng) (n : Int) : Rng := if 0 ≤ a.1 then (0, if a.2 ≤ n - 1 then a.2 else n - 1) else (-(n - 1), n - 1)
theorem remR_ok {a : Rng} {n x : Int} (hn : 0 < n) (h : a.1 ≤ x ∧ x ≤ a.2) : (remR a n).1 ≤ x.tmod n ∧ x.tmod n ≤ (remR a n).2 := by
  unfold remR
  by_cases h0 : 0 ≤ a.1
  · have hx : 0 ≤ x := by omega
    rw [if_pos h0, Int.tmod_eq_emod_of_nonneg hx]
    have p := Int.emod_nonneg x (show n ≠ 0 by omega)
    have q := Int.emod_lt_of_pos x hn
    have r : x % n ≤ x := by
      have := Int.mul_ediv_add_emod x n
      have hd : 0 ≤ x / n := Int.ediv_nonneg hx (by omega)
      have := Int.mul_nonneg (show 0 ≤ n by omega) hd
      omega
    dsimp only
    constructor
    · exact p
    · split <;> omega
  · rw [if_neg h0]
    dsimp only
    have p := Int.lt_tmod_of_pos x hn
    have q := Int.tmod_lt_of_pos x hn
    constructor <;> omega

def quoR (a : Rng) (n : Int) : Rng := (a.1.tdiv n, a.2.tdiv n)
theorem quoR_ok {a : Rng} {n x : Int} (hn : 0 < n) (h : a.1 ≤ x ∧ x ≤ a.2) : (quoR a n).1 ≤ x.tdiv n ∧ x.tdiv n ≤ (quoR a n).2 := by
  have mono : ∀ p q : Int, p ≤ q → p.tdiv n ≤ q.tdiv n := by
    intro p q hpq
    have hp1 := Int.mul_tdiv_add_tmod p n
    have hq1 := Int.mul_tdiv_add_tmod q n
    have bp := Int.lt_tmod_of_pos p hn
    have bp2 := Int.tmod_lt_of_pos p hn
    have bq := Int.lt_tmod_of_pos q hn
    have bq2 := Int.tmod_lt_of_pos q hn
    refine Decidable.by_contra fun hc => ?_
    have h1 : q.tdiv n + 1 ≤ p.tdiv n := by omega
    have h2 := Int.mul_le_mul_of_nonneg_left h1 (show 0 ≤ n by omega)
    rw [Int.mul_add] at h2
    rcases Int.le_total 0 p with p0 | p0
    · have : 0 ≤ p.tmod n := Int.tmod_nonneg _ p0
      have q0 : 0 ≤ q := by omega
      have : 0 ≤ q.tmod n := Int.tmod_nonneg _ q0
      omega
    · rcases Int.le_total 0 q with q0 | q0
      · have e1 : 0 ≤ q.tdiv n := Int.tdiv_nonneg q0 (by omega)
        have e2 : p.tdiv n ≤ 0 := by
          have := Int.tdiv_nonneg (a := -p) (b := n) (by omega) (by omega)
          rw [Int.neg_tdiv] at this; omega
        omega
      · have e1 : q.tmod n ≤ 0 := by
          have := Int.tmod_nonneg (a := -q) n (by omega)
          rw [Int.neg_tmod] at this; omega
        have e2 : p.tmod n ≤ 0 := by
          have := Int.tmod_nonneg (a := -p) n (by omega)
          rw [Int.neg_tmod] at this; omega
        omega
  exact ⟨mono _ _ h.1, mono _ _ h.2⟩

theorem wrap_id {k : IntKind} {x : Int} (h1 : k.min ≤ x) (h2 : x ≤ k.max) : k.wrap x = x := by
  unfold IntKind.wrap IntKind.min IntKind.max at *
  cases k <;> simp [IntKind.signed, IntKind.bits] at * <;> omega
theorem wrap_in (k : IntKind) (x : Int) : k.min ≤ k.wrap x ∧ k.wrap x ≤ k.max := by
  unfold IntKind.wrap IntKind.min IntKind.max
  cases k <;> simp [IntKind.signed, IntKind.bits] <;> omega
def wrapR (k : IntKind) (a : Rng) : Rng := if k.min ≤ a.1 ∧ a.2 ≤ k.max then a else (k.min, k.max)
theorem wrapR_ok {k : IntKind} {a : Rng} {x : Int} (h : a.1 ≤ x ∧ x ≤ a.2) : (wrapR k a).1 ≤ k.wrap x ∧ k.wrap x ≤ (wrapR k a).2 := by
  unfold wrapR
  split
  · rename_i hh; rw [wrap_id (by omega) (by omega)]; exact h
  · exact wrap_in k x
theorem bitI_in (op : BinOp) (k : IntKind) (x y : Int) : k.min ≤ bitI op k x y ∧ bitI op k x y ≤ k.max := by
  have z : k.min ≤ 0 ∧ 0 ≤ k.max := by cases k <;> decide
  cases op <;> simp only [bitI] <;> first | exact wrap_in _ _ | exact z
theorem and_in (k : IntKind) (x m : Int) (h0 : 0 ≤ m) (h1 : m ≤ k.max) : 0 ≤ bitI .and k x m ∧ bitI .and k x m ≤ m := by
  have e : (BitVec.ofInt k.bits m).toNat = m.toNat := by
    rw [BitVec.toNat_ofInt]
    have : m < (2 : Int) ^ k.bits := by
      revert h1
      cases k <;> simp [IntKind.max, IntKind.signed, IntKind.bits] <;> omega
    rw [Int.emod_eq_of_lt h0 (by exact_mod_cast this)]
  have h2 : (BitVec.ofInt k.bits x &&& BitVec.ofInt k.bits m).toNat ≤ m.toNat := by
    rw [BitVec.toNat_and, ← e]; exact Nat.and_le_right
  simp only [bitI]
  rw [wrap_id]
  · omega
  · have : k.min ≤ 0 := by cases k <;> decide
    omega
  · omega
def bitR (op : BinOp) (k : IntKind) (b : IE) : Rng :=
  match op, b with
  | .and, .lit m => if 0 ≤ m ∧ m ≤ k.max then (0, m) else (k.min, k.max)
  | _, _ => (k.min, k.max)
theorem bitR_ok {E : Env} (op : BinOp) (k : IntKind) (a b : IE) : (bitR op k b).1 ≤ ev E (.bit op k a b) ∧ ev E (.bit op k a b) ≤ (bitR op k b).2 := by
  unfold bitR
  rw [ev_bit]
  split
  · split
    · rename_i h; exact and_in _ _ _ h.1 h.2
    · exact bitI_in _ _ _ _
  · exact bitI_in _ _ _ _

def shrR (a : Rng) (n : Nat) : Rng := (a.1.fdiv (2 ^ n), a.2.fdiv (2 ^ n))
theorem shrR_ok {a : Rng} {n : Nat} {x : Int} (h : a.1 ≤ x ∧ x ≤ a.2) : (shrR a n).1 ≤ x.fdiv (2 ^ n) ∧ x.fdiv (2 ^ n) ≤ (shrR a n).2 := by
  have hp : (0 : Int) < 2 ^ n := Int.pow_pos (by decide)
  have e : ∀ y : Int, y.fdiv (2 ^ n) = y / (2 ^ n) := fun y => by rw [Int.fdiv_eq_ediv_of_nonneg _ (by omega)]
  simp only [shrR, e]
  exact ⟨Int.ediv_le_ediv hp h.1, Int.ediv_le_ediv hp h.2⟩


def absR (a : Rng) : Rng := (-(max (max a.2 (-a.1)) 0), max (max a.2 (-a.1)) 0)
theorem absR_quo {a : Rng} {x : Int} (y : Int) (h : a.1 ≤ x ∧ x ≤ a.2) : (absR a).1 ≤ x.tdiv y ∧ x.tdiv y ≤ (absR a).2 := by
  have p : (x.tdiv y).natAbs ≤ x.natAbs := by rw [Int.natAbs_tdiv]; exact Nat.div_le_self _ _
  simp only [absR]; omega
theorem absR_rem {a : Rng} {x : Int} (y : Int) (h : a.1 ≤ x ∧ x ≤ a.2) : (absR a).1 ≤ x.tmod y ∧ x.tmod y ≤ (absR a).2 := by
  have p : (x.tmod y).natAbs ≤ x.natAbs := by rw [Int.natAbs_tmod]; exact Nat.mod_le _ _
  simp only [absR]; omega

def r64 : Rng := (lo64, hi64)
def quoRng (a : Rng) : IE → Rng
  | .lit n => if 0 < n then quoR a n else absR a
  | _ => absR a
def remRng (a : Rng) : IE → Rng
  | .lit n => if 0 < n then remR a n else absR a
  | _ => absR a
/-- the range of an expression, by its shape and the facts -/
def rng (fs : List Fact) : IE → Rng
  | .lit z => (z, z)
  | .var i => looks fs (.var i) r64
  | .sel r i => looks fs (.sel r i) r64
  | .add a b => looks fs (.add a b) ((rng fs a).1 + (rng fs b).1, (rng fs a).2 + (rng fs b).2)
  | .sub a b => looks fs (.sub a b) ((rng fs a).1 - (rng fs b).2, (rng fs a).2 - (rng fs b).1)
  | .mul a b => looks fs (.mul a b) (mulR (rng fs a) (rng fs b))
  | .quo a b => looks fs (.quo a b) (quoRng (rng fs a) b)
  | .rem a b => looks fs (.rem a b) (remRng (rng fs a) b)
  | .wrap k a => looks fs (.wrap k a) (wrapR k (rng fs a))
  | .bit op k a b => looks fs (.bit op k a b) (bitR op k b)
  | .shr a n => looks fs (.shr a n) (shrR (rng fs a) n)
  | .app f x => looks fs (.app f x) r64
  | .arg _ _ => (0, 0)
  | .noarg => (0, 0)

theorem r64_ok {x : Int} (h : in64 x) : r64.1 ≤ x ∧ x ≤ r64.2 := h
theorem row_ok {E : Env} (hE : E.Ok) (r j : Nat) : in64 ((E.row r).getD j 0) := by
  unfold Env.row
  split
  · simp [in64, lo64, hi64]
  · rw [List.getD_eq_getElem?_getD]
    cases h : (E.l r)[j]? with
    | none => exact ⟨by decide, by decide⟩
    | some x => exact hE.l r x (List.mem_of_getElem? h)
theorem rng_ok {E : Env} (hE : E.Ok) {fs : List Fact} (h : ∀ f ∈ fs, FactOk E f) : ∀ e : IE, (rng fs e).1 ≤ ev E e ∧ ev E e ≤ (rng fs e).2
  | .lit z => ⟨Int.le_refl _, Int.le_refl _⟩
  | .var i => looks_ok h (r64_ok (hE.i i))
  | .sel r i => looks_ok h (r64_ok (row_ok hE r _))
  | .add a b => looks_ok h (by have p := rng_ok hE h a; have q := rng_ok hE h b; rw [ev_add]; constructor <;> dsimp only <;> omega)
  | .sub a b => looks_ok h (by have p := rng_ok hE h a; have q := rng_ok hE h b; rw [ev_sub]; constructor <;> dsimp only <;> omega)
  | .mul a b => looks_ok h (mulR_ok (rng_ok hE h a) (rng_ok hE h b))
  | .quo a b => looks_ok h (by
      have p := rng_ok hE h a
      rw [ev_quo]
      unfold quoRng
      split
      · split
        · exact quoR_ok ‹_› p
        · exact absR_quo _ p
      · exact absR_quo _ p)
  | .rem a b => looks_ok h (by
      have p := rng_ok hE h a
      rw [ev_rem]
      unfold remRng
      split
      · split
        · exact remR_ok ‹_› p
        · exact absR_rem _ p
      · exact absR_rem _ p)
  | .wrap k a => looks_ok h (wrapR_ok (rng_ok hE h a))
  | .bit op k a b => looks_ok h (bitR_ok op k a b)
  | .shr a n => looks_ok h (shrR_ok (rng_ok hE h a))
  | .app f x => looks_ok h (r64_ok (hE.f f _))
  | .arg _ _ => ⟨Int.le_refl _, Int.le_refl _⟩
  | .noarg => ⟨Int.le_refl _, Int.le_refl _⟩

/-- what is known on the way: facts, and tests that were answered -/
structure Know where
  facts : List Fact
  conds : List BE
  deriving DecidableEq, Inhabited
structure KnowOk (E : Env) (k : Know) : Prop where
  env : E.Ok
  facts : ∀ f ∈ k.facts, FactOk E f
  conds : ∀ c ∈ k.conds, evB E c = true

/- making expressions -/
def mkAdd (a b : IE) : IE :=
  match a, b with
  | .lit x, .lit y => .lit (x + y)
  | .lit x, b => match b with
    | .add c (.lit y) => if x + y = 0 then c else .add c (.lit (x + y))
    | b => if x = 0 then b else .add b (.lit x)
  | a, .lit y => match a with
    | .add c (.lit x) => if x + y = 0 then c else .add c (.lit (x + y))
    | a => if y = 0 then a else .add a (.lit y)
  | .add c (.lit x), .add d (.lit y) => .add (.add c d) (.lit (x + y))
  | .add c (.lit x), b => .add (.add c b) (.lit x)
  | a, .add d (.lit y) => .add (.add a d) (.lit y)
  | a, b => .add a b
theorem mkAdd_ok (E : Env) (a b : IE) : ev E (mkAdd a b) = ev E a + ev E b := by
  unfold mkAdd
  repeat' split
  all_goals simp only [ev_add, ev_lit] at *
  all_goals try omega
def sub0 (a b : IE) : IE :=
  if a = b then .lit 0 else match a with
    | .add c d => if c = b then d else if d = b then c else .sub a b
    | _ => .sub a b
theorem sub0_ok (E : Env) (a b : IE) : ev E (sub0 a b) = ev E a - ev E b := by
  unfold sub0
  split
  · subst_vars; simp only [ev_lit]; omega
  · split
    · split
      · subst_vars; simp only [ev_add]; omega
      · split
        · subst_vars; simp only [ev_add]; omega
        · rfl
    · rfl
def subE (a b : IE) : IE :=
  match a, b with
  | .mul x (.lit c), .mul y (.lit d) => if c = d then .mul (sub0 x y) (.lit c) else sub0 (.mul x (.lit c)) (.mul y (.lit d))
  | a, b => sub0 a b
theorem subE_ok (E : Env) (a b : IE) : ev E (subE a b) = ev E a - ev E b := by
  unfold subE
  split
  · split
    · subst_vars; simp only [ev_mul, sub0_ok, ev_lit, Int.sub_mul]
    · exact sub0_ok E _ _
  · exact sub0_ok E _ _
/-- an expression, and the number that is added to it -/
def parted : IE → IE × Int
  | .add a (.lit c) => (a, c)
  | a => (a, 0)
theorem parted_ok (E : Env) (a : IE) : ev E a = ev E (parted a).1 + (parted a).2 := by
  unfold parted
  split
  · rfl
  · simp
def mkSub (a b : IE) : IE :=
  match b with
  | .lit y => mkAdd a (.lit (-y))
  | b => mkAdd (subE (parted a).1 (parted b).1) (.lit ((parted a).2 - (parted b).2))
theorem mkSub_ok (E : Env) (a b : IE) : ev E (mkSub a b) = ev E a - ev E b := by
  unfold mkSub
  split
  · rw [mkAdd_ok]; simp only [ev_lit]; omega
  · rw [mkAdd_ok, subE_ok, parted_ok E a, parted_ok E b, ev_lit]; omega
def mkMul (a b : IE) : IE :=
  match a, b with
  | .lit x, .lit y => .lit (x * y)
  | .lit x, b => if x = 1 then b else if x = 0 then .lit 0 else .mul b (.lit x)
  | a, .lit y => if y = 1 then a else if y = 0 then .lit 0 else .mul a (.lit y)
  | a, b => .mul a b
theorem mkMul_ok (E : Env) (a b : IE) : ev E (mkMul a b) = ev E a * ev E b := by
  unfold mkMul
  repeat' split
  all_goals simp only [ev_mul, ev_lit] at *
  all_goals try subst_vars
  all_goals first | done | rw [Int.one_mul] | rw [Int.mul_one] | rw [Int.zero_mul] | rw [Int.mul_zero] | exact Int.mul_comm _ _
def mkQuo (a b : IE) : IE :=
  match a, b with
  | .lit x, .lit y => .lit (x.tdiv y)
  | a, b => .quo a b
theorem mkQuo_ok (E : Env) (a b : IE) : ev E (mkQuo a b) = (ev E a).tdiv (ev E b) := by
  unfold mkQuo; split <;> rfl
def mkRem (fs : List Fact) (a b : IE) : IE :=
  match a, b with
  | .lit x, .lit y => .lit (x.tmod y)
  | a, .lit y => if 0 ≤ (rng fs a).1 ∧ (rng fs a).2 < y then a else .rem a (.lit y)
  | a, b => .rem a b
theorem mkRem_ok {E : Env} (hE : E.Ok) {fs : List Fact} (h : ∀ f ∈ fs, FactOk E f) (a b : IE) : ev E (mkRem fs a b) = (ev E a).tmod (ev E b) := by
  unfold mkRem
  split
  · rfl
  · split
    · rename_i hh
      have p := rng_ok hE h a
      rw [ev_lit, Int.tmod_eq_emod_of_nonneg (by omega), Int.emod_eq_of_lt (by omega) (by omega)]
    · rfl
  · rfl
def mkWrap (fs : List Fact) (k : IntKind) (a : IE) : IE :=
  match a with
  | .lit x => .lit (k.wrap x)
  | a => if k.min ≤ (rng fs a).1 ∧ (rng fs a).2 ≤ k.max then a else .wrap k a
theorem mkWrap_ok {E : Env} (hE : E.Ok) {fs : List Fact} (h : ∀ f ∈ fs, FactOk E f) (k : IntKind) (a : IE) : ev E (mkWrap fs k a) = k.wrap (ev E a) := by
  unfold mkWrap
  split
  · rfl
  · split
    · rename_i hh
      have p := rng_ok hE h a
      rw [wrap_id (by omega) (by omega)]
    · rfl
def mkBit (op : BinOp) (k : IntKind) (a b : IE) : IE :=
  match a, b with
  | .lit x, .lit y => .lit (bitI op k x y)
  | a, b => .bit op k a b
theorem mkBit_ok (E : Env) (op : BinOp) (k : IntKind) (a b : IE) : ev E (mkBit op k a b) = bitI op k (ev E a) (ev E b) := by
  unfold mkBit; split <;> rfl
def mkShr (a : IE) (n : Nat) : IE :=
  match a with
  | .lit x => .lit (x.fdiv (2 ^ n))
  | a => .shr a n
theorem mkShr_ok (E : Env) (a : IE) (n : Nat) : ev E (mkShr a n) = (ev E a).fdiv (2 ^ n) := by
  unfold mkShr; split <;> rfl

/-- made anew -/
def norm : IE → IE
  | .add a b => mkAdd (norm a) (norm b)
  | .sub a b => mkSub (norm a) (norm b)
  | .mul a b => mkMul (norm a) (norm b)
  | e => e
theorem norm_ok (E : Env) : ∀ e : IE, ev E (norm e) = ev E e
  | .add a b => by simp only [norm, mkAdd_ok, norm_ok E a, norm_ok E b, ev_add]
  | .sub a b => by simp only [norm, mkSub_ok, norm_ok E a, norm_ok E b, ev_sub]
  | .mul a b => by simp only [norm, mkMul_ok, norm_ok E a, norm_ok E b, ev_mul]
  | .lit _ | .var _ | .sel _ _ | .quo _ _ | .rem _ _ | .wrap _ _ | .bit _ _ _ _ | .shr _ _ | .app _ _ | .arg _ _ | .noarg => rfl
/- tests -/
def asked (cs : List BE) (c : BE) : BE := if cs.contains c then .lit true else if cs.contains (.not c) then .lit false else c
theorem asked_ok {E : Env} {cs : List BE} (h : ∀ c ∈ cs, evB E c = true) (c : BE) : evB E (asked cs c) = evB E c := by
  unfold asked
  split
  · rename_i hc; rw [h c (by simpa using hc)]; rfl
  · split
    · rename_i hc
      have := h _ (List.contains_iff_mem.1 hc)
      simp only [evB, Bool.not_eq_true'] at this
      rw [this]; rfl
    · rfl
def mkLt (k : Know) (a b : IE) : BE :=
  match a, b with
  | .lit x, .lit y => .lit (decide (x < y))
  | a, b =>
  if (rng k.facts a).2 < (rng k.facts b).1 then .lit true
  else if (rng k.facts b).2 ≤ (rng k.facts a).1 then .lit false
  else if (rng k.facts (mkSub a b)).2 < 0 then .lit true
  else if 0 ≤ (rng k.facts (mkSub a b)).1 then .lit false
  else asked k.conds (.lt a b)
theorem mkLt_ok {E : Env} {k : Know} (h : KnowOk E k) (a b : IE) : evB E (mkLt k a b) = decide (ev E a < ev E b) := by
  have p := rng_ok h.env h.facts a
  have q := rng_ok h.env h.facts b
  have r := rng_ok h.env h.facts (mkSub a b)
  rw [mkSub_ok] at r
  unfold mkLt
  split
  · rfl
  split
  · simp only [evB]; exact (decide_eq_true (by omega)).symm
  · split
    · simp only [evB]; exact (decide_eq_false (by omega)).symm
    · split
      · simp only [evB]; exact (decide_eq_true (by omega)).symm
      · split
        · simp only [evB]; exact (decide_eq_false (by omega)).symm
        · rw [asked_ok h.conds]; rfl
def mkEq (k : Know) (a b : IE) : BE :=
  match a, b with
  | .lit x, .lit y => .lit (decide (x = y))
  | a, b =>
  if a = b then .lit true
  else if (rng k.facts a).2 < (rng k.facts b).1 ∨ (rng k.facts b).2 < (rng k.facts a).1 then .lit false
  else if (rng k.facts a).1 = (rng k.facts a).2 ∧ (rng k.facts b) = (rng k.facts a) then .lit true
  else if (rng k.facts (mkSub a b)).2 < 0 ∨ 0 < (rng k.facts (mkSub a b)).1 then .lit false
  else if rng k.facts (mkSub a b) = (0, 0) then .lit true
  else match asked k.conds (.eq a b) with
    | .lit c => .lit c
    | _ => asked k.conds (.eq b a)
theorem mkEq_ok {E : Env} {k : Know} (h : KnowOk E k) (a b : IE) : evB E (mkEq k a b) = decide (ev E a = ev E b) := by
  have p := rng_ok h.env h.facts a
  have q := rng_ok h.env h.facts b
  have r := rng_ok h.env h.facts (mkSub a b)
  rw [mkSub_ok] at r
  unfold mkEq
  split
  · rfl
  split
  · subst_vars; simp [evB]
  · split
    · simp only [evB]; exact (decide_eq_false (by omega)).symm
    · split
      · rename_i hh
        obtain ⟨h1, h2⟩ := hh
        rw [h2] at q
        simp only [evB]; exact (decide_eq_true (by omega)).symm
      · split
        · simp only [evB]; exact (decide_eq_false (by omega)).symm
        · split
          · rename_i hh
            rw [hh] at r
            simp only [evB]; dsimp only at r; exact (decide_eq_true (by omega)).symm
          · split
            · rename_i c hc
              rw [← hc, asked_ok h.conds]; rfl
            · rw [asked_ok h.conds]
              simp only [evB]
              exact decide_eq_decide.2 eq_comm
def mkNot : BE → BE
  | .lit b => .lit (!b)
  | .not a => a
  | a => .not a
theorem mkNot_ok (E : Env) (a : BE) : evB E (mkNot a) = !evB E a := by
  cases a <;> simp [mkNot, evB]
/-- a test is looked at anew, with what is known now -/
def again (k : Know) : BE → BE
  | .lit b => .lit b
  | .var i => asked k.conds (.var i)
  | .lt a b => mkLt k a b
  | .eq a b => mkEq k a b
  | .not a => mkNot (again k a)
theorem again_ok {E : Env} {k : Know} (h : KnowOk E k) : ∀ c : BE, evB E (again k c) = evB E c
  | .lit _ => rfl
  | .var _ => asked_ok h.conds _
  | .lt a b => mkLt_ok h a b
  | .eq a b => mkEq_ok h a b
  | .not a => by simp only [again, mkNot_ok, again_ok h a, evB]

/- a test's answer makes facts -/
def factOf (e : IE) (lo hi : Int) : List Fact :=
  match e with
  | .lit _ => []
  | .add a (.lit c) => [(.add a (.lit c), lo, hi), (a, lo - c, hi - c)]
  | e => [(e, lo, hi)]
theorem factOf_ok {E : Env} {e : IE} {lo hi : Int} (h : lo ≤ ev E e ∧ ev E e ≤ hi) : ∀ f ∈ factOf e lo hi, FactOk E f := by
  unfold factOf
  split
  · intro f hf; cases hf
  · intro f hf
    simp only [ev_add, ev_lit] at h
    simp only [List.mem_cons, List.not_mem_nil, or_false] at hf
    rcases hf with rfl | rfl <;> simp only [FactOk, ev_add, ev_lit] <;> omega
  · intro f hf
    simp only [List.mem_cons, List.not_mem_nil, or_false] at hf
    subst hf; exact h
def isLit : IE → Bool | .lit _ => true | _ => false
def learnLt (fs : List Fact) (a b : IE) : List Fact :=
  let ra := rng fs a; let rb := rng fs b
  factOf a ra.1 (if ra.2 ≤ rb.2 - 1 then ra.2 else rb.2 - 1) ++ factOf b (if ra.1 + 1 ≤ rb.1 then rb.1 else ra.1 + 1) rb.2 ++
    (if isLit a || isLit b then [] else [(mkSub a b, ra.1 - rb.2, -1), (mkSub b a, 1, rb.2 - ra.1)])
def learnLe (fs : List Fact) (a b : IE) : List Fact :=
  let ra := rng fs a; let rb := rng fs b
  factOf a ra.1 (if ra.2 ≤ rb.2 then ra.2 else rb.2) ++ factOf b (if ra.1 ≤ rb.1 then rb.1 else ra.1) rb.2 ++
    (if isLit a || isLit b then [] else [(mkSub a b, ra.1 - rb.2, 0), (mkSub b a, 0, rb.2 - ra.1)])
def learnEq (fs : List Fact) (a b : IE) : List Fact :=
  let ra := rng fs a; let rb := rng fs b
  let m := meet ra rb
  factOf a m.1 m.2 ++ factOf b m.1 m.2 ++ (if isLit a || isLit b then [] else [(mkSub a b, 0, 0), (mkSub b a, 0, 0)])
def learnNe (fs : List Fact) (a b : IE) : List Fact :=
  let ra := rng fs a; let rb := rng fs b
  (if rb.1 = rb.2 then factOf a (if ra.1 = rb.1 then ra.1 + 1 else ra.1) (if ra.2 = rb.1 then ra.2 - 1 else ra.2) else []) ++
  (if ra.1 = ra.2 then factOf b (if rb.1 = ra.1 then rb.1 + 1 else rb.1) (if rb.2 = ra.1 then rb.2 - 1 else rb.2) else [])
def learn (fs : List Fact) : BE → List Fact
  | .lt a b => learnLt fs a b
  | .eq a b => learnEq fs a b
  | .not (.lt a b) => learnLe fs b a
  | .not (.eq a b) => learnNe fs a b
  | _ => []
theorem learn_ok {E : Env} (hE : E.Ok) {fs : List Fact} (h : ∀ f ∈ fs, FactOk E f) {c : BE} (hc : evB E c = true) : ∀ f ∈ learn fs c, FactOk E f := by
  have side : ∀ (a b : IE) (l1 l2 h1 h2 : Int), (l1 ≤ ev E a - ev E b ∧ ev E a - ev E b ≤ h1) → (l2 ≤ ev E b - ev E a ∧ ev E b - ev E a ≤ h2) →
      ∀ f ∈ (if isLit a || isLit b then [] else [(mkSub a b, l1, h1), (mkSub b a, l2, h2)] : List Fact), FactOk E f := by
    intro a b l1 l2 h1 h2 p q f hf
    split at hf
    · cases hf
    · simp only [List.mem_cons, List.not_mem_nil, or_false] at hf
      rcases hf with rfl | rfl <;> simp only [FactOk, mkSub_ok] <;> assumption
  have ml : ∀ {x y : List Fact}, (∀ f ∈ x, FactOk E f) → (∀ f ∈ y, FactOk E f) → ∀ f ∈ x ++ y, FactOk E f := by
    intro x y p q f hf
    rcases List.mem_append.1 hf with hf | hf
    · exact p f hf
    · exact q f hf
  unfold learn
  split
  · rename_i a b
    have p := rng_ok hE h a; have q := rng_ok hE h b
    simp only [evB, decide_eq_true_eq] at hc
    refine ml (ml (factOf_ok ?_) (factOf_ok ?_)) (side _ _ _ _ _ _ ?_ ?_) <;> constructor <;> (try split) <;> omega
  · rename_i a b
    have p := rng_ok hE h a; have q := rng_ok hE h b
    simp only [evB, decide_eq_true_eq] at hc
    have m := meet_ok p (by rw [hc]; exact q)
    refine ml (ml (factOf_ok m) (factOf_ok (by rw [← hc]; exact m))) (side _ _ _ _ _ _ ?_ ?_) <;> constructor <;> omega
  · rename_i a b
    have p := rng_ok hE h a; have q := rng_ok hE h b
    simp only [evB, Bool.not_eq_true', decide_eq_false_iff_not] at hc
    refine ml (ml (factOf_ok ?_) (factOf_ok ?_)) (side _ _ _ _ _ _ ?_ ?_) <;> constructor <;> (try split) <;> omega
  · rename_i a b
    have p := rng_ok hE h a; have q := rng_ok hE h b
    simp only [evB, Bool.not_eq_true', decide_eq_false_iff_not] at hc
    refine ml ?_ ?_
    · split
      · exact factOf_ok (by constructor <;> split <;> omega)
      · intro f hf; cases hf
    · split
      · exact factOf_ok (by constructor <;> split <;> omega)
      · intro f hf; cases hf
  · intro f hf; cases hf
def Know.tell (k : Know) (c : BE) : Know := { facts := learn k.facts c ++ k.facts, conds := c :: k.conds }
theorem tell_ok {E : Env} {k : Know} (h : KnowOk E k) {c : BE} (hc : evB E c = true) : KnowOk E (k.tell c) := by
  refine ⟨h.env, ?_, ?_⟩
  · intro f hf
    rcases List.mem_append.1 hf with hf | hf
    · exact learn_ok h.env h.facts hc f hf
    · exact h.facts f hf
  · intro d hd
    rcases List.mem_cons.1 hd with rfl | hd
    · exact hc
    · exact h.conds d hd
end Go.Sx
