/- The executor's constants, and the tables that it looks into. -/
import Derived.Test.YtgjbhgdmgncoaaaSxB
import Derived.Laws.CopyRow
import Derived.Laws.Entries
namespace Go.Sx
open Go

def appC : SV → SV → SV
  | .nil, b => b
  | .cons a r, b => .cons a (appC r b)
  | v, b => .cons v b
theorem appC_ok (E : Env) : ∀ a b : SV, dl E (appC a b) = dl E a ++ dl E b := by
  intro a
  induction a with
  | nil => intro b; rfl
  | cons x r _ ih => intro b; simp only [appC, dl, ih, List.append_assoc]
  | _ => intro b; rfl
/- constants -/
def ofCell : Value → Option SV
  | .bool b => some (.bool (.lit b))
  | .int k n => some (.int k (.lit n))
  | .pointer none => some .nilp
  | .slice none 0 0 => some .nils
  | .nilFunc => some .nilf
  | .nilIface => some .nili
  | _ => none
theorem ofCell_ok (E : Env) {v : Value} {s : SV} (h : ofCell v = some s) : dv E s = v ∧ s.isC = true := by
  unfold ofCell at h
  split at h <;> cases h <;> exact ⟨rfl, rfl⟩
/-- a run of cells that are all the number 0 of one kind -/
def zeros (k : IntKind) : List Value → Bool
  | [] => true
  | .int k' n :: rest => decide (k' = k) && decide (n = 0) && zeros k rest
  | _ => false
theorem zeros_ok (k : IntKind) : ∀ l : List Value, zeros k l = true → l = List.replicate l.length (.int k 0) := by
  intro l
  induction l with
  | nil => intro _; rfl
  | cons v rest ih =>
    intro h
    unfold zeros at h
    split at h
    · rename_i heq; cases heq
    · rename_i heq
      cases heq
      simp only [Bool.and_eq_true, decide_eq_true_eq] at h
      obtain ⟨⟨rfl, rfl⟩, h2⟩ := h
      rw [List.length_cons, List.replicate_succ, ← ih h2]
    · cases h
def ofCells : List Value → Option SV
  | [] => some .nil
  | v :: rest => match ofCell v, ofCells rest with
    | some s, some r => some (.cons s r)
    | _, _ => none
theorem ofCells_ok (E : Env) : ∀ (l : List Value) (s : SV), ofCells l = some s → dl E s = l := by
  intro l
  induction l with
  | nil => intro s h; cases h; rfl
  | cons v rest ih =>
    intro s h
    unfold ofCells at h
    split at h
    · rename_i a r ha hr
      cases h
      obtain ⟨e, hc⟩ := ofCell_ok E ha
      simp only [dl, dl_isV E (SV.isC_isV hc), e, ih r hr, List.singleton_append]
    · cases h
/-- the zero of a type, as a chain of cells: arrays of numbers as arrays -/
def zeroC (P : Program) : Nat → Nat → Option SV
  | 0, _ => none
  | d + 1, t =>
    match P.underlying t with
    | some (.struct fs) => fs.toList.foldr (fun f acc => match zeroC P d f.type, acc with | some a, some b => some (appC a b) | _, _ => none) (some .nil)
    | some (.array n e) => match P.underlying e with
      | some (.int k) => some (.cons (.arr k 0 (.lit n) .nil) .nil)
      | _ => match zeroC P d e with
        | some a => some (Nat.rec .nil (fun _ r => appC a r) n)
        | none => none
    | some _ => match P.info? t with
      | some i => match i.zero with
        | some v => match ofCell v with
          | some s => some (.cons s .nil)
          | none => none
        | none => none
      | none => none
    | none => none
/-- does a chain stand for these cells? (of constants alone) -/
def stands : SV → List Value → Bool
  | .nil, [] => true
  | .cons a r, l => match a with
    | .arr k 0 (.lit n) .nil => decide (0 ≤ n) && decide ((l.take n.toNat).length = n.toNat) && zeros k (l.take n.toNat) && stands r (l.drop n.toNat)
    | a => match l with
      | v :: l => (match a, v with
        | .bool (.lit b), .bool c => b == c
        | .int k (.lit n), .int k' n' => decide (k = k') && decide (n = n')
        | .nilp, .pointer none => true
        | .nils, .slice none 0 0 => true
        | .nilf, .nilFunc => true
        | .nili, .nilIface => true
        | _, _ => false) && stands r l
      | [] => false
  | _, _ => false
theorem stands_ok (E : Env) : ∀ (c : SV) (l : List Value), stands c l = true → dl E c = l := by
  intro c
  induction c with
  | nil => intro l h; cases l <;> simp_all [stands, dl]
  | cons a r _ ih =>
    intro l h
    unfold stands at h
    split at h
    · rename_i k n _
      simp only [Bool.and_eq_true, decide_eq_true_eq] at h
      obtain ⟨⟨⟨h0, hl⟩, hz⟩, hr⟩ := h
      simp only [dl, ih _ hr]
      have := zeros_ok _ _ hz
      rw [hl] at this
      have e : arrCells E k 0 (ev E (.lit n)).toNat .nil = l.take n.toNat := by
        rw [this, ev_lit]
        refine List.ext_getElem? fun j => ?_
        by_cases hj : j < n.toNat
        · rw [arrCells_get _ _ _ _ _ _ hj]; simp [hj, wsVal, Env.row]
        · rw [List.getElem?_eq_none (by rw [arrCells_len]; omega), List.getElem?_eq_none (by simp; omega)]
      rw [e, List.take_append_drop]
    · split at h
      · rename_i v l'
        simp only [Bool.and_eq_true] at h
        obtain ⟨h1, h2⟩ := h
        simp only [dl, ih _ h2]
        split at h1 <;> first | cases h1 | skip
        all_goals simp_all [dl, evB, ev_lit]
      · cases h
  | _ => intro l h; cases l <;> simp [stands] at h
def zeroS (P : Program) (t : Nat) : Option SV :=
  match P.info? t with
  | some i => match i.zero with
    | some (.agg cs) => match zeroC P 40 t with
      | some c => if stands c cs.toList then some (.agg c) else none
      | none => none
    | some v => ofCell v
    | none => none
  | none => none
theorem zeroS_ok {P : Program} {t : Nat} {s : SV} (h : zeroS P t = some s) (E : Env) (w : World) : (zeroValue t).run P w = .ok (dv E s) w := by
  unfold zeroS at h
  split at h
  · rename_i i hi
    split at h
    · rename_i cs hz
      split at h
      · rename_i c _
        split at h
        · rename_i hs
          cases h
          have := stands_ok E c cs.toList hs
          simp [zeroValue, typeInfo, hi, hz, dv, dl, this]
        · cases h
      · cases h
    · rename_i v _ hz
      obtain ⟨e, _⟩ := ofCell_ok E h
      simp [zeroValue, typeInfo, hi, hz, e]
    · cases h
  · cases h


/- what the tables say, told out of the program -/
def callable (P : Program) (f : Nat) : Bool :=
  match P.funcs[f]? with
  | some fn => (fn.name != "runtime.NumGoroutine") && fn.body.isSome
  | none => false
/-- a method of a type itself -/
def methodS (P : Program) (t : Nat) (name : String) : Option Nat :=
  match P.info? t with
  | some i => match i.methods.find? (·.name == name) with
    | some m => if m.path.isEmpty then match m.func, P.underlying t with
      | some (f, true), some (.pointer _) => some f
      | some (_f, false), some (.pointer _) => none
      | some (f, false), some _ => some f
      | _, _ => none
      else none
    | none => none
  | none => none
/-- the fields that == looks at -/
def eqPlan (P : Program) (t : Nat) : Option (List (Nat × Nat)) :=
  match P.underlying t with
  | some (.struct fs) => if P.stoodInHeld t = false ∧ P.eqGuardType P.depth t = false then some ((fs.toList.filter fun f => f.name != "_").map fun f => (f.offset, f.type)) else none
  | _ => none
/-- tables of a program, fast to look into -/
structure Tab (P : Program) where
  under : Nat → Option TypeDesc
  under_ok : ∀ t d, under t = some d → P.underlying t = some d
  size : Nat → Option Nat
  size_ok : ∀ t n, size t = some n → (P.info? t).map (·.size) = some n
  zero : Nat → Option SV
  zero_ok : ∀ t s, zero t = some s → zeroS P t = some s
  func : Nat → Option Func
  func_ok : ∀ f fn, func f = some fn → P.funcs[f]? = some fn
  call : Nat → Bool
  call_ok : ∀ f, call f = true → callable P f = true
  meth : Nat → String → Option Nat
  meth_ok : ∀ t s f, meth t s = some f → methodS P t s = some f
  eqs : Nat → Option (List (Nat × Nat))
  eqs_ok : ∀ t l, eqs t = some l → eqPlan P t = some l
  mixed : P.follows .mixedOrders = true

/- tables, made of leaves -/
theorem leaf_ok {α : Type} {Q : Nat → α → Prop} {t k : Nat} {x d : α} (hq : Q k x) (h : cond (Nat.beq t k) (some x) none = some d) : Q t d := by
  cases hb : Nat.beq t k with
  | false => rw [hb] at h; cases h
  | true =>
    rw [hb] at h
    cases h
    rw [Nat.eq_of_beq_eq_true hb]
    exact hq
theorem node_ok {α : Type} {R : Prop} {c : Bool} {a b : Option α} {d : α} (ha : a = some d → R) (hb : b = some d → R) (h : cond c a b = some d) : R := by
  cases c
  · exact hb h
  · exact ha h
theorem none_ok {α : Type} {R : Prop} {d : α} (h : (none : Option α) = some d) : R := by cases h
theorem mem_none {α β : Type} {R : α → β → Prop} : ∀ p ∈ ([] : List (α × β)), R p.1 p.2 := by intro p hp; cases hp
theorem mem_all {α β : Type} {R : α → β → Prop} {a : α} {b : β} {l : List (α × β)} (h : R a b) (hl : ∀ p ∈ l, R p.1 p.2) : ∀ p ∈ (a, b) :: l, R p.1 p.2 := by
  intro p hp
  rcases List.mem_cons.1 hp with rfl | hp
  · exact h
  · exact hl p hp
end Go.Sx
