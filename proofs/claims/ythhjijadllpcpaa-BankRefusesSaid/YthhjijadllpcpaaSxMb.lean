/- Equality of values, fast. -/
import Derived.Test.YthhjijadllpcpaaSxB
namespace Go.Sx
open Go
noncomputable def andB (a b : Bool) : Bool := Bool.rec (motive := fun _ => Bool → Bool) (fun _ => false) (fun b => b) a b
theorem andB_ok {a b : Bool} (h : andB a b = true) : a = true ∧ b = true := by cases a <;> cases b <;> first | exact ⟨rfl, rfl⟩ | cases h
noncomputable def bEq (a b : Bool) : Bool := Bool.rec (motive := fun _ => Bool → Bool) (fun b => Bool.rec (motive := fun _ => Bool) true false b) (fun b => b) a b
theorem bEq_ok {a b : Bool} (h : bEq a b = true) : a = b := by cases a <;> cases b <;> first | rfl | cases h
noncomputable def zEq (a b : Int) : Bool := Int.rec (motive := fun _ => Int → Bool) (fun n b => Int.rec (motive := fun _ => Nat → Bool) (fun m n => Nat.beq n m) (fun _ _ => false) b n) (fun n b => Int.rec (motive := fun _ => Nat → Bool) (fun _ _ => false) (fun m n => Nat.beq n m) b n) a b
theorem zEq_ok {a b : Int} (h : zEq a b = true) : a = b := by
  cases a <;> cases b <;> first | cases h; done | exact congrArg _ (Nat.eq_of_beq_eq_true h)
noncomputable def kindNo (k : IntKind) : Nat := IntKind.rec (motive := fun _ => Nat) 0 1 2 3 4 5 6 7 k
theorem kindNo_eq {a b : IntKind} (h : Nat.beq (kindNo a) (kindNo b) = true) : a = b := by
  have h := Nat.eq_of_beq_eq_true h
  cases a <;> cases b <;> first | rfl | (exfalso; revert h; decide)
noncomputable def ibLit (vv : IE) (g : Int → Bool) : Bool := IE.rec (motive := fun _ => (Int → Bool) → Bool) (fun z g => g z) (fun _ _ => false) (fun _ _ _ _ => false) (fun _ _ _ _ _ => false) (fun _ _ _ _ _ => false) (fun _ _ _ _ _ => false) (fun _ _ _ _ _ => false) (fun _ _ _ _ _ => false) (fun _ _ _ _ => false) (fun _ _ _ _ _ _ _ => false) (fun _ _ _ _ => false) (fun _ _ _ _ => false) (fun _ _ _ _ _ => false) (fun _ => false) (fun _ _ _ _ _ _ _ _ _ _ => false) (fun _ _ => false) vv g
theorem ibLit_ok {vv : IE} {g : Int → Bool} (h : ibLit vv g = true) : ∃ z, vv = .lit z ∧ g z = true := by cases vv <;> first | exact ⟨_, rfl, h⟩ | cases h
noncomputable def ibVar (vv : IE) (g : Nat → Bool) : Bool := IE.rec (motive := fun _ => (Nat → Bool) → Bool) (fun _ _ => false) (fun i g => g i) (fun _ _ _ _ => false) (fun _ _ _ _ _ => false) (fun _ _ _ _ _ => false) (fun _ _ _ _ _ => false) (fun _ _ _ _ _ => false) (fun _ _ _ _ _ => false) (fun _ _ _ _ => false) (fun _ _ _ _ _ _ _ => false) (fun _ _ _ _ => false) (fun _ _ _ _ => false) (fun _ _ _ _ _ => false) (fun _ => false) (fun _ _ _ _ _ _ _ _ _ _ => false) (fun _ _ => false) vv g
theorem ibVar_ok {vv : IE} {g : Nat → Bool} (h : ibVar vv g = true) : ∃ i, vv = .var i ∧ g i = true := by cases vv <;> first | exact ⟨_, rfl, h⟩ | cases h
noncomputable def ibSel (vv : IE) (g : Nat → IE → Bool) : Bool := IE.rec (motive := fun _ => (Nat → IE → Bool) → Bool) (fun _ _ => false) (fun _ _ => false) (fun r i _ g => g r i) (fun _ _ _ _ _ => false) (fun _ _ _ _ _ => false) (fun _ _ _ _ _ => false) (fun _ _ _ _ _ => false) (fun _ _ _ _ _ => false) (fun _ _ _ _ => false) (fun _ _ _ _ _ _ _ => false) (fun _ _ _ _ => false) (fun _ _ _ _ => false) (fun _ _ _ _ _ => false) (fun _ => false) (fun _ _ _ _ _ _ _ _ _ _ => false) (fun _ _ => false) vv g
theorem ibSel_ok {vv : IE} {g : Nat → IE → Bool} (h : ibSel vv g = true) : ∃ r i, vv = .sel r i ∧ g r i = true := by cases vv <;> first | exact ⟨_, _, rfl, h⟩ | cases h
noncomputable def ibAdd (vv : IE) (g : IE → IE → Bool) : Bool := IE.rec (motive := fun _ => (IE → IE → Bool) → Bool) (fun _ _ => false) (fun _ _ => false) (fun _ _ _ _ => false) (fun a b _ _ g => g a b) (fun _ _ _ _ _ => false) (fun _ _ _ _ _ => false) (fun _ _ _ _ _ => false) (fun _ _ _ _ _ => false) (fun _ _ _ _ => false) (fun _ _ _ _ _ _ _ => false) (fun _ _ _ _ => false) (fun _ _ _ _ => false) (fun _ _ _ _ _ => false) (fun _ => false) (fun _ _ _ _ _ _ _ _ _ _ => false) (fun _ _ => false) vv g
theorem ibAdd_ok {vv : IE} {g : IE → IE → Bool} (h : ibAdd vv g = true) : ∃ a b, vv = .add a b ∧ g a b = true := by cases vv <;> first | exact ⟨_, _, rfl, h⟩ | cases h
noncomputable def ibSub (vv : IE) (g : IE → IE → Bool) : Bool := IE.rec (motive := fun _ => (IE → IE → Bool) → Bool) (fun _ _ => false) (fun _ _ => false) (fun _ _ _ _ => false) (fun _ _ _ _ _ => false) (fun a b _ _ g => g a b) (fun _ _ _ _ _ => false) (fun _ _ _ _ _ => false) (fun _ _ _ _ _ => false) (fun _ _ _ _ => false) (fun _ _ _ _ _ _ _ => false) (fun _ _ _ _ => false) (fun _ _ _ _ => false) (fun _ _ _ _ _ => false) (fun _ => false) (fun _ _ _ _ _ _ _ _ _ _ => false) (fun _ _ => false) vv g
theorem ibSub_ok {vv : IE} {g : IE → IE → Bool} (h : ibSub vv g = true) : ∃ a b, vv = .sub a b ∧ g a b = true := by cases vv <;> first | exact ⟨_, _, rfl, h⟩ | cases h
noncomputable def ibMul (vv : IE) (g : IE → IE → Bool) : Bool := IE.rec (motive := fun _ => (IE → IE → Bool) → Bool) (fun _ _ => false) (fun _ _ => false) (fun _ _ _ _ => false) (fun _ _ _ _ _ => false) (fun _ _ _ _ _ => false) (fun a b _ _ g => g a b) (fun _ _ _ _ _ => false) (fun _ _ _ _ _ => false) (fun _ _ _ _ => false) (fun _ _ _ _ _ _ _ => false) (fun _ _ _ _ => false) (fun _ _ _ _ => false) (fun _ _ _ _ _ => false) (fun _ => false) (fun _ _ _ _ _ _ _ _ _ _ => false) (fun _ _ => false) vv g
theorem ibMul_ok {vv : IE} {g : IE → IE → Bool} (h : ibMul vv g = true) : ∃ a b, vv = .mul a b ∧ g a b = true := by cases vv <;> first | exact ⟨_, _, rfl, h⟩ | cases h
noncomputable def ibQuo (vv : IE) (g : IE → IE → Bool) : Bool := IE.rec (motive := fun _ => (IE → IE → Bool) → Bool) (fun _ _ => false) (fun _ _ => false) (fun _ _ _ _ => false) (fun _ _ _ _ _ => false) (fun _ _ _ _ _ => false) (fun _ _ _ _ _ => false) (fun a b _ _ g => g a b) (fun _ _ _ _ _ => false) (fun _ _ _ _ => false) (fun _ _ _ _ _ _ _ => false) (fun _ _ _ _ => false) (fun _ _ _ _ => false) (fun _ _ _ _ _ => false) (fun _ => false) (fun _ _ _ _ _ _ _ _ _ _ => false) (fun _ _ => false) vv g
theorem ibQuo_ok {vv : IE} {g : IE → IE → Bool} (h : ibQuo vv g = true) : ∃ a b, vv = .quo a b ∧ g a b = true := by cases vv <;> first | exact ⟨_, _, rfl, h⟩ | cases h
noncomputable def ibRem (vv : IE) (g : IE → IE → Bool) : Bool := IE.rec (motive := fun _ => (IE → IE → Bool) → Bool) (fun _ _ => false) (fun _ _ => false) (fun _ _ _ _ => false) (fun _ _ _ _ _ => false) (fun _ _ _ _ _ => false) (fun _ _ _ _ _ => false) (fun _ _ _ _ _ => false) (fun a b _ _ g => g a b) (fun _ _ _ _ => false) (fun _ _ _ _ _ _ _ => false) (fun _ _ _ _ => false) (fun _ _ _ _ => false) (fun _ _ _ _ _ => false) (fun _ => false) (fun _ _ _ _ _ _ _ _ _ _ => false) (fun _ _ => false) vv g
theorem ibRem_ok {vv : IE} {g : IE → IE → Bool} (h : ibRem vv g = true) : ∃ a b, vv = .rem a b ∧ g a b = true := by cases vv <;> first | exact ⟨_, _, rfl, h⟩ | cases h
noncomputable def ibWrap (vv : IE) (g : IntKind → IE → Bool) : Bool := IE.rec (motive := fun _ => (IntKind → IE → Bool) → Bool) (fun _ _ => false) (fun _ _ => false) (fun _ _ _ _ => false) (fun _ _ _ _ _ => false) (fun _ _ _ _ _ => false) (fun _ _ _ _ _ => false) (fun _ _ _ _ _ => false) (fun _ _ _ _ _ => false) (fun k a _ g => g k a) (fun _ _ _ _ _ _ _ => false) (fun _ _ _ _ => false) (fun _ _ _ _ => false) (fun _ _ _ _ _ => false) (fun _ => false) (fun _ _ _ _ _ _ _ _ _ _ => false) (fun _ _ => false) vv g
theorem ibWrap_ok {vv : IE} {g : IntKind → IE → Bool} (h : ibWrap vv g = true) : ∃ k a, vv = .wrap k a ∧ g k a = true := by cases vv <;> first | exact ⟨_, _, rfl, h⟩ | cases h
noncomputable def ibBit (vv : IE) (g : BinOp → IntKind → IE → IE → Bool) : Bool := IE.rec (motive := fun _ => (BinOp → IntKind → IE → IE → Bool) → Bool) (fun _ _ => false) (fun _ _ => false) (fun _ _ _ _ => false) (fun _ _ _ _ _ => false) (fun _ _ _ _ _ => false) (fun _ _ _ _ _ => false) (fun _ _ _ _ _ => false) (fun _ _ _ _ _ => false) (fun _ _ _ _ => false) (fun op k a b _ _ g => g op k a b) (fun _ _ _ _ => false) (fun _ _ _ _ => false) (fun _ _ _ _ _ => false) (fun _ => false) (fun _ _ _ _ _ _ _ _ _ _ => false) (fun _ _ => false) vv g
theorem ibBit_ok {vv : IE} {g : BinOp → IntKind → IE → IE → Bool} (h : ibBit vv g = true) : ∃ op k a b, vv = .bit op k a b ∧ g op k a b = true := by cases vv <;> first | exact ⟨_, _, _, _, rfl, h⟩ | cases h
noncomputable def ibShr (vv : IE) (g : IE → Nat → Bool) : Bool := IE.rec (motive := fun _ => (IE → Nat → Bool) → Bool) (fun _ _ => false) (fun _ _ => false) (fun _ _ _ _ => false) (fun _ _ _ _ _ => false) (fun _ _ _ _ _ => false) (fun _ _ _ _ _ => false) (fun _ _ _ _ _ => false) (fun _ _ _ _ _ => false) (fun _ _ _ _ => false) (fun _ _ _ _ _ _ _ => false) (fun a n _ g => g a n) (fun _ _ _ _ => false) (fun _ _ _ _ _ => false) (fun _ => false) (fun _ _ _ _ _ _ _ _ _ _ => false) (fun _ _ => false) vv g
theorem ibShr_ok {vv : IE} {g : IE → Nat → Bool} (h : ibShr vv g = true) : ∃ a n, vv = .shr a n ∧ g a n = true := by cases vv <;> first | exact ⟨_, _, rfl, h⟩ | cases h
noncomputable def ibApp (vv : IE) (g : Nat → IE → Bool) : Bool := IE.rec (motive := fun _ => (Nat → IE → Bool) → Bool) (fun _ _ => false) (fun _ _ => false) (fun _ _ _ _ => false) (fun _ _ _ _ _ => false) (fun _ _ _ _ _ => false) (fun _ _ _ _ _ => false) (fun _ _ _ _ _ => false) (fun _ _ _ _ _ => false) (fun _ _ _ _ => false) (fun _ _ _ _ _ _ _ => false) (fun _ _ _ _ => false) (fun f0 args _ g => g f0 args) (fun _ _ _ _ _ => false) (fun _ => false) (fun _ _ _ _ _ _ _ _ _ _ => false) (fun _ _ => false) vv g
theorem ibApp_ok {vv : IE} {g : Nat → IE → Bool} (h : ibApp vv g = true) : ∃ f0 args, vv = .app f0 args ∧ g f0 args = true := by cases vv <;> first | exact ⟨_, _, rfl, h⟩ | cases h
noncomputable def ibArg (vv : IE) (g : IE → IE → Bool) : Bool := IE.rec (motive := fun _ => (IE → IE → Bool) → Bool) (fun _ _ => false) (fun _ _ => false) (fun _ _ _ _ => false) (fun _ _ _ _ _ => false) (fun _ _ _ _ _ => false) (fun _ _ _ _ _ => false) (fun _ _ _ _ _ => false) (fun _ _ _ _ _ => false) (fun _ _ _ _ => false) (fun _ _ _ _ _ _ _ => false) (fun _ _ _ _ => false) (fun _ _ _ _ => false) (fun a rest _ _ g => g a rest) (fun _ => false) (fun _ _ _ _ _ _ _ _ _ _ => false) (fun _ _ => false) vv g
theorem ibArg_ok {vv : IE} {g : IE → IE → Bool} (h : ibArg vv g = true) : ∃ a rest, vv = .arg a rest ∧ g a rest = true := by cases vv <;> first | exact ⟨_, _, rfl, h⟩ | cases h
noncomputable def ibNoarg (vv : IE) (g : Bool) : Bool := IE.rec (motive := fun _ => (Bool) → Bool) (fun _ _ => false) (fun _ _ => false) (fun _ _ _ _ => false) (fun _ _ _ _ _ => false) (fun _ _ _ _ _ => false) (fun _ _ _ _ _ => false) (fun _ _ _ _ _ => false) (fun _ _ _ _ _ => false) (fun _ _ _ _ => false) (fun _ _ _ _ _ _ _ => false) (fun _ _ _ _ => false) (fun _ _ _ _ => false) (fun _ _ _ _ _ => false) (fun g => g) (fun _ _ _ _ _ _ _ _ _ _ => false) (fun _ _ => false) vv g
theorem ibNoarg_ok {vv : IE} {g : Bool} (h : ibNoarg vv g = true) : vv = .noarg ∧ g = true := by cases vv <;> first | exact ⟨rfl, h⟩ | cases h
noncomputable def ibIte (vv : IE) (g : Bool → IE → IE → IE → IE → Bool) : Bool := IE.rec (motive := fun _ => (Bool → IE → IE → IE → IE → Bool) → Bool) (fun _ _ => false) (fun _ _ => false) (fun _ _ _ _ => false) (fun _ _ _ _ _ => false) (fun _ _ _ _ _ => false) (fun _ _ _ _ _ => false) (fun _ _ _ _ _ => false) (fun _ _ _ _ _ => false) (fun _ _ _ _ => false) (fun _ _ _ _ _ _ _ => false) (fun _ _ _ _ => false) (fun _ _ _ _ => false) (fun _ _ _ _ _ => false) (fun _ => false) (fun k a b x y _ _ _ _ g => g k a b x y) (fun _ _ => false) vv g
theorem ibIte_ok {vv : IE} {g : Bool → IE → IE → IE → IE → Bool} (h : ibIte vv g = true) : ∃ k a b x y, vv = .ite k a b x y ∧ g k a b x y = true := by cases vv <;> first | exact ⟨_, _, _, _, _, rfl, h⟩ | cases h
noncomputable def ibBv (vv : IE) (g : Nat → Bool) : Bool := IE.rec (motive := fun _ => (Nat → Bool) → Bool) (fun _ _ => false) (fun _ _ => false) (fun _ _ _ _ => false) (fun _ _ _ _ _ => false) (fun _ _ _ _ _ => false) (fun _ _ _ _ _ => false) (fun _ _ _ _ _ => false) (fun _ _ _ _ _ => false) (fun _ _ _ _ => false) (fun _ _ _ _ _ _ _ => false) (fun _ _ _ _ => false) (fun _ _ _ _ => false) (fun _ _ _ _ _ => false) (fun _ => false) (fun _ _ _ _ _ _ _ _ _ _ => false) (fun i g => g i) vv g
theorem ibBv_ok {vv : IE} {g : Nat → Bool} (h : ibBv vv g = true) : ∃ i, vv = .bv i ∧ g i = true := by cases vv <;> first | exact ⟨_, rfl, h⟩ | cases h
noncomputable def ieEq (a : IE) : IE → Bool := IE.rec (motive := fun _ => IE → Bool) (fun z ee => ibLit ee (fun z' => zEq z z')) (fun i ee => ibVar ee (fun i' => Nat.beq i i')) (fun r _i ih1 ee => ibSel ee (fun r' i' => andB (Nat.beq r r') (ih1 i'))) (fun _a _b ih0 ih1 ee => ibAdd ee (fun a' b' => andB (ih0 a') (ih1 b'))) (fun _a _b ih0 ih1 ee => ibSub ee (fun a' b' => andB (ih0 a') (ih1 b'))) (fun _a _b ih0 ih1 ee => ibMul ee (fun a' b' => andB (ih0 a') (ih1 b'))) (fun _a _b ih0 ih1 ee => ibQuo ee (fun a' b' => andB (ih0 a') (ih1 b'))) (fun _a _b ih0 ih1 ee => ibRem ee (fun a' b' => andB (ih0 a') (ih1 b'))) (fun k _a ih1 ee => ibWrap ee (fun k' a' => andB (Nat.beq (kindNo k) (kindNo k')) (ih1 a'))) (fun op k _a _b ih2 ih3 ee => ibBit ee (fun op' k' a' b' => andB (decide (op = op')) (andB (Nat.beq (kindNo k) (kindNo k')) (andB (ih2 a') (ih3 b'))))) (fun _a n ih0 ee => ibShr ee (fun a' n' => andB (ih0 a') (Nat.beq n n'))) (fun f0 _args ih1 ee => ibApp ee (fun f0' args' => andB (Nat.beq f0 f0') (ih1 args'))) (fun _a _rest ih0 ih1 ee => ibArg ee (fun a' rest' => andB (ih0 a') (ih1 rest'))) (fun ee => ibNoarg ee true) (fun k _a _b _x _y ih1 ih2 ih3 ih4 ee => ibIte ee (fun k' a' b' x' y' => andB (bEq k k') (andB (ih1 a') (andB (ih2 b') (andB (ih3 x') (ih4 y')))))) (fun i ee => ibBv ee (fun i' => Nat.beq i i')) a
theorem ieEq_ok : ∀ {a b : IE}, ieEq a b = true → a = b := by
  intro a
  induction a with
  | lit z =>
    intro b h
    obtain ⟨z', rfl, h⟩ := ibLit_ok (vv := b) h
    have h0 := h
    have e0 := zEq_ok h0
    rw [e0]
  | var i =>
    intro b h
    obtain ⟨i', rfl, h⟩ := ibVar_ok (vv := b) h
    have h0 := h
    have e0 := Nat.eq_of_beq_eq_true h0
    rw [e0]
  | sel r i ih1 =>
    intro b h
    obtain ⟨r', i', rfl, h⟩ := ibSel_ok (vv := b) h
    obtain ⟨h0, h⟩ := andB_ok h
    have h1 := h
    have e0 := Nat.eq_of_beq_eq_true h0
    have e1 := ih1 h1
    rw [e0, e1]
  | add a b ih0 ih1 =>
    intro b h
    obtain ⟨a', b', rfl, h⟩ := ibAdd_ok (vv := b) h
    obtain ⟨h0, h⟩ := andB_ok h
    have h1 := h
    have e0 := ih0 h0
    have e1 := ih1 h1
    rw [e0, e1]
  | sub a b ih0 ih1 =>
    intro b h
    obtain ⟨a', b', rfl, h⟩ := ibSub_ok (vv := b) h
    obtain ⟨h0, h⟩ := andB_ok h
    have h1 := h
    have e0 := ih0 h0
    have e1 := ih1 h1
    rw [e0, e1]
  | mul a b ih0 ih1 =>
    intro b h
    obtain ⟨a', b', rfl, h⟩ := ibMul_ok (vv := b) h
    obtain ⟨h0, h⟩ := andB_ok h
    have h1 := h
    have e0 := ih0 h0
    have e1 := ih1 h1
    rw [e0, e1]
  | quo a b ih0 ih1 =>
    intro b h
    obtain ⟨a', b', rfl, h⟩ := ibQuo_ok (vv := b) h
    obtain ⟨h0, h⟩ := andB_ok h
    have h1 := h
    have e0 := ih0 h0
    have e1 := ih1 h1
    rw [e0, e1]
  | rem a b ih0 ih1 =>
    intro b h
    obtain ⟨a', b', rfl, h⟩ := ibRem_ok (vv := b) h
    obtain ⟨h0, h⟩ := andB_ok h
    have h1 := h
    have e0 := ih0 h0
    have e1 := ih1 h1
    rw [e0, e1]
  | wrap k a ih1 =>
    intro b h
    obtain ⟨k', a', rfl, h⟩ := ibWrap_ok (vv := b) h
    obtain ⟨h0, h⟩ := andB_ok h
    have h1 := h
    have e0 := kindNo_eq h0
    have e1 := ih1 h1
    rw [e0, e1]
  | bit op k a b ih2 ih3 =>
    intro b h
    obtain ⟨op', k', a', b', rfl, h⟩ := ibBit_ok (vv := b) h
    obtain ⟨h0, h⟩ := andB_ok h
    obtain ⟨h1, h⟩ := andB_ok h
    obtain ⟨h2, h⟩ := andB_ok h
    have h3 := h
    have e0 := of_decide_eq_true h0
    have e1 := kindNo_eq h1
    have e2 := ih2 h2
    have e3 := ih3 h3
    rw [e0, e1, e2, e3]
  | shr a n ih0 =>
    intro b h
    obtain ⟨a', n', rfl, h⟩ := ibShr_ok (vv := b) h
    obtain ⟨h0, h⟩ := andB_ok h
    have h1 := h
    have e0 := ih0 h0
    have e1 := Nat.eq_of_beq_eq_true h1
    rw [e0, e1]
  | app f0 args ih1 =>
    intro b h
    obtain ⟨f0', args', rfl, h⟩ := ibApp_ok (vv := b) h
    obtain ⟨h0, h⟩ := andB_ok h
    have h1 := h
    have e0 := Nat.eq_of_beq_eq_true h0
    have e1 := ih1 h1
    rw [e0, e1]
  | arg a rest ih0 ih1 =>
    intro b h
    obtain ⟨a', rest', rfl, h⟩ := ibArg_ok (vv := b) h
    obtain ⟨h0, h⟩ := andB_ok h
    have h1 := h
    have e0 := ih0 h0
    have e1 := ih1 h1
    rw [e0, e1]
  | noarg  =>
    intro b h
    obtain ⟨rfl, _⟩ := ibNoarg_ok (vv := b) h
    rfl
  | ite k a b x y ih1 ih2 ih3 ih4 =>
    intro b h
    obtain ⟨k', a', b', x', y', rfl, h⟩ := ibIte_ok (vv := b) h
    obtain ⟨h0, h⟩ := andB_ok h
    obtain ⟨h1, h⟩ := andB_ok h
    obtain ⟨h2, h⟩ := andB_ok h
    obtain ⟨h3, h⟩ := andB_ok h
    have h4 := h
    have e0 := bEq_ok h0
    have e1 := ih1 h1
    have e2 := ih2 h2
    have e3 := ih3 h3
    have e4 := ih4 h4
    rw [e0, e1, e2, e3, e4]
  | bv i =>
    intro b h
    obtain ⟨i', rfl, h⟩ := ibBv_ok (vv := b) h
    have h0 := h
    have e0 := Nat.eq_of_beq_eq_true h0
    rw [e0]
noncomputable def bbLit (vv : BE) (g : Bool → Bool) : Bool := BE.rec (motive := fun _ => (Bool → Bool) → Bool) (fun b g => g b) (fun _ _ => false) (fun _ _ _ => false) (fun _ _ _ => false) (fun _ _ _ => false) vv g
theorem bbLit_ok {vv : BE} {g : Bool → Bool} (h : bbLit vv g = true) : ∃ b, vv = .lit b ∧ g b = true := by cases vv <;> first | exact ⟨_, rfl, h⟩ | cases h
noncomputable def bbVar (vv : BE) (g : Nat → Bool) : Bool := BE.rec (motive := fun _ => (Nat → Bool) → Bool) (fun _ _ => false) (fun i g => g i) (fun _ _ _ => false) (fun _ _ _ => false) (fun _ _ _ => false) vv g
theorem bbVar_ok {vv : BE} {g : Nat → Bool} (h : bbVar vv g = true) : ∃ i, vv = .var i ∧ g i = true := by cases vv <;> first | exact ⟨_, rfl, h⟩ | cases h
noncomputable def bbLt (vv : BE) (g : IE → IE → Bool) : Bool := BE.rec (motive := fun _ => (IE → IE → Bool) → Bool) (fun _ _ => false) (fun _ _ => false) (fun a b g => g a b) (fun _ _ _ => false) (fun _ _ _ => false) vv g
theorem bbLt_ok {vv : BE} {g : IE → IE → Bool} (h : bbLt vv g = true) : ∃ a b, vv = .lt a b ∧ g a b = true := by cases vv <;> first | exact ⟨_, _, rfl, h⟩ | cases h
noncomputable def bbEq (vv : BE) (g : IE → IE → Bool) : Bool := BE.rec (motive := fun _ => (IE → IE → Bool) → Bool) (fun _ _ => false) (fun _ _ => false) (fun _ _ _ => false) (fun a b g => g a b) (fun _ _ _ => false) vv g
theorem bbEq_ok {vv : BE} {g : IE → IE → Bool} (h : bbEq vv g = true) : ∃ a b, vv = .eq a b ∧ g a b = true := by cases vv <;> first | exact ⟨_, _, rfl, h⟩ | cases h
noncomputable def bbNot (vv : BE) (g : BE → Bool) : Bool := BE.rec (motive := fun _ => (BE → Bool) → Bool) (fun _ _ => false) (fun _ _ => false) (fun _ _ _ => false) (fun _ _ _ => false) (fun a _ g => g a) vv g
theorem bbNot_ok {vv : BE} {g : BE → Bool} (h : bbNot vv g = true) : ∃ a, vv = .not a ∧ g a = true := by cases vv <;> first | exact ⟨_, rfl, h⟩ | cases h
noncomputable def beEq (a : BE) : BE → Bool := BE.rec (motive := fun _ => BE → Bool) (fun b ee => bbLit ee (fun b' => bEq b b')) (fun i ee => bbVar ee (fun i' => Nat.beq i i')) (fun a b ee => bbLt ee (fun a' b' => andB (ieEq a a') (ieEq b b'))) (fun a b ee => bbEq ee (fun a' b' => andB (ieEq a a') (ieEq b b'))) (fun _a ih0 ee => bbNot ee (fun a' => ih0 a')) a
theorem beEq_ok : ∀ {a b : BE}, beEq a b = true → a = b := by
  intro a
  induction a with
  | lit b =>
    intro b h
    obtain ⟨b', rfl, h⟩ := bbLit_ok (vv := b) h
    have h0 := h
    have e0 := bEq_ok h0
    rw [e0]
  | var i =>
    intro b h
    obtain ⟨i', rfl, h⟩ := bbVar_ok (vv := b) h
    have h0 := h
    have e0 := Nat.eq_of_beq_eq_true h0
    rw [e0]
  | lt a b =>
    intro b h
    obtain ⟨a', b', rfl, h⟩ := bbLt_ok (vv := b) h
    obtain ⟨h0, h⟩ := andB_ok h
    have h1 := h
    have e0 := ieEq_ok h0
    have e1 := ieEq_ok h1
    rw [e0, e1]
  | eq a b =>
    intro b h
    obtain ⟨a', b', rfl, h⟩ := bbEq_ok (vv := b) h
    obtain ⟨h0, h⟩ := andB_ok h
    have h1 := h
    have e0 := ieEq_ok h0
    have e1 := ieEq_ok h1
    rw [e0, e1]
  | not a ih0 =>
    intro b h
    obtain ⟨a', rfl, h⟩ := bbNot_ok (vv := b) h
    have h0 := h
    have e0 := ih0 h0
    rw [e0]
noncomputable def vbUndef (vv : SV) (g : Bool) : Bool := SV.rec (motive := fun _ => (Bool) → Bool) (fun g => g) (fun _ _ => false) (fun _ _ _ => false) (fun _ _ => false) (fun _ => false) (fun _ _ _ _ => false) (fun _ => false) (fun _ _ _ _ _ _ => false) (fun _ _ _ _ => false) (fun _ => false) (fun _ _ _ _ => false) (fun _ => false) (fun _ _ _ => false) (fun _ _ _ => false) (fun _ => false) (fun _ _ _ _ _ => false) (fun _ _ _ _ _ _ => false) (fun _ _ _ _ _ => false) (fun _ _ _ _ => false) vv g
theorem vbUndef_ok {vv : SV} {g : Bool} (h : vbUndef vv g = true) : vv = .undef ∧ g = true := by cases vv <;> first | exact ⟨rfl, h⟩ | cases h
noncomputable def vbOpq (vv : SV) (g : Nat → Bool) : Bool := SV.rec (motive := fun _ => (Nat → Bool) → Bool) (fun _ => false) (fun j g => g j) (fun _ _ _ => false) (fun _ _ => false) (fun _ => false) (fun _ _ _ _ => false) (fun _ => false) (fun _ _ _ _ _ _ => false) (fun _ _ _ _ => false) (fun _ => false) (fun _ _ _ _ => false) (fun _ => false) (fun _ _ _ => false) (fun _ _ _ => false) (fun _ => false) (fun _ _ _ _ _ => false) (fun _ _ _ _ _ _ => false) (fun _ _ _ _ _ => false) (fun _ _ _ _ => false) vv g
theorem vbOpq_ok {vv : SV} {g : Nat → Bool} (h : vbOpq vv g = true) : ∃ j, vv = .opq j ∧ g j = true := by cases vv <;> first | exact ⟨_, rfl, h⟩ | cases h
noncomputable def vbInt (vv : SV) (g : IntKind → IE → Bool) : Bool := SV.rec (motive := fun _ => (IntKind → IE → Bool) → Bool) (fun _ => false) (fun _ _ => false) (fun k e g => g k e) (fun _ _ => false) (fun _ => false) (fun _ _ _ _ => false) (fun _ => false) (fun _ _ _ _ _ _ => false) (fun _ _ _ _ => false) (fun _ => false) (fun _ _ _ _ => false) (fun _ => false) (fun _ _ _ => false) (fun _ _ _ => false) (fun _ => false) (fun _ _ _ _ _ => false) (fun _ _ _ _ _ _ => false) (fun _ _ _ _ _ => false) (fun _ _ _ _ => false) vv g
theorem vbInt_ok {vv : SV} {g : IntKind → IE → Bool} (h : vbInt vv g = true) : ∃ k e, vv = .int k e ∧ g k e = true := by cases vv <;> first | exact ⟨_, _, rfl, h⟩ | cases h
noncomputable def vbBool (vv : SV) (g : BE → Bool) : Bool := SV.rec (motive := fun _ => (BE → Bool) → Bool) (fun _ => false) (fun _ _ => false) (fun _ _ _ => false) (fun b g => g b) (fun _ => false) (fun _ _ _ _ => false) (fun _ => false) (fun _ _ _ _ _ _ => false) (fun _ _ _ _ => false) (fun _ => false) (fun _ _ _ _ => false) (fun _ => false) (fun _ _ _ => false) (fun _ _ _ => false) (fun _ => false) (fun _ _ _ _ _ => false) (fun _ _ _ _ _ _ => false) (fun _ _ _ _ _ => false) (fun _ _ _ _ => false) vv g
theorem vbBool_ok {vv : SV} {g : BE → Bool} (h : vbBool vv g = true) : ∃ b, vv = .bool b ∧ g b = true := by cases vv <;> first | exact ⟨_, rfl, h⟩ | cases h
noncomputable def vbNilp (vv : SV) (g : Bool) : Bool := SV.rec (motive := fun _ => (Bool) → Bool) (fun _ => false) (fun _ _ => false) (fun _ _ _ => false) (fun _ _ => false) (fun g => g) (fun _ _ _ _ => false) (fun _ => false) (fun _ _ _ _ _ _ => false) (fun _ _ _ _ => false) (fun _ => false) (fun _ _ _ _ => false) (fun _ => false) (fun _ _ _ => false) (fun _ _ _ => false) (fun _ => false) (fun _ _ _ _ _ => false) (fun _ _ _ _ _ _ => false) (fun _ _ _ _ _ => false) (fun _ _ _ _ => false) vv g
theorem vbNilp_ok {vv : SV} {g : Bool} (h : vbNilp vv g = true) : vv = .nilp ∧ g = true := by cases vv <;> first | exact ⟨rfl, h⟩ | cases h
noncomputable def vbPtr (vv : SV) (g : Nat → Nat → IE → Bool) : Bool := SV.rec (motive := fun _ => (Nat → Nat → IE → Bool) → Bool) (fun _ => false) (fun _ _ => false) (fun _ _ _ => false) (fun _ _ => false) (fun _ => false) (fun s k off g => g s k off) (fun _ => false) (fun _ _ _ _ _ _ => false) (fun _ _ _ _ => false) (fun _ => false) (fun _ _ _ _ => false) (fun _ => false) (fun _ _ _ => false) (fun _ _ _ => false) (fun _ => false) (fun _ _ _ _ _ => false) (fun _ _ _ _ _ _ => false) (fun _ _ _ _ _ => false) (fun _ _ _ _ => false) vv g
theorem vbPtr_ok {vv : SV} {g : Nat → Nat → IE → Bool} (h : vbPtr vv g = true) : ∃ s k off, vv = .ptr s k off ∧ g s k off = true := by cases vv <;> first | exact ⟨_, _, _, rfl, h⟩ | cases h
noncomputable def vbNils (vv : SV) (g : Bool) : Bool := SV.rec (motive := fun _ => (Bool) → Bool) (fun _ => false) (fun _ _ => false) (fun _ _ _ => false) (fun _ _ => false) (fun _ => false) (fun _ _ _ _ => false) (fun g => g) (fun _ _ _ _ _ _ => false) (fun _ _ _ _ => false) (fun _ => false) (fun _ _ _ _ => false) (fun _ => false) (fun _ _ _ => false) (fun _ _ _ => false) (fun _ => false) (fun _ _ _ _ _ => false) (fun _ _ _ _ _ _ => false) (fun _ _ _ _ _ => false) (fun _ _ _ _ => false) vv g
theorem vbNils_ok {vv : SV} {g : Bool} (h : vbNils vv g = true) : vv = .nils ∧ g = true := by cases vv <;> first | exact ⟨rfl, h⟩ | cases h
noncomputable def vbSli (vv : SV) (g : Nat → Nat → IE → IE → IE → Bool) : Bool := SV.rec (motive := fun _ => (Nat → Nat → IE → IE → IE → Bool) → Bool) (fun _ => false) (fun _ _ => false) (fun _ _ _ => false) (fun _ _ => false) (fun _ => false) (fun _ _ _ _ => false) (fun _ => false) (fun s k off len cap g => g s k off len cap) (fun _ _ _ _ => false) (fun _ => false) (fun _ _ _ _ => false) (fun _ => false) (fun _ _ _ => false) (fun _ _ _ => false) (fun _ => false) (fun _ _ _ _ _ => false) (fun _ _ _ _ _ _ => false) (fun _ _ _ _ _ => false) (fun _ _ _ _ => false) vv g
theorem vbSli_ok {vv : SV} {g : Nat → Nat → IE → IE → IE → Bool} (h : vbSli vv g = true) : ∃ s k off len cap, vv = .sli s k off len cap ∧ g s k off len cap = true := by cases vv <;> first | exact ⟨_, _, _, _, _, rfl, h⟩ | cases h
noncomputable def vbFn (vv : SV) (g : Nat → SV → Bool) : Bool := SV.rec (motive := fun _ => (Nat → SV → Bool) → Bool) (fun _ => false) (fun _ _ => false) (fun _ _ _ => false) (fun _ _ => false) (fun _ => false) (fun _ _ _ _ => false) (fun _ => false) (fun _ _ _ _ _ _ => false) (fun i caps _ g => g i caps) (fun _ => false) (fun _ _ _ _ => false) (fun _ => false) (fun _ _ _ => false) (fun _ _ _ => false) (fun _ => false) (fun _ _ _ _ _ => false) (fun _ _ _ _ _ _ => false) (fun _ _ _ _ _ => false) (fun _ _ _ _ => false) vv g
theorem vbFn_ok {vv : SV} {g : Nat → SV → Bool} (h : vbFn vv g = true) : ∃ i caps, vv = .fn i caps ∧ g i caps = true := by cases vv <;> first | exact ⟨_, _, rfl, h⟩ | cases h
noncomputable def vbNilf (vv : SV) (g : Bool) : Bool := SV.rec (motive := fun _ => (Bool) → Bool) (fun _ => false) (fun _ _ => false) (fun _ _ _ => false) (fun _ _ => false) (fun _ => false) (fun _ _ _ _ => false) (fun _ => false) (fun _ _ _ _ _ _ => false) (fun _ _ _ _ => false) (fun g => g) (fun _ _ _ _ => false) (fun _ => false) (fun _ _ _ => false) (fun _ _ _ => false) (fun _ => false) (fun _ _ _ _ _ => false) (fun _ _ _ _ _ _ => false) (fun _ _ _ _ _ => false) (fun _ _ _ _ => false) vv g
theorem vbNilf_ok {vv : SV} {g : Bool} (h : vbNilf vv g = true) : vv = .nilf ∧ g = true := by cases vv <;> first | exact ⟨rfl, h⟩ | cases h
noncomputable def vbIfc (vv : SV) (g : Nat → SV → Bool) : Bool := SV.rec (motive := fun _ => (Nat → SV → Bool) → Bool) (fun _ => false) (fun _ _ => false) (fun _ _ _ => false) (fun _ _ => false) (fun _ => false) (fun _ _ _ _ => false) (fun _ => false) (fun _ _ _ _ _ _ => false) (fun _ _ _ _ => false) (fun _ => false) (fun t v _ g => g t v) (fun _ => false) (fun _ _ _ => false) (fun _ _ _ => false) (fun _ => false) (fun _ _ _ _ _ => false) (fun _ _ _ _ _ _ => false) (fun _ _ _ _ _ => false) (fun _ _ _ _ => false) vv g
theorem vbIfc_ok {vv : SV} {g : Nat → SV → Bool} (h : vbIfc vv g = true) : ∃ t v, vv = .ifc t v ∧ g t v = true := by cases vv <;> first | exact ⟨_, _, rfl, h⟩ | cases h
noncomputable def vbNili (vv : SV) (g : Bool) : Bool := SV.rec (motive := fun _ => (Bool) → Bool) (fun _ => false) (fun _ _ => false) (fun _ _ _ => false) (fun _ _ => false) (fun _ => false) (fun _ _ _ _ => false) (fun _ => false) (fun _ _ _ _ _ _ => false) (fun _ _ _ _ => false) (fun _ => false) (fun _ _ _ _ => false) (fun g => g) (fun _ _ _ => false) (fun _ _ _ => false) (fun _ => false) (fun _ _ _ _ _ => false) (fun _ _ _ _ _ _ => false) (fun _ _ _ _ _ => false) (fun _ _ _ _ => false) vv g
theorem vbNili_ok {vv : SV} {g : Bool} (h : vbNili vv g = true) : vv = .nili ∧ g = true := by cases vv <;> first | exact ⟨rfl, h⟩ | cases h
noncomputable def vbAgg (vv : SV) (g : SV → Bool) : Bool := SV.rec (motive := fun _ => (SV → Bool) → Bool) (fun _ => false) (fun _ _ => false) (fun _ _ _ => false) (fun _ _ => false) (fun _ => false) (fun _ _ _ _ => false) (fun _ => false) (fun _ _ _ _ _ _ => false) (fun _ _ _ _ => false) (fun _ => false) (fun _ _ _ _ => false) (fun _ => false) (fun cs _ g => g cs) (fun _ _ _ => false) (fun _ => false) (fun _ _ _ _ _ => false) (fun _ _ _ _ _ _ => false) (fun _ _ _ _ _ => false) (fun _ _ _ _ => false) vv g
theorem vbAgg_ok {vv : SV} {g : SV → Bool} (h : vbAgg vv g = true) : ∃ cs, vv = .agg cs ∧ g cs = true := by cases vv <;> first | exact ⟨_, rfl, h⟩ | cases h
noncomputable def vbTup (vv : SV) (g : SV → Bool) : Bool := SV.rec (motive := fun _ => (SV → Bool) → Bool) (fun _ => false) (fun _ _ => false) (fun _ _ _ => false) (fun _ _ => false) (fun _ => false) (fun _ _ _ _ => false) (fun _ => false) (fun _ _ _ _ _ _ => false) (fun _ _ _ _ => false) (fun _ => false) (fun _ _ _ _ => false) (fun _ => false) (fun _ _ _ => false) (fun cs _ g => g cs) (fun _ => false) (fun _ _ _ _ _ => false) (fun _ _ _ _ _ _ => false) (fun _ _ _ _ _ => false) (fun _ _ _ _ => false) vv g
theorem vbTup_ok {vv : SV} {g : SV → Bool} (h : vbTup vv g = true) : ∃ cs, vv = .tup cs ∧ g cs = true := by cases vv <;> first | exact ⟨_, rfl, h⟩ | cases h
noncomputable def vbNil (vv : SV) (g : Bool) : Bool := SV.rec (motive := fun _ => (Bool) → Bool) (fun _ => false) (fun _ _ => false) (fun _ _ _ => false) (fun _ _ => false) (fun _ => false) (fun _ _ _ _ => false) (fun _ => false) (fun _ _ _ _ _ _ => false) (fun _ _ _ _ => false) (fun _ => false) (fun _ _ _ _ => false) (fun _ => false) (fun _ _ _ => false) (fun _ _ _ => false) (fun g => g) (fun _ _ _ _ _ => false) (fun _ _ _ _ _ _ => false) (fun _ _ _ _ _ => false) (fun _ _ _ _ => false) vv g
theorem vbNil_ok {vv : SV} {g : Bool} (h : vbNil vv g = true) : vv = .nil ∧ g = true := by cases vv <;> first | exact ⟨rfl, h⟩ | cases h
noncomputable def vbCons (vv : SV) (g : SV → SV → Bool) : Bool := SV.rec (motive := fun _ => (SV → SV → Bool) → Bool) (fun _ => false) (fun _ _ => false) (fun _ _ _ => false) (fun _ _ => false) (fun _ => false) (fun _ _ _ _ => false) (fun _ => false) (fun _ _ _ _ _ _ => false) (fun _ _ _ _ => false) (fun _ => false) (fun _ _ _ _ => false) (fun _ => false) (fun _ _ _ => false) (fun _ _ _ => false) (fun _ => false) (fun a b _ _ g => g a b) (fun _ _ _ _ _ _ => false) (fun _ _ _ _ _ => false) (fun _ _ _ _ => false) vv g
theorem vbCons_ok {vv : SV} {g : SV → SV → Bool} (h : vbCons vv g = true) : ∃ a b, vv = .cons a b ∧ g a b = true := by cases vv <;> first | exact ⟨_, _, rfl, h⟩ | cases h
noncomputable def vbArr (vv : SV) (g : IntKind → Nat → IE → SV → Bool) : Bool := SV.rec (motive := fun _ => (IntKind → Nat → IE → SV → Bool) → Bool) (fun _ => false) (fun _ _ => false) (fun _ _ _ => false) (fun _ _ => false) (fun _ => false) (fun _ _ _ _ => false) (fun _ => false) (fun _ _ _ _ _ _ => false) (fun _ _ _ _ => false) (fun _ => false) (fun _ _ _ _ => false) (fun _ => false) (fun _ _ _ => false) (fun _ _ _ => false) (fun _ => false) (fun _ _ _ _ _ => false) (fun k r n ws _ g => g k r n ws) (fun _ _ _ _ _ => false) (fun _ _ _ _ => false) vv g
theorem vbArr_ok {vv : SV} {g : IntKind → Nat → IE → SV → Bool} (h : vbArr vv g = true) : ∃ k r n ws, vv = .arr k r n ws ∧ g k r n ws = true := by cases vv <;> first | exact ⟨_, _, _, _, rfl, h⟩ | cases h
noncomputable def vbWr (vv : SV) (g : IE → IE → SV → Bool) : Bool := SV.rec (motive := fun _ => (IE → IE → SV → Bool) → Bool) (fun _ => false) (fun _ _ => false) (fun _ _ _ => false) (fun _ _ => false) (fun _ => false) (fun _ _ _ _ => false) (fun _ => false) (fun _ _ _ _ _ _ => false) (fun _ _ _ _ => false) (fun _ => false) (fun _ _ _ _ => false) (fun _ => false) (fun _ _ _ => false) (fun _ _ _ => false) (fun _ => false) (fun _ _ _ _ _ => false) (fun _ _ _ _ _ _ => false) (fun i x ws _ g => g i x ws) (fun _ _ _ _ => false) vv g
theorem vbWr_ok {vv : SV} {g : IE → IE → SV → Bool} (h : vbWr vv g = true) : ∃ i x ws, vv = .wr i x ws ∧ g i x ws = true := by cases vv <;> first | exact ⟨_, _, _, rfl, h⟩ | cases h
noncomputable def vbRep (vv : SV) (g : SV → IE → Bool) : Bool := SV.rec (motive := fun _ => (SV → IE → Bool) → Bool) (fun _ => false) (fun _ _ => false) (fun _ _ _ => false) (fun _ _ => false) (fun _ => false) (fun _ _ _ _ => false) (fun _ => false) (fun _ _ _ _ _ _ => false) (fun _ _ _ _ => false) (fun _ => false) (fun _ _ _ _ => false) (fun _ => false) (fun _ _ _ => false) (fun _ _ _ => false) (fun _ => false) (fun _ _ _ _ _ => false) (fun _ _ _ _ _ _ => false) (fun _ _ _ _ _ => false) (fun c n _ g => g c n) vv g
theorem vbRep_ok {vv : SV} {g : SV → IE → Bool} (h : vbRep vv g = true) : ∃ c n, vv = .rep c n ∧ g c n = true := by cases vv <;> first | exact ⟨_, _, rfl, h⟩ | cases h
noncomputable def svEq (a : SV) : SV → Bool := SV.rec (motive := fun _ => SV → Bool) (fun ee => vbUndef ee true) (fun j ee => vbOpq ee (fun j' => Nat.beq j j')) (fun k e ee => vbInt ee (fun k' e' => andB (Nat.beq (kindNo k) (kindNo k')) (ieEq e e'))) (fun b ee => vbBool ee (fun b' => beEq b b')) (fun ee => vbNilp ee true) (fun s k off ee => vbPtr ee (fun s' k' off' => andB (Nat.beq s s') (andB (Nat.beq k k') (ieEq off off')))) (fun ee => vbNils ee true) (fun s k off len cap ee => vbSli ee (fun s' k' off' len' cap' => andB (Nat.beq s s') (andB (Nat.beq k k') (andB (ieEq off off') (andB (ieEq len len') (ieEq cap cap')))))) (fun i _caps ih1 ee => vbFn ee (fun i' caps' => andB (Nat.beq i i') (ih1 caps'))) (fun ee => vbNilf ee true) (fun t _v ih1 ee => vbIfc ee (fun t' v' => andB (Nat.beq t t') (ih1 v'))) (fun ee => vbNili ee true) (fun _cs ih0 ee => vbAgg ee (fun cs' => ih0 cs')) (fun _cs ih0 ee => vbTup ee (fun cs' => ih0 cs')) (fun ee => vbNil ee true) (fun _a _b ih0 ih1 ee => vbCons ee (fun a' b' => andB (ih0 a') (ih1 b'))) (fun k r n _ws ih3 ee => vbArr ee (fun k' r' n' ws' => andB (Nat.beq (kindNo k) (kindNo k')) (andB (Nat.beq r r') (andB (ieEq n n') (ih3 ws'))))) (fun i x _ws ih2 ee => vbWr ee (fun i' x' ws' => andB (ieEq i i') (andB (ieEq x x') (ih2 ws')))) (fun _c n ih0 ee => vbRep ee (fun c' n' => andB (ih0 c') (ieEq n n'))) a
theorem svEq_ok : ∀ {a b : SV}, svEq a b = true → a = b := by
  intro a
  induction a with
  | undef  =>
    intro b h
    obtain ⟨rfl, _⟩ := vbUndef_ok (vv := b) h
    rfl
  | opq j =>
    intro b h
    obtain ⟨j', rfl, h⟩ := vbOpq_ok (vv := b) h
    have h0 := h
    have e0 := Nat.eq_of_beq_eq_true h0
    rw [e0]
  | int k e =>
    intro b h
    obtain ⟨k', e', rfl, h⟩ := vbInt_ok (vv := b) h
    obtain ⟨h0, h⟩ := andB_ok h
    have h1 := h
    have e0 := kindNo_eq h0
    have e1 := ieEq_ok h1
    rw [e0, e1]
  | bool b =>
    intro b h
    obtain ⟨b', rfl, h⟩ := vbBool_ok (vv := b) h
    have h0 := h
    have e0 := beEq_ok h0
    rw [e0]
  | nilp  =>
    intro b h
    obtain ⟨rfl, _⟩ := vbNilp_ok (vv := b) h
    rfl
  | ptr s k off =>
    intro b h
    obtain ⟨s', k', off', rfl, h⟩ := vbPtr_ok (vv := b) h
    obtain ⟨h0, h⟩ := andB_ok h
    obtain ⟨h1, h⟩ := andB_ok h
    have h2 := h
    have e0 := Nat.eq_of_beq_eq_true h0
    have e1 := Nat.eq_of_beq_eq_true h1
    have e2 := ieEq_ok h2
    rw [e0, e1, e2]
  | nils  =>
    intro b h
    obtain ⟨rfl, _⟩ := vbNils_ok (vv := b) h
    rfl
  | sli s k off len cap =>
    intro b h
    obtain ⟨s', k', off', len', cap', rfl, h⟩ := vbSli_ok (vv := b) h
    obtain ⟨h0, h⟩ := andB_ok h
    obtain ⟨h1, h⟩ := andB_ok h
    obtain ⟨h2, h⟩ := andB_ok h
    obtain ⟨h3, h⟩ := andB_ok h
    have h4 := h
    have e0 := Nat.eq_of_beq_eq_true h0
    have e1 := Nat.eq_of_beq_eq_true h1
    have e2 := ieEq_ok h2
    have e3 := ieEq_ok h3
    have e4 := ieEq_ok h4
    rw [e0, e1, e2, e3, e4]
  | fn i caps ih1 =>
    intro b h
    obtain ⟨i', caps', rfl, h⟩ := vbFn_ok (vv := b) h
    obtain ⟨h0, h⟩ := andB_ok h
    have h1 := h
    have e0 := Nat.eq_of_beq_eq_true h0
    have e1 := ih1 h1
    rw [e0, e1]
  | nilf  =>
    intro b h
    obtain ⟨rfl, _⟩ := vbNilf_ok (vv := b) h
    rfl
  | ifc t v ih1 =>
    intro b h
    obtain ⟨t', v', rfl, h⟩ := vbIfc_ok (vv := b) h
    obtain ⟨h0, h⟩ := andB_ok h
    have h1 := h
    have e0 := Nat.eq_of_beq_eq_true h0
    have e1 := ih1 h1
    rw [e0, e1]
  | nili  =>
    intro b h
    obtain ⟨rfl, _⟩ := vbNili_ok (vv := b) h
    rfl
  | agg cs ih0 =>
    intro b h
    obtain ⟨cs', rfl, h⟩ := vbAgg_ok (vv := b) h
    have h0 := h
    have e0 := ih0 h0
    rw [e0]
  | tup cs ih0 =>
    intro b h
    obtain ⟨cs', rfl, h⟩ := vbTup_ok (vv := b) h
    have h0 := h
    have e0 := ih0 h0
    rw [e0]
  | nil  =>
    intro b h
    obtain ⟨rfl, _⟩ := vbNil_ok (vv := b) h
    rfl
  | cons a b ih0 ih1 =>
    intro b h
    obtain ⟨a', b', rfl, h⟩ := vbCons_ok (vv := b) h
    obtain ⟨h0, h⟩ := andB_ok h
    have h1 := h
    have e0 := ih0 h0
    have e1 := ih1 h1
    rw [e0, e1]
  | arr k r n ws ih3 =>
    intro b h
    obtain ⟨k', r', n', ws', rfl, h⟩ := vbArr_ok (vv := b) h
    obtain ⟨h0, h⟩ := andB_ok h
    obtain ⟨h1, h⟩ := andB_ok h
    obtain ⟨h2, h⟩ := andB_ok h
    have h3 := h
    have e0 := kindNo_eq h0
    have e1 := Nat.eq_of_beq_eq_true h1
    have e2 := ieEq_ok h2
    have e3 := ih3 h3
    rw [e0, e1, e2, e3]
  | wr i x ws ih2 =>
    intro b h
    obtain ⟨i', x', ws', rfl, h⟩ := vbWr_ok (vv := b) h
    obtain ⟨h0, h⟩ := andB_ok h
    obtain ⟨h1, h⟩ := andB_ok h
    have h2 := h
    have e0 := ieEq_ok h0
    have e1 := ieEq_ok h1
    have e2 := ih2 h2
    rw [e0, e1, e2]
  | rep c n ih0 =>
    intro b h
    obtain ⟨c', n', rfl, h⟩ := vbRep_ok (vv := b) h
    obtain ⟨h0, h⟩ := andB_ok h
    have h1 := h
    have e0 := ih0 h0
    have e1 := ieEq_ok h1
    rw [e0, e1]
/- knowledge -/
noncomputable def factEq (f g : Fact) : Bool := andB (ieEq f.1 g.1) (andB (zEq f.2.1 g.2.1) (zEq f.2.2 g.2.2))
theorem factEq_ok {f g : Fact} (h : factEq f g = true) : f = g := by
  obtain ⟨h1, h⟩ := andB_ok h
  obtain ⟨h2, h3⟩ := andB_ok h
  obtain ⟨a, b, c⟩ := f
  obtain ⟨a', b', c'⟩ := g
  have e1 := ieEq_ok h1
  have e2 := zEq_ok h2
  have e3 := zEq_ok h3
  dsimp only at e1 e2 e3
  rw [e1, e2, e3]
noncomputable def listEq {α : Type} (eq : α → α → Bool) (a : List α) : List α → Bool :=
  List.rec (motive := fun _ => List α → Bool) (fun b => List.rec (motive := fun _ => Bool) true (fun _ _ _ => false) b)
    (fun x _ ih b => List.rec (motive := fun _ => α → (List α → Bool) → Bool) (fun _ _ => false) (fun y r _ x ih => andB (eq x y) (ih r)) b x ih) a
theorem listEq_ok {α : Type} {eq : α → α → Bool} (he : ∀ {x y}, eq x y = true → x = y) : ∀ {a b : List α}, listEq eq a b = true → a = b
  | [], [], _ => rfl
  | [], _ :: _, h => by cases h
  | _ :: _, [], h => by cases h
  | x :: a, y :: b, h => by
    obtain ⟨h1, h2⟩ := andB_ok (show andB (eq x y) (listEq eq a b) = true from h)
    rw [he h1, listEq_ok he h2]
noncomputable def knEq (a b : Know) : Bool := andB (listEq beEq a.conds b.conds) (listEq factEq a.facts b.facts)
theorem knEq_ok {a b : Know} (h : knEq a b = true) : a = b := by
  obtain ⟨h1, h2⟩ := andB_ok h
  obtain ⟨fa, ca⟩ := a
  obtain ⟨fb, cb⟩ := b
  have e1 := listEq_ok beEq_ok h1
  have e2 := listEq_ok factEq_ok h2
  dsimp only at e1 e2
  rw [e1, e2]
/- memories -/
noncomputable def entEq (a b : Ent) : Bool := Ent.rec (motive := fun _ => Ent → Bool) (fun s k ro t i c b => Ent.rec (motive := fun _ => Nat → Nat → Bool → Nat → IE → SV → Bool)
  (fun s' k' ro' t' i' c' s k ro t i c => andB (Nat.beq k k') (andB (Nat.beq s s') (andB (bEq ro ro') (andB (Nat.beq t t') (andB (ieEq i i') (svEq c c')))))) b s k ro t i c) a b
theorem entEq_ok {a b : Ent} (h : entEq a b = true) : a = b := by
  obtain ⟨s, k, ro, t, i, c⟩ := a
  obtain ⟨s', k', ro', t', i', c'⟩ := b
  obtain ⟨h1, h⟩ := andB_ok h
  obtain ⟨h2, h⟩ := andB_ok h
  obtain ⟨h3, h⟩ := andB_ok h
  obtain ⟨h4, h⟩ := andB_ok h
  obtain ⟨h5, h6⟩ := andB_ok h
  rw [Nat.eq_of_beq_eq_true h1, Nat.eq_of_beq_eq_true h2, bEq_ok h3, Nat.eq_of_beq_eq_true h4, ieEq_ok h5, svEq_ok h6]
noncomputable def memEq (a b : Mem) : Bool := Mem.rec (motive := fun _ => Mem → Bool) (fun kn h s n v b => Mem.rec (motive := fun _ => Know → List Ent → Nat → Nat → Nat → Bool)
  (fun kn' h' s' n' v' kn h s n v => andB (Nat.beq n n') (andB (Nat.beq s s') (andB (Nat.beq v v') (andB (listEq entEq h h') (knEq kn kn'))))) b kn h s n v) a b
theorem memEq_ok {a b : Mem} (h : memEq a b = true) : a = b := by
  obtain ⟨kn, hp, s, n, v⟩ := a
  obtain ⟨kn', hp', s', n', v'⟩ := b
  obtain ⟨h1, h⟩ := andB_ok h
  obtain ⟨h2, h⟩ := andB_ok h
  obtain ⟨h3, h⟩ := andB_ok h
  obtain ⟨h4, h5⟩ := andB_ok h
  rw [Nat.eq_of_beq_eq_true h1, Nat.eq_of_beq_eq_true h2, Nat.eq_of_beq_eq_true h3, listEq_ok entEq_ok h4, knEq_ok h5]
end Go.Sx
