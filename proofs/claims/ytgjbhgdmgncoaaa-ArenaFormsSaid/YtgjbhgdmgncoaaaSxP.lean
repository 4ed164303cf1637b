/- How a law's run is told. -/
import Derived.Test.YtgjbhgdmgncoaaaSxO
import Derived.Below
namespace Go.Sx
open Go Go.RowKit

/- loops' contracts, by function and block -/
abbrev LX := Nat × Nat × (Fr → X (SX × Fr))
noncomputable def bxOf (l : List LX) (f : Nat) : BX := fun id =>
  List.rec (motive := fun _ => Option (Fr → X (SX × Fr))) none (fun x _ ih => cond (Nat.beq x.1 f && Nat.beq x.2.1 id) (some x.2.2) ih) l
def LxOk (P : Program) (x : LX) : Prop := ∀ (fn : Func) (c : Code), P.funcs[x.1]? = some fn → fn.body = some c → ∀ c' ∈ blocksOf x.2.1 c, CodeOk P c' x.2.2
theorem bxOf_ok {P : Program} : ∀ {l : List LX}, (∀ x ∈ l, LxOk P x) → BxOk P (bxOf l) := by
  intro l h f fn c hf hc id sp hsp c' hc'
  induction l with
  | nil => cases hsp
  | cons x r ih =>
    have hsp' : cond (Nat.beq x.1 f && Nat.beq x.2.1 id) (some x.2.2) (bxOf r f id) = some sp := hsp
    cases hb : (Nat.beq x.1 f && Nat.beq x.2.1 id) with
    | true =>
      rw [hb] at hsp'
      cases hsp'
      simp only [Bool.and_eq_true] at hb
      have h1 := Nat.eq_of_beq_eq_true hb.1
      have h2 := Nat.eq_of_beq_eq_true hb.2
      exact h x List.mem_cons_self fn c (by rw [h1]; exact hf) hc c' (by rw [h2]; exact hc')
    | false =>
      rw [hb] at hsp'
      exact ih (fun y hy => h y (List.mem_cons_of_mem _ hy)) hsp'
theorem lx_ok {P : Program} {f id : Nat} {fn : Func} {c b : Code} {x : Fr → X (SX × Fr)} (hf : P.funcs[f]? = some fn) (hc : fn.body = some c) (hb : blocksOf id c = [.block id (.loop b)]) (hx : CodeOk P (.block id (.loop b)) x) : LxOk P (f, id, x) := by
  intro fn' c' hf' hc' d hd
  dsimp only at hf' hd ⊢
  rw [hf] at hf'
  cases hf'
  rw [hc] at hc'
  cases hc'
  rw [hb] at hd
  simp only [List.mem_cons, List.not_mem_nil, or_false] at hd
  rw [hd]; exact hx
def noCalls : CX := fun _ _ => X.none
theorem noCalls_ok (P : Program) : CallsOk P noCalls := by intro F w0 E f args m outs w h; cases h
theorem noBlocks_ok (P : Program) (c : Code) : BlocksOk P (fun _ => none) c := by intro id sp h; cases h
/- calls' contracts -/
abbrev SL := Nat × (List SV → X SV)
noncomputable def spOf (l : List SL) : Specs := fun f => List.rec (motive := fun _ => Option (List SV → X SV)) none (fun x _ ih => cond (Nat.beq x.1 f) (some x.2) ih) l
theorem spOf_ok {P : Program} : ∀ {l : List SL}, (∀ x ∈ l, SpecOk P x.1 x.2) → SpecsOk P (spOf l) := by
  intro l h f s hs
  induction l with
  | nil => cases hs
  | cons x r ih =>
    have hs' : cond (Nat.beq x.1 f) (some x.2) (spOf r f) = some s := hs
    cases hb : Nat.beq x.1 f with
    | true =>
      rw [hb] at hs'
      cases hs'
      have h1 := Nat.eq_of_beq_eq_true hb
      exact h1 ▸ h x List.mem_cons_self
    | false =>
      rw [hb] at hs'
      exact ih (fun y hy => h y (List.mem_cons_of_mem _ hy)) hs'
/-- a call by its contracts -/
theorem call_ok {P : Program} {T : Tab P} {sp : Specs} (hsp : SpecsOk P sp) {bx : Nat → BX} (hbx : BxOk P bx) (fuel d f : Nat) : SpecOk P f (fun args => callD T sp bx fuel d f args) :=
  fun F w0 E args m outs w ho hm => callD_ok hsp hbx fuel d F w0 E f args m outs w ho hm

def allOf {α : Type} (o : Option (List (α × Mem))) (p : α × Mem → Bool) : Bool :=
  match o with
  | some l => l.all p
  | none => false
theorem allOf_ok {α : Type} {o : Option (List (α × Mem))} {p : α × Mem → Bool} (h : allOf o p = true) : ∃ l, o = some l ∧ ∀ x ∈ l, p x = true := by
  unfold allOf at h
  split at h
  · exact ⟨_, rfl, List.all_eq_true.1 h⟩
  · cases h
def isTrue : SV × Mem → Bool := fun q => match q.1 with | .bool (.lit b) => b | _ => false
theorem law_ok {P : Program} {f : Nat} {s : List SV → X SV} (hs : SpecOk P f s) {args : List SV} {m : Mem} (hrun : allOf (s args m) isTrue = true) {E : Env} {w : World} (hm : MemOk (fun _ => False) w E m w) :
    Calls P f (args.map (dv E)).toArray w fun e w' => e = .returned (.bool true) ∧ Below w.heap.size w w' := by
  obtain ⟨outs, ho, hall⟩ := allOf_ok hrun
  refine (hs _ w E args m outs w ho hm).mono ?_
  rintro e w' ⟨q, hq, E', _, rfl, hm'⟩
  have h1 := hall q hq
  unfold isTrue at h1
  refine ⟨?_, ⟨hm'.ext.os, hm'.ext.tape, hm'.ext.output, hm'.ext.size, fun x hx => hm'.ext.block x hx (fun h => h)⟩⟩
  split at h1
  · rename_i b hb
    rw [hb]
    simp only [dv, dl, evB, List.headD_cons, h1]
  · cases h1

/- the first memory: nothing but numbers -/
def mem0 (nv : Nat) : Mem := { know := ⟨[], []⟩, heap := [], seg := 0, next := 0, nv }
def env0 (w : World) (xs : List Int) : Env where
  i k := xs.getD k 0
  b _ := false
  l _ := []
  base _ := w.heap.size
  o _ := 0
  v _ := .tuple #[]
  f _ _ := 0
theorem env0_ok {w : World} {xs : List Int} (h : ∀ x ∈ xs, in64 x) : (env0 w xs).Ok := by
  refine ⟨fun k => ?_, fun _ x hx => (by cases hx), fun _ _ => (by simp [env0, in64, lo64, hi64])⟩
  simp only [env0, List.getD_eq_getElem?_getD]
  cases hk : xs[k]? with
  | none => simp [in64, lo64, hi64]
  | some x => exact h x (List.mem_of_getElem? hk)
theorem mem0_ok {w : World} {xs : List Int} (h : ∀ x ∈ xs, in64 x) (nv : Nat) : MemOk (fun _ => False) w (env0 w xs) (mem0 nv) w :=
  ⟨⟨env0_ok h, fun _ hf => (by cases hf), fun _ hc => (by cases hc)⟩, rfl, fun _ he => (by cases he), List.Pairwise.nil, fun _ he => (by cases he), Ext.refl _ _, rfl⟩
end Go.Sx
