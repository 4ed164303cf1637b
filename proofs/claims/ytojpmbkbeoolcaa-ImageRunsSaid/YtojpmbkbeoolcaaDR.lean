/- arguments as they come in. -/
import Derived.Test.YtojpmbkbeoolcaaP
namespace Go.Proofs.Ytojpmbkbeoolcaa
open Go.Sx Go Go.ChangeShapes Go.WideShapes Go.ChangeAt Go.RowKit Go.Deep
set_option maxRecDepth 100000
theorem own : ownKnob Try.prog.godebug = none := by kernel_rfl
theorem laidOut : laidOutB Try.prog = true := by kernel_rfl
theorem one_fact {E : Env} {f : Fact} (h : FactOk E f) : ∀ g ∈ [f], FactOk E g := fun g hg => by
 rcases List.mem_singleton.1 hg with rfl
 exact h
theorem cons_fact {E : Env} {f : Fact} {l : List Fact} (h : FactOk E f) (hl : ∀ g ∈ l, FactOk E g) : ∀ g ∈ f :: l, FactOk E g := fun g hg => by
 rcases List.mem_cons.1 hg with rfl | hg
 ·exact h
 ·exact hl g hg
structure SlIn (w : World) (z : Nat) (v : Value) (b o len cap : Nat) (zs : List Int) : Prop where
 val : v = .slice (some ⟨b, o, none⟩) len cap
 room : len ≤ cap
 max : cap ≤ maxLen
 block : b < w.heap.size
 size : zs.length = len * z
 nums : ∀ x ∈ zs, in64 x
 cells : ∀ j, j < zs.length → w.cell? ⟨b, o + j, none⟩ = some (.int .i64 (zs.getD j 0))
theorem len_in {len : Nat} (h : len ≤ maxLen) : in64 (len : Int) := by
 unfold maxLen at h
 unfold in64 lo64 hi64
 omega
theorem holds_of {w : World} {z : Nat} {v : Value} {b o len cap : Nat} {zs : List Int} (h : SlIn w z v b o len cap zs) (s of ln cp r : Nat) : SlArg.Holds ⟨s, of, ln, cp, r, z, b, o, len, cap, zs⟩ w := ⟨h.block, h.room, h.max, h.size, h.nums, h.cells⟩
section
variable {H : Type} {enc : TypeId × Value → H} {w : World} {base : Nat} {spare : Nat → Bool} {held : Bool} {r : Reach} {b0 : Nat}
theorem open_opsZ {v : Value} {d : DataW H} {p : List MemPlace} (k : Value.okWide Try.prog w r b0 41 v) (h : DataW.Trod enc Try.prog w base spare held 41 v d p) (hw : ∀ n ∈ d.weights Try.prog 41, n ≤ reachBytes) : v = .slice none 0 0 ∨ ∃ b o len cap zs, SlIn w 4 v b o len cap zs ∧ len ≤ 4398046510976 := by
 have hint : ∀ (j : Nat) (f : Field), (Try.prog.fieldsOf 72)[j]? = some f → Try.prog.underlying f.type = some (.int .i64) := by
  have e : (Try.prog.fieldsOf 72).all (fun f => isInt64 (Try.prog.underlying f.type)) = true := by kernel_rfl
  intro j f hj
  rw [Array.all_eq_true] at e
  obtain ⟨hj1, rfl⟩ := Array.getElem?_eq_some_iff.1 hj
  exact isInt64_eq (e j hj1)
 have hs4 : (Try.prog.fieldsOf 72).size = 4 := by kernel_rfl
 have hby : Try.prog.bytesOf 72 = 32 := by kernel_rfl
 have hu : Try.prog.underlying 41 = some (.slice 72) := by kernel_rfl
 rcases open_int_structs hu (show Try.prog.underlying 72 = some (.struct (Try.prog.fieldsOf 72)) by kernel_rfl) (by kernel_rfl) hint (by kernel_rfl) k h with rfl | ⟨b, o, len, cap, zs, rfl, ⟨elems, sp, rfl, hlen⟩, h1, h2, h3, h4, h5, h6⟩
 ·exact .inl rfl
 ·refine .inr ⟨b, o, len, cap, zs, ⟨rfl, h1, h2, h3, by rw [h4, hs4], h5, h6⟩, ?_⟩
  have hmem : (elems.length + sp.length) * Try.prog.bytesOf 72 ∈ DataW.weights Try.prog 41 (.slice elems sp) := by
   unfold DataW.weights
   rw [hu]
   exact List.mem_cons_self
  have := hw _ hmem
  rw [hby, hlen] at this
  unfold reachBytes at this
  omega
end
noncomputable def envL (w : World) (B : List Int) (I : List Bool) (rows ints : List (Nat × List Int)) (bases offs : List (Nat × Nat)) : Env := { envOf w [] ((1, B) :: rows) ints bases offs with b := fun j => I.getD (j - 20) false, f := G0 }
theorem envL_ok {w : World} {B : List Int} {I : List Bool} {rows ints : List (Nat × List Int)} {bases offs : List (Nat × Nat)} (h1 : ∀ z ∈ B, in64 z) (h2 : ∀ y ∈ rows, ∀ z ∈ y.2, in64 z) (h3 : ∀ y ∈ ints, ∀ z ∈ y.2, in64 z) : (envL w B I rows ints bases offs).Ok := by
 have h := envOf_ok (w := w) (cells := []) (rows := (1, B) :: rows) (ints := ints) (bases := bases) (offs := offs) (fun _ h => (by cases h)) (fun x hx z hz => by
  rcases List.mem_cons.1 hx with rfl | hx
  ·exact h1 z hz
  ·exact h2 x hx z hz) h3
 exact ⟨h.i, h.l, G0_in⟩
theorem one_in {n : Nat} {z : Int} {l : List (Nat × List Int)} (h : in64 z) (hl : ∀ y ∈ l, ∀ z ∈ y.2, in64 z) : ∀ y ∈ (n, [z]) :: l, ∀ z ∈ y.2, in64 z := fun y hy x hx => by
 rcases List.mem_cons.1 hy with rfl | hy
 ·rcases List.mem_singleton.1 hx with rfl
  exact h
 ·exact hl y hy x hx
theorem none_in : ∀ y ∈ ([] : List (Nat × List Int)), ∀ z ∈ y.2, in64 z := fun _ h => (by cases h)
theorem zero_in : in64 0 := by constructor <;> decide
end Go.Proofs.Ytojpmbkbeoolcaa
