/- arguments as they come in. -/
import Derived.Test.YtdchpckikclmlaaA
namespace Go.Proofs.Ytdchpckikclmlaa
open Go.Sx Go Go.ChangeShapes Go.WideShapes Go.ChangeAt Go.RowKit Go.Deep
set_option maxRecDepth 100000
theorem own : ownKnob Try.prog.godebug = none := by kernel_rfl
theorem laidOut : laidOutB Try.prog = true := by kernel_rfl
theorem one_fact {E : Env} {f : Fact} (h : FactOk E f) : ∀ g ∈ [f], FactOk E g := fun g hg => by
 rcases List.mem_singleton.1 hg with rfl
 exact h
theorem cons_fact {E : Env} {f : Fact} {l : List Fact} (h : FactOk E f) (hl : ∀ g ∈ l, FactOk E g) : ∀ g ∈ f :: l, FactOk E g := fun g hg => by
 rcases List.mem_cons.1 hg with rfl | hg
 ·exact h
 ·exact hl g hg
structure SlIn (w : World) (z : Nat) (v : Value) (b o len cap : Nat) (zs : List Int) : Prop where
 val : v = .slice (some ⟨b, o, none⟩) len cap
 room : len ≤ cap
 max : cap ≤ maxLen
 block : b < w.heap.size
 size : zs.length = len * z
 nums : ∀ x ∈ zs, in64 x
 cells : ∀ j, j < zs.length → w.cell? ⟨b, o + j, none⟩ = some (.int .i64 (zs.getD j 0))
theorem len_in {len : Nat} (h : len ≤ maxLen) : in64 (len : Int) := by
 unfold maxLen at h
 unfold in64 lo64 hi64
 omega
section
variable {H : Type} {enc : TypeId × Value → H} {w : World} {base : Nat} {spare : Nat → Bool} {held : Bool} {r : Reach} {b0 : Nat}
theorem open_xs {v : Value} {d : DataW H} {p : List MemPlace} (k : Value.okWide Try.prog w r b0 22 v) (h : DataW.Trod enc Try.prog w base spare held 22 v d p) : v = .slice none 0 0 ∨ ∃ b o len cap zs, SlIn w 1 v b o len cap zs := by
 rcases open_int_slice (show Try.prog.underlying 22 = some (.slice 3) by kernel_rfl) (show Try.prog.underlying 3 = some (.int .i64) by kernel_rfl) (by kernel_rfl) k h with rfl | ⟨b, o, len, cap, zs, rfl, _, h1, h2, h3, h4, h5, h6⟩
 ·exact .inl rfl
 ·exact .inr ⟨b, o, len, cap, zs, rfl, h1, h2, h3, h4, h5, h6⟩
theorem open_ss {v : Value} {d : DataW H} {p : List MemPlace} (k : Value.okWide Try.prog w r b0 23 v) (h : DataW.Trod enc Try.prog w base spare held 23 v d p) : v = .slice none 0 0 ∨ ∃ b o len cap zs, SlIn w 3 v b o len cap zs := by
 have hint : ∀ (j : Nat) (f : Field), (Try.prog.fieldsOf 26)[j]? = some f → Try.prog.underlying f.type = some (.int .i64) := by
  have e : (Try.prog.fieldsOf 26).all (fun f => isInt64 (Try.prog.underlying f.type)) = true := by kernel_rfl
  intro j f hj
  rw [Array.all_eq_true] at e
  obtain ⟨hj1, rfl⟩ := Array.getElem?_eq_some_iff.1 hj
  exact isInt64_eq (e j hj1)
 have hs3 : (Try.prog.fieldsOf 26).size = 3 := by kernel_rfl
 rcases open_int_structs (show Try.prog.underlying 23 = some (.slice 26) by kernel_rfl) (show Try.prog.underlying 26 = some (.struct (Try.prog.fieldsOf 26)) by kernel_rfl) (by kernel_rfl) hint (by kernel_rfl) k h with rfl | ⟨b, o, len, cap, zs, rfl, _, h1, h2, h3, h4, h5, h6⟩
 ·exact .inl rfl
 ·rw [hs3] at h4
  exact .inr ⟨b, o, len, cap, zs, rfl, h1, h2, h3, h4, h5, h6⟩
end
theorem holds_of {w : World} {z : Nat} {v : Value} {b o len cap : Nat} {zs : List Int} (h : SlIn w z v b o len cap zs) (s of ln cp r : Nat) : SlArg.Holds ⟨s, of, ln, cp, r, z, b, o, len, cap, zs⟩ w := ⟨h.block, h.room, h.max, h.size, h.nums, h.cells⟩
theorem le_hi {len cap : Nat} (h : len ≤ cap) (hc : cap ≤ maxLen) : (len : Int) ≤ hi64 := by
 unfold maxLen at hc
 unfold hi64
 omega
noncomputable def envL (w : World) (rows ints : List (Nat × List Int)) (bases offs : List (Nat × Nat)) : Env := { envOf w [] rows ints bases offs with f := G0 }
theorem envL_ok {w : World} {rows ints : List (Nat × List Int)} {bases offs : List (Nat × Nat)} (h2 : ∀ y ∈ rows, ∀ z ∈ y.2, in64 z) (h3 : ∀ y ∈ ints, ∀ z ∈ y.2, in64 z) : (envL w rows ints bases offs).Ok := by
 have h := envOf_ok (w := w) (cells := []) (rows := rows) (ints := ints) (bases := bases) (offs := offs) (fun _ h => (by cases h)) h2 h3
 exact ⟨h.i, h.l, G0_in⟩
theorem one_in {n : Nat} {z : Int} {l : List (Nat × List Int)} (h : in64 z) (hl : ∀ y ∈ l, ∀ z ∈ y.2, in64 z) : ∀ y ∈ (n, [z]) :: l, ∀ z ∈ y.2, in64 z := fun y hy x hx => by
 rcases List.mem_cons.1 hy with rfl | hy
 ·rcases List.mem_singleton.1 hx with rfl
  exact h
 ·exact hl y hy x hx
theorem row_in {n : Nat} {zs : List Int} {l : List (Nat × List Int)} (h : ∀ z ∈ zs, in64 z) (hl : ∀ y ∈ l, ∀ z ∈ y.2, in64 z) : ∀ y ∈ (n, zs) :: l, ∀ z ∈ y.2, in64 z := fun y hy x hx => by
 rcases List.mem_cons.1 hy with rfl | hy
 ·exact h x hx
 ·exact hl y hy x hx
theorem none_in : ∀ y ∈ ([] : List (Nat × List Int)), ∀ z ∈ y.2, in64 z := fun _ h => (by cases h)
theorem zero_in : in64 0 := by
 unfold in64 lo64 hi64
 omega
end Go.Proofs.Ytdchpckikclmlaa
