/- how many operations there are, of which kinds; slices as they come in. -/
import Derived.Test.YtnfmmiomomgabaaJ
import Derived.Test.YtnfmmiomomgabaaD
namespace Go.Proofs.Ytnfmmiomomgabaa
open Go.Sx Go Go.ChangeShapes Go.WideShapes Go.ChangeAt Go.RowKit Go.Deep
set_option maxRecDepth 100000
theorem bool_k {E : Env} {n : Int} (h : in64 (ev E (.sel 10 (.lit n)))) : ∃ c, FactOk E (kindS n c) := by
 rcases (by omega : ev E (.sel 10 (.lit n)) ≤ 5 ∨ 6 ≤ ev E (.sel 10 (.lit n))) with h1 | h1
 ·exact ⟨true, h.1, h1⟩
 ·exact ⟨false, h1, h.2⟩
theorem one_fact {E : Env} {f : Fact} (h : FactOk E f) : ∀ g ∈ [f], FactOk E g := fun g hg => by
 rcases List.mem_singleton.1 hg with rfl
 exact h
theorem cons_fact {E : Env} {f : Fact} {l : List Fact} (h : FactOk E f) (hl : ∀ g ∈ l, FactOk E g) : ∀ g ∈ f :: l, FactOk E g := fun g hg => by
 rcases List.mem_cons.1 hg with rfl | hg
 ·exact h
 ·exact hl g hg
theorem sel_in {E : Env} (hE : E.Ok) (r : Nat) (n : Int) : in64 (ev E (.sel r (.lit n))) := by
 rw [ev_sel]
 exact row_ok hE r _
noncomputable def kindsOf : List (List Fact) := [[(.var 8, 0, 0)], [(.var 8, 3, hi64)], [(.var 8, 1, 1), kindS 0 true], [(.var 8, 1, 1), kindS 0 false], [(.var 8, 2, 2), kindS 0 true, kindS 4 true], [(.var 8, 2, 2), kindS 0 true, kindS 4 false], [(.var 8, 2, 2), kindS 0 false, kindS 4 true], [(.var 8, 2, 2), kindS 0 false, kindS 4 false]]
theorem kinds_all {E : Env} (hE : E.Ok) (h0 : 0 ≤ E.i 8) : ∃ fs ∈ kindsOf, ∀ f ∈ fs, FactOk E f := by
 have h8 := hE.i 8
 have v8 : ∀ {lo hi : Int}, lo ≤ E.i 8 → E.i 8 ≤ hi → FactOk E (.var 8, lo, hi) := fun h1 h2 => ⟨h1, h2⟩
 obtain ⟨c, hc⟩ := bool_k (sel_in hE 10 0)
 obtain ⟨d, hd⟩ := bool_k (sel_in hE 10 4)
 rcases (by omega : E.i 8 = 0 ∨ E.i 8 = 1 ∨ E.i 8 = 2 ∨ 3 ≤ E.i 8) with h | h | h | h
 ·exact ⟨_, List.mem_of_getElem? (i := 0) rfl, one_fact (v8 (by omega) (by omega))⟩
 ·cases c
  ·exact ⟨_, List.mem_of_getElem? (i := 3) rfl, cons_fact (v8 (by omega) (by omega)) (one_fact hc)⟩
  ·exact ⟨_, List.mem_of_getElem? (i := 2) rfl, cons_fact (v8 (by omega) (by omega)) (one_fact hc)⟩
 ·cases c <;> cases d
  ·exact ⟨_, List.mem_of_getElem? (i := 7) rfl, cons_fact (v8 (by omega) (by omega)) (cons_fact hc (one_fact hd))⟩
  ·exact ⟨_, List.mem_of_getElem? (i := 6) rfl, cons_fact (v8 (by omega) (by omega)) (cons_fact hc (one_fact hd))⟩
  ·exact ⟨_, List.mem_of_getElem? (i := 5) rfl, cons_fact (v8 (by omega) (by omega)) (cons_fact hc (one_fact hd))⟩
  ·exact ⟨_, List.mem_of_getElem? (i := 4) rfl, cons_fact (v8 (by omega) (by omega)) (cons_fact hc (one_fact hd))⟩
 ·exact ⟨_, List.mem_of_getElem? (i := 1) rfl, one_fact (v8 (by omega) h8.2)⟩
noncomputable def envS (w : World) (zs os : List Int) (ints : List (Nat × List Int)) (bases offs : List (Nat × Nat)) : Env := { envOf w [] [(5, zs), (10, os)] ints bases offs with f := G0 }
theorem envS_ok {w : World} {zs os : List Int} {ints : List (Nat × List Int)} {bases offs : List (Nat × Nat)} (h1 : ∀ z ∈ zs, in64 z) (h2 : ∀ z ∈ os, in64 z) (h3 : ∀ y ∈ ints, ∀ z ∈ y.2, in64 z) : (envS w zs os ints bases offs).Ok := by
 have h := envOf_ok (w := w) (cells := []) (rows := [(5, zs), (10, os)]) (ints := ints) (bases := bases) (offs := offs) (fun _ h => (by cases h)) (fun x hx z hz => by
  simp only [List.mem_cons, List.not_mem_nil, or_false] at hx
  rcases hx with rfl | rfl
  ·exact h1 z hz
  ·exact h2 z hz) h3
 exact ⟨h.i, h.l, G0_in⟩
structure SlIn (w : World) (z : Nat) (v : Value) (b o len cap : Nat) (zs : List Int) : Prop where
 val : v = .slice (some ⟨b, o, none⟩) len cap
 room : len ≤ cap
 max : cap ≤ maxLen
 block : b < w.heap.size
 size : zs.length = len * z
 nums : ∀ x ∈ zs, in64 x
 cells : ∀ j, j < zs.length → w.cell? ⟨b, o + j, none⟩ = some (.int .i64 (zs.getD j 0))
theorem len_in {len : Nat} (h : len ≤ maxLen) : in64 (len : Int) := by
 unfold maxLen at h
 unfold in64 lo64 hi64
 omega
section
variable {H : Type} {enc : TypeId × Value → H} {w : World} {base : Nat} {spare : Nat → Bool} {held : Bool} {r : Reach} {b0 : Nat}
theorem open_xs {v : Value} {d : DataW H} {p : List MemPlace} (k : Value.okWide Try.prog w r b0 45 v) (h : DataW.Trod enc Try.prog w base spare held 45 v d p) : v = .slice none 0 0 ∨ ∃ b o len cap zs, SlIn w 1 v b o len cap zs := by
 rcases open_int_slice (show Try.prog.underlying 45 = some (.slice 3) by kernel_rfl) (show Try.prog.underlying 3 = some (.int .i64) by kernel_rfl) (by kernel_rfl) k h with rfl | ⟨b, o, len, cap, zs, rfl, _, h1, h2, h3, h4, h5, h6⟩
 ·exact .inl rfl
 ·exact .inr ⟨b, o, len, cap, zs, rfl, h1, h2, h3, h4, h5, h6⟩
theorem open_ops {v : Value} {d : DataW H} {p : List MemPlace} (k : Value.okWide Try.prog w r b0 26 v) (h : DataW.Trod enc Try.prog w base spare held 26 v d p) : v = .slice none 0 0 ∨ ∃ b o len cap zs, SlIn w 4 v b o len cap zs := by
 have hint : ∀ (j : Nat) (f : Field), (Try.prog.fieldsOf 28)[j]? = some f → Try.prog.underlying f.type = some (.int .i64) := by
  have e : (Try.prog.fieldsOf 28).all (fun f => isInt64 (Try.prog.underlying f.type)) = true := by kernel_rfl
  intro j f hj
  rw [Array.all_eq_true] at e
  obtain ⟨hj1, rfl⟩ := Array.getElem?_eq_some_iff.1 hj
  exact isInt64_eq (e j hj1)
 have hs4 : (Try.prog.fieldsOf 28).size = 4 := by kernel_rfl
 rcases open_int_structs (show Try.prog.underlying 26 = some (.slice 28) by kernel_rfl) (show Try.prog.underlying 28 = some (.struct (Try.prog.fieldsOf 28)) by kernel_rfl) (by kernel_rfl) hint (by kernel_rfl) k h with rfl | ⟨b, o, len, cap, zs, rfl, _, h1, h2, h3, h4, h5, h6⟩
 ·exact .inl rfl
 ·exact .inr ⟨b, o, len, cap, zs, rfl, h1, h2, h3, by rw [h4, hs4], h5, h6⟩
end
theorem holds_of {w : World} {z : Nat} {v : Value} {b o len cap : Nat} {zs : List Int} (h : SlIn w z v b o len cap zs) (s of ln cp r : Nat) : SlArg.Holds ⟨s, of, ln, cp, r, z, b, o, len, cap, zs⟩ w := ⟨h.block, h.room, h.max, h.size, h.nums, h.cells⟩
abbrev intsX (l c : Nat) : List (Nat × List Int) := [(2, [0]), (3, [(l : Int)]), (4, [(c : Int)])]
abbrev intsO (l c : Nat) : List (Nat × List Int) := [(7, [0]), (8, [(l : Int)]), (9, [(c : Int)])]
theorem intsX_in {l c : Nat} (h : l ≤ c) (hc : c ≤ maxLen) : ∀ y ∈ intsX l c, ∀ z ∈ y.2, in64 z := fun y hy z hz => by
 have h1 := len_in hc
 have h2 := len_in (Nat.le_trans h hc)
 simp only [List.mem_cons, List.not_mem_nil, or_false] at hy
 rcases hy with rfl | rfl | rfl
 ·simp only [List.mem_cons, List.not_mem_nil, or_false] at hz; subst hz; constructor <;> decide
 ·simp only [List.mem_cons, List.not_mem_nil, or_false] at hz; subst hz; exact h2
 ·simp only [List.mem_cons, List.not_mem_nil, or_false] at hz; subst hz; exact h1
theorem intsO_in {l c : Nat} (h : l ≤ c) (hc : c ≤ maxLen) : ∀ y ∈ intsO l c, ∀ z ∈ y.2, in64 z := fun y hy z hz => by
 have h1 := len_in hc
 have h2 := len_in (Nat.le_trans h hc)
 simp only [List.mem_cons, List.not_mem_nil, or_false] at hy
 rcases hy with rfl | rfl | rfl
 ·simp only [List.mem_cons, List.not_mem_nil, or_false] at hz; subst hz; constructor <;> decide
 ·simp only [List.mem_cons, List.not_mem_nil, or_false] at hz; subst hz; exact h2
 ·simp only [List.mem_cons, List.not_mem_nil, or_false] at hz; subst hz; exact h1
theorem le_hi {len cap : Nat} (h : len ≤ cap) (hc : cap ≤ maxLen) : (len : Int) ≤ hi64 := by
 unfold maxLen at hc
 unfold hi64
 omega
end Go.Proofs.Ytnfmmiomomgabaa
