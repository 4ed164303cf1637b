/- arguments as they come in. -/
import Derived.Test.YtoemdbongkkmjaaB
namespace Go.Proofs.Ytoemdbongkkmjaa
open Go.Sx Go Go.ChangeShapes Go.WideShapes Go.ChangeAt Go.RowKit Go.Deep
set_option maxRecDepth 100000
theorem own : ownKnob Try.prog.godebug = none := by kernel_rfl
theorem laidOut : laidOutB Try.prog = true := by kernel_rfl
theorem one_fact {E : Env} {f : Fact} (h : FactOk E f) : ∀ g ∈ [f], FactOk E g := fun g hg => by
 rcases List.mem_singleton.1 hg with rfl
 exact h
theorem cons_fact {E : Env} {f : Fact} {l : List Fact} (h : FactOk E f) (hl : ∀ g ∈ l, FactOk E g) : ∀ g ∈ f :: l, FactOk E g := fun g hg => by
 rcases List.mem_cons.1 hg with rfl | hg
 ·exact h
 ·exact hl g hg
structure SlIn (w : World) (z : Nat) (v : Value) (b o len cap : Nat) (zs : List Int) : Prop where
 val : v = .slice (some ⟨b, o, none⟩) len cap
 room : len ≤ cap
 max : cap ≤ maxLen
 block : b < w.heap.size
 size : zs.length = len * z
 nums : ∀ x ∈ zs, in64 x
 cells : ∀ j, j < zs.length → w.cell? ⟨b, o + j, none⟩ = some (.int .i64 (zs.getD j 0))
theorem len_in {len : Nat} (h : len ≤ maxLen) : in64 (len : Int) := by
 unfold maxLen at h
 unfold in64 lo64 hi64
 omega
section
variable {H : Type} {enc : TypeId × Value → H} {w : World} {base : Nat} {spare : Nat → Bool} {held : Bool} {r : Reach} {b0 : Nat}
theorem open_xs {v : Value} {d : DataW H} {p : List MemPlace} (k : Value.okWide Try.prog w r b0 29 v) (h : DataW.Trod enc Try.prog w base spare held 29 v d p) : v = .slice none 0 0 ∨ ∃ b o len cap zs, SlIn w 1 v b o len cap zs := by
 rcases open_int_slice (show Try.prog.underlying 29 = some (.slice 3) by kernel_rfl) (show Try.prog.underlying 3 = some (.int .i64) by kernel_rfl) (by kernel_rfl) k h with rfl | ⟨b, o, len, cap, zs, rfl, _, h1, h2, h3, h4, h5, h6⟩
 ·exact .inl rfl
 ·exact .inr ⟨b, o, len, cap, zs, rfl, h1, h2, h3, h4, h5, h6⟩
end
theorem holds_of {w : World} {z : Nat} {v : Value} {b o len cap : Nat} {zs : List Int} (h : SlIn w z v b o len cap zs) (s of ln cp r : Nat) : SlArg.Holds ⟨s, of, ln, cp, r, z, b, o, len, cap, zs⟩ w := ⟨h.block, h.room, h.max, h.size, h.nums, h.cells⟩
theorem le_hi {len cap : Nat} (h : len ≤ cap) (hc : cap ≤ maxLen) : (len : Int) ≤ hi64 := by
 unfold maxLen at hc
 unfold hi64
 omega
noncomputable def GZ : Gf := fun _ _ => 0
theorem GZ_in (f : Nat) (l : List Int) : in64 (GZ f l) := show in64 0 by constructor <;> decide
noncomputable def envL (w : World) (rows ints : List (Nat × List Int)) (bases offs : List (Nat × Nat)) : Env := { envOf w [] rows ints bases offs with f := GZ }
theorem envL_ok {w : World} {rows ints : List (Nat × List Int)} {bases offs : List (Nat × Nat)} (h2 : ∀ y ∈ rows, ∀ z ∈ y.2, in64 z) (h3 : ∀ y ∈ ints, ∀ z ∈ y.2, in64 z) : (envL w rows ints bases offs).Ok := by
 have h := envOf_ok (w := w) (cells := []) (rows := rows) (ints := ints) (bases := bases) (offs := offs) (fun _ h => (by cases h)) h2 h3
 exact ⟨h.i, h.l, GZ_in⟩
theorem one_in {n : Nat} {z : Int} {l : List (Nat × List Int)} (h : in64 z) (hl : ∀ y ∈ l, ∀ z ∈ y.2, in64 z) : ∀ y ∈ (n, [z]) :: l, ∀ z ∈ y.2, in64 z := fun y hy x hx => by
 rcases List.mem_cons.1 hy with rfl | hy
 ·rcases List.mem_singleton.1 hx with rfl
  exact h
 ·exact hl y hy x hx
theorem row_in {n : Nat} {zs : List Int} {l : List (Nat × List Int)} (h : ∀ z ∈ zs, in64 z) (hl : ∀ y ∈ l, ∀ z ∈ y.2, in64 z) : ∀ y ∈ (n, zs) :: l, ∀ z ∈ y.2, in64 z := fun y hy x hx => by
 rcases List.mem_cons.1 hy with rfl | hy
 ·exact h x hx
 ·exact hl y hy x hx
theorem none_in : ∀ y ∈ ([] : List (Nat × List Int)), ∀ z ∈ y.2, in64 z := fun _ h => (by cases h)
theorem zero_in : in64 0 := by constructor <;> decide
structure SlA (w : World) (v : Value) where
 b : Nat
 o : Nat
 len : Nat
 cap : Nat
 zs : List Int
 h : SlIn w 1 v b o len cap zs
noncomputable def SlA.arg {w : World} {v : Value} (a : SlA w v) (n : Nat) : SlArg := ⟨n, n + 1, n + 2, n + 3, n + 4, 1, a.b, a.o, a.len, a.cap, a.zs⟩
noncomputable def SlA.ints {w : World} {v : Value} (a : SlA w v) (n : Nat) : List (Nat × List Int) := [(n + 1, [0]), (n + 2, [(a.len : Int)]), (n + 3, [(a.cap : Int)])]
theorem SlA.ints_in {w : World} {v : Value} (a : SlA w v) (n : Nat) {l : List (Nat × List Int)} (hl : ∀ y ∈ l, ∀ z ∈ y.2, in64 z) : ∀ y ∈ a.ints n ++ l, ∀ z ∈ y.2, in64 z :=
 one_in zero_in (one_in (len_in (Nat.le_trans a.h.room a.h.max)) (one_in (len_in a.h.max) hl))
theorem SlA.facts {w : World} {v : Value} (a : SlA w v) {n : Nat} {E : Env} (hN : (a.arg n).Named E) : ∀ f ∈ faW n, FactOk E f := SlArg.facts hN (holds_of a.h n (n + 1) (n + 2) (n + 3) (n + 4)) (le_hi a.h.room a.h.max)
theorem SlA.ent {w : World} {v : Value} (a : SlA w v) {n : Nat} {E : Env} (hN : (a.arg n).Named E) : (enW n).ro = true ∧ EntOk E w (enW n) := ⟨rfl, SlArg.ent hN (holds_of a.h n (n + 1) (n + 2) (n + 3) (n + 4))⟩
theorem SlA.val {w : World} {v : Value} (a : SlA w v) {n : Nat} {E : Env} (hN : (a.arg n).Named E) : dv E (slW n) = v := by rw [a.h.val]; exact SlArg.val hN
theorem open_a {w : World} {r : Reach} {b0 : Nat} {v : Value} {H : Type} {enc : TypeId × Value → H} {base : Nat} {spare : Nat → Bool} {held : Bool} {d : DataW H} {p : List MemPlace} (k : Value.okWide Try.prog w r b0 29 v) (h : DataW.Trod enc Try.prog w base spare held 29 v d p) : v = .slice none 0 0 ∨ ∃ _ : SlA w v, True := by
 rcases open_xs k h with h | ⟨b, o, len, cap, zs, hs⟩
 ·exact .inl h
 ·exact .inr ⟨⟨b, o, len, cap, zs, hs⟩, trivial⟩
end Go.Proofs.Ytoemdbongkkmjaa
