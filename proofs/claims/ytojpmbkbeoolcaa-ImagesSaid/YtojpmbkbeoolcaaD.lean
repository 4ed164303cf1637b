/- arguments as they come in. -/
import Derived.Test.YtojpmbkbeoolcaaP
namespace Go.Proofs.Ytojpmbkbeoolcaa
open Go.Sx Go Go.ChangeShapes Go.WideShapes Go.ChangeAt Go.RowKit Go.Deep
set_option maxRecDepth 100000
theorem own : ownKnob Try.prog.godebug = none := by kernel_rfl
theorem laidOut : laidOutB Try.prog = true := by kernel_rfl
theorem open_op {w : World} {r : Reach} {b0 : Nat} {v : Value} (h : Value.okWide Try.prog w r b0 72 v) : ∃ k a b x : Int, v = .agg #[.int .i64 k, .int .i64 a, .int .i64 b, .int .i64 x] ∧ in64 k ∧ in64 a ∧ in64 b ∧ in64 x := by
 obtain ⟨cs, h1, h2, h3, h4⟩ := open_flat (ks := [false, false, false, false]) (by kernel_rfl) (by kernel_rfl) (by kernel_rfl) h
 have e0 := h3 0 (by decide)
 have e1 := h3 1 (by decide)
 have e2 := h3 2 (by decide)
 have e3 := h3 3 (by decide)
 refine ⟨intAt cs 0, intAt cs 1, intAt cs 2, intAt cs 3, ?_, h4 0, h4 1, h4 2, h4 3⟩
 match cs, h2, e0, e1, e2, e3 with
 | [a, b, c, d], _, e0, e1, e2, e3 =>
  simp only [List.getElem?_cons_zero, List.getElem?_cons_succ, Option.some.injEq] at e0 e1 e2 e3
  rw [h1]
  congr 1
  rw [← show cellV false [a, b, c, d] 0 = .int .i64 (intAt [a, b, c, d] 0) from rfl, ← show cellV false [a, b, c, d] 1 = .int .i64 (intAt [a, b, c, d] 1) from rfl, ← show cellV false [a, b, c, d] 2 = .int .i64 (intAt [a, b, c, d] 2) from rfl, ← show cellV false [a, b, c, d] 3 = .int .i64 (intAt [a, b, c, d] 3) from rfl]
  have f0 : cellV false [a, b, c, d] 0 = a := e0.symm
  have f1 : cellV false [a, b, c, d] 1 = b := e1.symm
  have f2 : cellV false [a, b, c, d] 2 = c := e2.symm
  have f3 : cellV false [a, b, c, d] 3 = d := e3.symm
  rw [f0, f1, f2, f3]
theorem open_st {w : World} {r : Reach} {b0 : Nat} {v : Value} (h : Value.okWide Try.prog w r b0 26 v) : ∃ (c0 c1 c2 c3 : Int) (i0 i1 i2 i3 i4 : Bool), v = stVals [c0, c1, c2, c3] [i0, i1, i2, i3, i4] ∧ in64 c0 ∧ in64 c1 ∧ in64 c2 ∧ in64 c3 := by
 obtain ⟨cs, h1, h2, h3, h4⟩ := open_flat (ks := [false, false, false, false, true, true, true, true, true]) (by kernel_rfl) (by kernel_rfl) (by kernel_rfl) h
 have e0 := h3 0 (by decide)
 have e1 := h3 1 (by decide)
 have e2 := h3 2 (by decide)
 have e3 := h3 3 (by decide)
 have e4 := h3 4 (by decide)
 have e5 := h3 5 (by decide)
 have e6 := h3 6 (by decide)
 have e7 := h3 7 (by decide)
 have e8 := h3 8 (by decide)
 refine ⟨intAt cs 0, intAt cs 1, intAt cs 2, intAt cs 3, boolAt cs 4, boolAt cs 5, boolAt cs 6, boolAt cs 7, boolAt cs 8, ?_, h4 0, h4 1, h4 2, h4 3⟩
 match cs, h2, e0, e1, e2, e3, e4, e5, e6, e7, e8 with
 | [a, b, c, d, e, f, g, i, j], _, e0, e1, e2, e3, e4, e5, e6, e7, e8 =>
  simp only [List.getElem?_cons_zero, List.getElem?_cons_succ, Option.some.injEq] at e0 e1 e2 e3 e4 e5 e6 e7 e8
  rw [h1]
  unfold stVals
  simp only [List.map_cons, List.map_nil, List.cons_append, List.nil_append]
  have f0 : (Value.int .i64 (intAt [a, b, c, d, e, f, g, i, j] 0)) = a := e0.symm
  have f1 : (Value.int .i64 (intAt [a, b, c, d, e, f, g, i, j] 1)) = b := e1.symm
  have f2 : (Value.int .i64 (intAt [a, b, c, d, e, f, g, i, j] 2)) = c := e2.symm
  have f3 : (Value.int .i64 (intAt [a, b, c, d, e, f, g, i, j] 3)) = d := e3.symm
  have f4 : (Value.bool (boolAt [a, b, c, d, e, f, g, i, j] 4)) = e := e4.symm
  have f5 : (Value.bool (boolAt [a, b, c, d, e, f, g, i, j] 5)) = f := e5.symm
  have f6 : (Value.bool (boolAt [a, b, c, d, e, f, g, i, j] 6)) = g := e6.symm
  have f7 : (Value.bool (boolAt [a, b, c, d, e, f, g, i, j] 7)) = i := e7.symm
  have f8 : (Value.bool (boolAt [a, b, c, d, e, f, g, i, j] 8)) = j := e8.symm
  rw [f0, f1, f2, f3, f4, f5, f6, f7, f8]
theorem one_fact {E : Env} {f : Fact} (h : FactOk E f) : ∀ g ∈ [f], FactOk E g := fun g hg => by
 rcases List.mem_singleton.1 hg with rfl
 exact h
theorem cons_fact {E : Env} {f : Fact} {l : List Fact} (h : FactOk E f) (hl : ∀ g ∈ l, FactOk E g) : ∀ g ∈ f :: l, FactOk E g := fun g hg => by
 rcases List.mem_cons.1 hg with rfl | hg
 ·exact h
 ·exact hl g hg
structure SlIn (w : World) (z : Nat) (v : Value) (b o len cap : Nat) (zs : List Int) : Prop where
 val : v = .slice (some ⟨b, o, none⟩) len cap
 room : len ≤ cap
 max : cap ≤ maxLen
 block : b < w.heap.size
 size : zs.length = len * z
 nums : ∀ x ∈ zs, in64 x
 cells : ∀ j, j < zs.length → w.cell? ⟨b, o + j, none⟩ = some (.int .i64 (zs.getD j 0))
theorem len_in {len : Nat} (h : len ≤ maxLen) : in64 (len : Int) := by
 unfold maxLen at h
 unfold in64 lo64 hi64
 omega
section
variable {H : Type} {enc : TypeId × Value → H} {w : World} {base : Nat} {spare : Nat → Bool} {held : Bool} {r : Reach} {b0 : Nat}
theorem open_xs {v : Value} {d : DataW H} {p : List MemPlace} (k : Value.okWide Try.prog w r b0 22 v) (h : DataW.Trod enc Try.prog w base spare held 22 v d p) : v = .slice none 0 0 ∨ ∃ b o len cap zs, SlIn w 1 v b o len cap zs := by
 rcases open_int_slice (show Try.prog.underlying 22 = some (.slice 3) by kernel_rfl) (show Try.prog.underlying 3 = some (.int .i64) by kernel_rfl) (by kernel_rfl) k h with rfl | ⟨b, o, len, cap, zs, rfl, _, h1, h2, h3, h4, h5, h6⟩
 ·exact .inl rfl
 ·exact .inr ⟨b, o, len, cap, zs, rfl, h1, h2, h3, h4, h5, h6⟩
theorem open_ops {v : Value} {d : DataW H} {p : List MemPlace} (k : Value.okWide Try.prog w r b0 41 v) (h : DataW.Trod enc Try.prog w base spare held 41 v d p) : v = .slice none 0 0 ∨ ∃ b o len cap zs, SlIn w 4 v b o len cap zs := by
 have hint : ∀ (j : Nat) (f : Field), (Try.prog.fieldsOf 72)[j]? = some f → Try.prog.underlying f.type = some (.int .i64) := by
  have e : (Try.prog.fieldsOf 72).all (fun f => isInt64 (Try.prog.underlying f.type)) = true := by kernel_rfl
  intro j f hj
  rw [Array.all_eq_true] at e
  obtain ⟨hj1, rfl⟩ := Array.getElem?_eq_some_iff.1 hj
  exact isInt64_eq (e j hj1)
 have hs4 : (Try.prog.fieldsOf 72).size = 4 := by kernel_rfl
 rcases open_int_structs (show Try.prog.underlying 41 = some (.slice 72) by kernel_rfl) (show Try.prog.underlying 72 = some (.struct (Try.prog.fieldsOf 72)) by kernel_rfl) (by kernel_rfl) hint (by kernel_rfl) k h with rfl | ⟨b, o, len, cap, zs, rfl, _, h1, h2, h3, h4, h5, h6⟩
 ·exact .inl rfl
 ·exact .inr ⟨b, o, len, cap, zs, rfl, h1, h2, h3, by rw [h4, hs4], h5, h6⟩
end
theorem holds_of {w : World} {z : Nat} {v : Value} {b o len cap : Nat} {zs : List Int} (h : SlIn w z v b o len cap zs) (s of ln cp r : Nat) : SlArg.Holds ⟨s, of, ln, cp, r, z, b, o, len, cap, zs⟩ w := ⟨h.block, h.room, h.max, h.size, h.nums, h.cells⟩
theorem le_hi {len cap : Nat} (h : len ≤ cap) (hc : cap ≤ maxLen) : (len : Int) ≤ hi64 := by
 unfold maxLen at hc
 unfold hi64
 omega
section
variable {H : Type} {enc : TypeId × Value → H} {w : World} {base : Nat} {spare : Nat → Bool} {held : Bool} {r : Reach} {b0 : Nat}
theorem open_opsZ {v : Value} {d : DataW H} {p : List MemPlace} (k : Value.okWide Try.prog w r b0 41 v) (h : DataW.Trod enc Try.prog w base spare held 41 v d p) (hw : ∀ n ∈ d.weights Try.prog 41, n ≤ reachBytes) : v = .slice none 0 0 ∨ ∃ b o len cap zs, SlIn w 4 v b o len cap zs ∧ len ≤ 4398046510976 := by
 have hint : ∀ (j : Nat) (f : Field), (Try.prog.fieldsOf 72)[j]? = some f → Try.prog.underlying f.type = some (.int .i64) := by
  have e : (Try.prog.fieldsOf 72).all (fun f => isInt64 (Try.prog.underlying f.type)) = true := by kernel_rfl
  intro j f hj
  rw [Array.all_eq_true] at e
  obtain ⟨hj1, rfl⟩ := Array.getElem?_eq_some_iff.1 hj
  exact isInt64_eq (e j hj1)
 have hs4 : (Try.prog.fieldsOf 72).size = 4 := by kernel_rfl
 have hby : Try.prog.bytesOf 72 = 32 := by kernel_rfl
 have hu : Try.prog.underlying 41 = some (.slice 72) := by kernel_rfl
 rcases open_int_structs hu (show Try.prog.underlying 72 = some (.struct (Try.prog.fieldsOf 72)) by kernel_rfl) (by kernel_rfl) hint (by kernel_rfl) k h with rfl | ⟨b, o, len, cap, zs, rfl, ⟨elems, sp, rfl, hlen⟩, h1, h2, h3, h4, h5, h6⟩
 ·exact .inl rfl
 ·refine .inr ⟨b, o, len, cap, zs, ⟨rfl, h1, h2, h3, by rw [h4, hs4], h5, h6⟩, ?_⟩
  have hmem : (elems.length + sp.length) * Try.prog.bytesOf 72 ∈ DataW.weights Try.prog 41 (.slice elems sp) := by
   unfold DataW.weights
   rw [hu]
   exact List.mem_cons_self
  have := hw _ hmem
  rw [hby, hlen] at this
  unfold reachBytes at this
  omega
end
noncomputable def envL (w : World) (B : List Int) (I : List Bool) (rows ints : List (Nat × List Int)) (bases offs : List (Nat × Nat)) : Env := { envOf w [] ((1, B) :: rows) ints bases offs with b := fun j => I.getD (j - 20) false, f := G0 }
theorem envL_ok {w : World} {B : List Int} {I : List Bool} {rows ints : List (Nat × List Int)} {bases offs : List (Nat × Nat)} (h1 : ∀ z ∈ B, in64 z) (h2 : ∀ y ∈ rows, ∀ z ∈ y.2, in64 z) (h3 : ∀ y ∈ ints, ∀ z ∈ y.2, in64 z) : (envL w B I rows ints bases offs).Ok := by
 have h := envOf_ok (w := w) (cells := []) (rows := (1, B) :: rows) (ints := ints) (bases := bases) (offs := offs) (fun _ h => (by cases h)) (fun x hx z hz => by
  rcases List.mem_cons.1 hx with rfl | hx
  ·exact h1 z hz
  ·exact h2 x hx z hz) h3
 exact ⟨h.i, h.l, G0_in⟩
theorem in4s {a b c d : Int} (ha : in64 a) (hb : in64 b) (hc : in64 c) (hd : in64 d) : ∀ z ∈ [a, b, c, d], in64 z := fun z hz => by
 simp only [List.mem_cons, List.not_mem_nil, or_false] at hz
 rcases hz with rfl | rfl | rfl | rfl <;> assumption
theorem one_in {n : Nat} {z : Int} {l : List (Nat × List Int)} (h : in64 z) (hl : ∀ y ∈ l, ∀ z ∈ y.2, in64 z) : ∀ y ∈ (n, [z]) :: l, ∀ z ∈ y.2, in64 z := fun y hy x hx => by
 rcases List.mem_cons.1 hy with rfl | hy
 ·rcases List.mem_singleton.1 hx with rfl
  exact h
 ·exact hl y hy x hx
theorem none_in : ∀ y ∈ ([] : List (Nat × List Int)), ∀ z ∈ y.2, in64 z := fun _ h => (by cases h)
abbrev opI (k a b x : Int) (l : List (Nat × List Int)) : List (Nat × List Int) := (10, [k]) :: (11, [a]) :: (12, [b]) :: (13, [x]) :: l
theorem opI_in {k a b x : Int} {l : List (Nat × List Int)} (hk : in64 k) (ha : in64 a) (hb : in64 b) (hx : in64 x) (hl : ∀ y ∈ l, ∀ z ∈ y.2, in64 z) : ∀ y ∈ opI k a b x l, ∀ z ∈ y.2, in64 z := one_in hk (one_in ha (one_in hb (one_in hx hl)))
theorem zero_in : in64 0 := by constructor <;> decide
end Go.Proofs.Ytojpmbkbeoolcaa
