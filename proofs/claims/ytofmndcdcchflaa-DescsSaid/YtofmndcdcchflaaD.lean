/- arguments as they come in. -/
import Derived.Test.YtofmndcdcchflaaF
namespace Go.Proofs.Ytofmndcdcchflaa
open Go.Sx Go Go.DescNum Go.ChangeShapes Go.WideShapes Go.ChangeAt Go.RowKit Go.Deep
set_option maxRecDepth 100000
theorem own : ownKnob Try.prog.godebug = none := by kernel_rfl
theorem laidOut : laidOutB Try.prog = true := by kernel_rfl
theorem one_fact {E : Env} {f : Fact} (h : FactOk E f) : ∀ g ∈ [f], FactOk E g := fun g hg => by
 rcases List.mem_singleton.1 hg with rfl
 exact h
theorem cons_fact {E : Env} {f : Fact} {l : List Fact} (h : FactOk E f) (hl : ∀ g ∈ l, FactOk E g) : ∀ g ∈ f :: l, FactOk E g := fun g hg => by
 rcases List.mem_cons.1 hg with rfl | hg
 ·exact h
 ·exact hl g hg
structure SlIn (w : World) (z : Nat) (v : Value) (b o len cap : Nat) (zs : List Int) : Prop where
 val : v = .slice (some ⟨b, o, none⟩) len cap
 room : len ≤ cap
 max : cap ≤ maxLen
 block : b < w.heap.size
 size : zs.length = len * z
 nums : ∀ x ∈ zs, in64 x
 cells : ∀ j, j < zs.length → w.cell? ⟨b, o + j, none⟩ = some (.int .i64 (zs.getD j 0))
theorem len_in {len : Nat} (h : len ≤ maxLen) : in64 (len : Int) := by
 unfold maxLen at h
 unfold in64 lo64 hi64
 omega
section
variable {H : Type} {enc : TypeId × Value → H} {w : World} {base : Nat} {spare : Nat → Bool} {held : Bool} {r : Reach} {b0 : Nat}
theorem open_xs {v : Value} {d : DataW H} {p : List MemPlace} (k : Value.okWide Try.prog w r b0 27 v) (h : DataW.Trod enc Try.prog w base spare held 27 v d p) : v = .slice none 0 0 ∨ ∃ b o len cap zs, SlIn w 1 v b o len cap zs := by
 rcases open_int_slice (show Try.prog.underlying 27 = some (.slice 3) by kernel_rfl) (show Try.prog.underlying 3 = some (.int .i64) by kernel_rfl) (by kernel_rfl) k h with rfl | ⟨b, o, len, cap, zs, rfl, _, h1, h2, h3, h4, h5, h6⟩
 ·exact .inl rfl
 ·exact .inr ⟨b, o, len, cap, zs, rfl, h1, h2, h3, h4, h5, h6⟩
theorem open_ss {v : Value} {d : DataW H} {p : List MemPlace} (k : Value.okWide Try.prog w r b0 26 v) (h : DataW.Trod enc Try.prog w base spare held 26 v d p) : v = .slice none 0 0 ∨ ∃ b o len cap zs, SlIn w 3 v b o len cap zs := by
 have hint : ∀ (j : Nat) (f : Field), (Try.prog.fieldsOf 56)[j]? = some f → Try.prog.underlying f.type = some (.int .i64) := by
  have e : (Try.prog.fieldsOf 56).all (fun f => isInt64 (Try.prog.underlying f.type)) = true := by kernel_rfl
  intro j f hj
  rw [Array.all_eq_true] at e
  obtain ⟨hj1, rfl⟩ := Array.getElem?_eq_some_iff.1 hj
  exact isInt64_eq (e j hj1)
 have hs3 : (Try.prog.fieldsOf 56).size = 3 := by kernel_rfl
 rcases open_int_structs (show Try.prog.underlying 26 = some (.slice 56) by kernel_rfl) (show Try.prog.underlying 56 = some (.struct (Try.prog.fieldsOf 56)) by kernel_rfl) (by kernel_rfl) hint (by kernel_rfl) k h with rfl | ⟨b, o, len, cap, zs, rfl, _, h1, h2, h3, h4, h5, h6⟩
 ·exact .inl rfl
 ·rw [hs3] at h4
  exact .inr ⟨b, o, len, cap, zs, rfl, h1, h2, h3, h4, h5, h6⟩
end
theorem holds_of {w : World} {z : Nat} {v : Value} {b o len cap : Nat} {zs : List Int} (h : SlIn w z v b o len cap zs) (s of ln cp r : Nat) : SlArg.Holds ⟨s, of, ln, cp, r, z, b, o, len, cap, zs⟩ w := ⟨h.block, h.room, h.max, h.size, h.nums, h.cells⟩
theorem le_hi {len cap : Nat} (h : len ≤ cap) (hc : cap ≤ maxLen) : (len : Int) ≤ hi64 := by
 unfold maxLen at hc
 unfold hi64
 omega
noncomputable def envL (V : List Int) (w : World) (rows ints : List (Nat × List Int)) (bases offs : List (Nat × Nat)) : Env := { envOf w [] rows ints bases offs with f := G0 V }
theorem envL_ok {V : List Int} {w : World} {rows ints : List (Nat × List Int)} {bases offs : List (Nat × Nat)} (h2 : ∀ y ∈ rows, ∀ z ∈ y.2, in64 z) (h3 : ∀ y ∈ ints, ∀ z ∈ y.2, in64 z) : (envL V w rows ints bases offs).Ok := by
 have h := envOf_ok (w := w) (cells := []) (rows := rows) (ints := ints) (bases := bases) (offs := offs) (fun _ h => (by cases h)) h2 h3
 exact ⟨h.i, h.l, G0_in V⟩
theorem one_in {n : Nat} {z : Int} {l : List (Nat × List Int)} (h : in64 z) (hl : ∀ y ∈ l, ∀ z ∈ y.2, in64 z) : ∀ y ∈ (n, [z]) :: l, ∀ z ∈ y.2, in64 z := fun y hy x hx => by
 rcases List.mem_cons.1 hy with rfl | hy
 ·rcases List.mem_singleton.1 hx with rfl
  exact h
 ·exact hl y hy x hx
theorem row_in {n : Nat} {zs : List Int} {l : List (Nat × List Int)} (h : ∀ z ∈ zs, in64 z) (hl : ∀ y ∈ l, ∀ z ∈ y.2, in64 z) : ∀ y ∈ (n, zs) :: l, ∀ z ∈ y.2, in64 z := fun y hy x hx => by
 rcases List.mem_cons.1 hy with rfl | hy
 ·exact h x hx
 ·exact hl y hy x hx
theorem none_in : ∀ y ∈ ([] : List (Nat × List Int)), ∀ z ∈ y.2, in64 z := fun _ h => (by cases h)
theorem zero_in : in64 0 := by constructor <;> decide
end Go.Proofs.Ytofmndcdcchflaa
namespace Go.Proofs.Ytofmndcdcchflaa
open Go.Sx Go Go.DescNum Go.ChangeShapes Go.WideShapes Go.ChangeAt Go.RowKit Go.Deep
set_option maxRecDepth 100000
noncomputable def segs : List Sg := List.replicate 16 (.cell true) ++ [.row 6 16, .row 7 16]
structure IsView (cs : List Value) : Prop where
 len : cs.length = 48
 cell : ∀ i (_ : i < 48), cs[i]? = some (cellV ((Sg.kinds segs).getD i false) cs i)
 ints : ∀ i, in64 (intAt cs i)
theorem open_view {w : World} {r : Reach} {b0 : Nat} {v : Value} (h : Value.okWide Try.prog w r b0 25 v) : ∃ cs : List Value, v = .agg cs.toArray ∧ IsView cs := by
 obtain ⟨cs, h1, h2, h3, h4⟩ := open_flat (ks := Sg.kinds segs) (by kernel_rfl) (by kernel_rfl) (by kernel_rfl) h
 exact ⟨cs, h1, h2, h3, h4⟩
noncomputable def numV (cs : List Value) : List Int := (List.range 16).map (fun i => if boolAt cs i = true then 1 else 0) ++ (List.range 32).map fun j => intAt cs (16 + j)
theorem numV_flag {cs : List Value} {i : Nat} (h : i < 16) : known (numV cs) i = boolAt cs i := by
 unfold known numV
 rw [List.getD_eq_getElem?_getD, List.getElem?_append_left (by simpa using h), List.getElem?_map, List.getElem?_range h]
 show decide ((if boolAt cs i = true then (1 : Int) else 0) ≠ 0) = _
 cases boolAt cs i <;> rfl
theorem numV_at {cs : List Value} {j : Nat} (h : j < 32) : (numV cs).getD (16 + j) 0 = intAt cs (16 + j) := by
 unfold numV
 rw [List.getD_eq_getElem?_getD, List.getElem?_append_right (by simp), List.getElem?_map, List.length_map, List.length_range, Nat.add_sub_cancel_left, List.getElem?_range h]
 rfl
theorem numV_view {cs : List Value} (h : IsView cs) : View (numV cs) := ⟨fun z hz => by
 rcases List.mem_append.1 hz with hz | hz
 ·obtain ⟨i, _, rfl⟩ := List.mem_map.1 hz
  split
  ·constructor <;> decide
  ·exact zero_in
 ·obtain ⟨i, _, rfl⟩ := List.mem_map.1 hz
  exact h.ints _⟩
theorem dl_flags (E : Env) (v : SV) : ∀ l : List Nat, dl E (l.foldr (fun i r => .cons (.bool (kB i)) r) v) = l.map (fun i => Value.bool (evB E (kB i))) ++ dl E v
 | [] => rfl
 | i :: l => by
  show [Value.bool (evB E (kB i))] ++ dl E (l.foldr (fun i r => .cons (.bool (kB i)) r) v) = _
  rw [dl_flags E v l]
  rfl
theorem view_val {cs : List Value} (h : IsView cs) {E : Env} (hE : E.f = G0 (numV cs)) : dv E (.agg viewC) = .agg cs.toArray := by
 have hv := numV_view h
 show Value.agg (dl E viewC).toArray = _
 congr 2
 unfold viewC
 rw [dl_flags]
 show _ ++ (arrCells E .i64 1000004 16 .nil ++ (arrCells E .i64 1000005 16 .nil ++ [])) = _
 have hk : ∀ i, i < 48 → (Sg.kinds segs).getD i false = decide (i < 16) := by
  intro i hi
  have : (List.range 48).all (fun i => (Sg.kinds segs).getD i false == decide (i < 16)) = true := by kernel_rfl
  have := List.all_eq_true.1 this i (List.mem_range.2 hi)
  exact beq_iff_eq.1 this
 refine List.ext_getElem? fun i => ?_
 rcases Nat.lt_or_ge i 48 with hi | hi
 ·rw [h.cell i hi, hk i hi]
  rcases Nat.lt_or_ge i 16 with h16 | h16
  ·rw [List.getElem?_append_left (by simpa using h16), List.getElem?_map, List.getElem?_range h16, decide_eq_true h16]
   show some (Value.bool (evB E (kB i))) = some (.bool (boolAt cs i))
   rw [kB_ev hE, numV_flag h16]
  ·rw [decide_eq_false (by omega)]
   rw [List.getElem?_append_right (by simpa using h16), List.length_map, List.length_range]
   rcases Nat.lt_or_ge i 32 with h32 | h32
   ·rw [List.getElem?_append_left (by rw [arrCells_len]; omega), arrCells_get _ _ _ _ _ _ (by omega)]
    show some (Value.int .i64 ((E.row 1000004).getD (i - 16) 0)) = some (.int .i64 (intAt cs i))
    rw [rowWas hv hE]
    unfold wasL wasV
    rw [List.getD_eq_getElem?_getD, List.getElem?_map, List.getElem?_range (by omega)]
    show some (Value.int .i64 ((numV cs).getD (16 + (i - 16)) 0)) = _
    rw [numV_at (by omega), show 16 + (i - 16) = i by omega]
   ·rw [List.getElem?_append_right (by rw [arrCells_len]; omega), arrCells_len, List.append_nil, arrCells_get _ _ _ _ _ _ (by omega)]
    show some (Value.int .i64 ((E.row 1000005).getD (i - 16 - 16) 0)) = some (.int .i64 (intAt cs i))
    rw [rowNow hv hE]
    unfold nowL nowV
    rw [List.getD_eq_getElem?_getD, List.getElem?_map, List.getElem?_range (by omega)]
    show some (Value.int .i64 ((numV cs).getD (32 + (i - 16 - 16)) 0)) = _
    rw [show 32 + (i - 16 - 16) = 16 + (i - 16) by omega, numV_at (by omega), show 16 + (i - 16) = i by omega]
 ·rw [List.getElem?_eq_none (l := cs) (by rw [h.len]; exact hi), List.getElem?_eq_none (by rw [List.length_append, List.length_append, arrCells_len, List.append_nil, arrCells_len, List.length_map, List.length_range]; omega)]
end Go.Proofs.Ytofmndcdcchflaa
