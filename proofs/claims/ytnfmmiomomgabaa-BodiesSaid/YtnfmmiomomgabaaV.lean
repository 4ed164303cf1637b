/- views and operations as they come in. -/
import Derived.Test.YtnfmmiomomgabaaD
namespace Go.Proofs.Ytnfmmiomomgabaa
set_option maxRecDepth 100000
open Go.Sx Go.ChangeShapes Go.WideShapes Go.ChangeAt Go.RowKit Go.Deep
noncomputable def segs : List Sg := List.replicate 16 (.cell true) ++ [.row 6 16, .row 7 16]
theorem viewV_seg : viewV 20 6 7 = .agg (segP 20 segs) := rfl
noncomputable def envV (w : World) (cs : List Value) (ints : List (Nat × List Int)) : Env :=
 { envOf w [(20, 48, cs)] [(6, (List.range 16).map fun j => intAt cs (16 + j)), (7, (List.range 16).map fun j => intAt cs (32 + j))] ints [] [] with f := G0 }
structure IsView (cs : List Value) : Prop where
 len : cs.length = 48
 cell : ∀ i (_ : i < 48), cs[i]? = some (cellV ((Sg.kinds segs).getD i false) cs i)
 ints : ∀ i, in64 (intAt cs i)
theorem open_view {w : World} {r : Reach} {b0 : Nat} {v : Value} (h : Value.okWide Try.prog w r b0 25 v) : ∃ cs : List Value, v = .agg cs.toArray ∧ IsView cs := by
 obtain ⟨cs, h1, h2, h3, h4⟩ := open_flat (ks := Sg.kinds segs) (by kernel_rfl) (by kernel_rfl) (by kernel_rfl) h
 exact ⟨cs, h1, h2, h3, h4⟩
theorem envV_ok {w : World} {cs : List Value} (hc : IsView cs) {ints : List (Nat × List Int)} (hi : ∀ x ∈ ints, ∀ z ∈ x.2, in64 z) : (envV w cs ints).Ok := by
 have h := envOf_ok (w := w) (cells := [(20, 48, cs)]) (rows := [(6, (List.range 16).map fun j => intAt cs (16 + j)), (7, (List.range 16).map fun j => intAt cs (32 + j))]) (ints := ints) (bases := []) (offs := []) (fun x hx i => by
   simp only [List.mem_cons, List.not_mem_nil, or_false] at hx
   subst hx; exact hc.ints i) (fun x hx z hz => by
   simp only [List.mem_cons, List.not_mem_nil, or_false] at hx
   rcases hx with rfl | rfl
   ·obtain ⟨j, _, rfl⟩ := List.mem_map.1 hz; exact hc.ints _
   ·obtain ⟨j, _, rfl⟩ := List.mem_map.1 hz; exact hc.ints _) hi
 exact ⟨h.i, h.l, G0_in⟩
theorem view_val {w : World} {cs : List Value} (hc : IsView cs) {ints : List (Nat × List Int)} (hn : ∀ i, i < 48 → lookR (20 + i) ints = []) : dv (envV w cs ints) (viewV 20 6 7) = .agg cs.toArray := by
 rw [viewV_seg]
 have := segP_ok (envV w cs ints) 20 cs segs 0 (by rw [hc.len]; rfl) (fun i hi => by rw [Nat.zero_add]; exact hc.cell i hi) (fun i hi => ?_) (fun i hi => ?_) (fun x hx => ?_)
 ·show Value.agg (dl (envV w cs ints) (segP 20 segs)).toArray = _
  rw [show segP 20 segs = segP (20 + 0) segs from rfl, this]
  rfl
 ·rw [hc.len] at hi
  show (match lookR (20 + i) ints with | z :: _ => z | [] => lookN (20 + i) intAt 0 [(20, 48, cs)]) = _
  rw [hn i hi]
  show lookN (20 + i) intAt 0 [(20, 48, cs)] = intAt cs i
  unfold lookN
  rw [if_pos (by omega)]
  congr 1; omega
 ·rw [hc.len] at hi
  show lookN (20 + i) boolAt false [(20, 48, cs)] = boolAt cs i
  unfold lookN
  rw [if_pos (by omega)]
  congr 1; omega
 ·have : x = (6, 16, 16) ∨ x = (7, 32, 16) := by
   have e : rowsP 0 segs = [(6, 16, 16), (7, 32, 16)] := rfl
   rw [e] at hx
   simpa using hx
  rcases this with rfl | rfl
  ·exact ⟨by decide, rfl⟩
  ·exact ⟨by decide, rfl⟩
abbrev opInts (k a b x : Int) : List (Nat × List Int) := [(10, [k]), (11, [a]), (12, [b]), (13, [x])]
theorem run_vo {f : Nat} {s : List SV → X SV} (hs : SpecOk G0 Try.prog f s) {fs : List Fact} {oa : SV} (hrun : allOf (s [viewV 20 6 7, oa] (memF fs)) isTrue = true) {w : World} {cs : List Value} (hc : IsView cs) {k a b x : Int} (hk : in64 k) (ha : in64 a) (hb : in64 b) (hx : in64 x)
  (ho : dv (envV w cs (opInts k a b x)) oa = opVal k a b x) (hf : ∀ f ∈ fs, FactOk (envV w cs (opInts k a b x)) f) :
  Calls Try.prog f #[.agg cs.toArray, opVal k a b x] w fun r w' => r = .returned (.bool true) ∧ Below w.heap.size w w' := by
 have hE : (envV w cs (opInts k a b x)).Ok := envV_ok hc fun y hy z hz => by
  simp only [List.mem_cons, List.not_mem_nil, or_false] at hy
  rcases hy with rfl | rfl | rfl | rfl <;> (simp only [List.mem_cons, List.not_mem_nil, or_false] at hz; subst hz; assumption)
 have := law_ok hs hrun (E := envV w cs (opInts k a b x)) (w := w) rfl (slMem_ok 50 hE rfl rfl (fun _ h => (by cases h)) hf)
 simp only [List.map_cons, List.map_nil] at this
 rw [view_val hc (fun i hi => by
  unfold lookR; rw [if_neg (by omega)]; unfold lookR; rw [if_neg (by omega)]; unfold lookR; rw [if_neg (by omega)]; unfold lookR; rw [if_neg (by omega)]; rfl), ho] at this
 exact this
theorem row_at {w : World} {cs : List Value} {ints : List (Nat × List Int)} (i : Nat) (hi : i < 16) : ev (envV w cs ints) (.sel 6 (.lit i)) = intAt cs (16 + i) ∧ ev (envV w cs ints) (.sel 7 (.lit i)) = intAt cs (32 + i) := by
 have e : ∀ c : Nat, ((List.range 16).map fun j => intAt cs (c + j)).getD i 0 = intAt cs (c + i) := fun c => by
  rw [List.getD_eq_getElem?_getD, List.getElem?_map, List.getElem?_range hi]
  rfl
 constructor
 ·show ((List.range 16).map fun j => intAt cs (16 + j)).getD (Int.toNat (i : Int)) 0 = _
  rw [Int.toNat_natCast]; exact e 16
 ·show ((List.range 16).map fun j => intAt cs (32 + j)).getD (Int.toNat (i : Int)) 0 = _
  rw [Int.toNat_natCast]; exact e 32
noncomputable def AllMay (cs : List Value) : Prop := ∀ i, i < 32 → 0 ≤ intAt cs (16 + i) ∧ intAt cs (16 + i) ≤ 1099511627775
theorem facts_A {w : World} {cs : List Value} {ints : List (Nat × List Int)} (hm : AllMay cs) {fs : List Fact} (hf : ∀ f ∈ fs, FactOk (envV w cs ints) f) : ∀ f ∈ fs ++ rngs 6 16 (rngs 7 16 []), FactOk (envV w cs ints) f := by
 intro f h
 rcases List.mem_append.1 h with h | h
 ·exact hf f h
 ·rcases rngs_mem h with h | ⟨i, hi, rfl⟩
  ·rcases rngs_mem h with h | ⟨i, hi, rfl⟩
   ·cases h
   ·unfold FactOk
    rw [(row_at i hi).2]
    have := hm (16 + i) (by omega)
    rw [show 16 + (16 + i) = 32 + i by omega] at this
    exact this
  ·unfold FactOk
   rw [(row_at i hi).1]
   exact hm i (by omega)
end Go.Proofs.Ytnfmmiomomgabaa
