/- The law BankNeeds: for every input the call returns true, and each argument reads afterwards as it read before; no condition. -/
import Derived.Test.YthhjijadllpcpaaN0
import Derived.Test.YthhjijadllpcpaaN1
import Derived.Test.YthhjijadllpcpaaN2
import Derived.Test.YthhjijadllpcpaaN3
import Derived.Test.YthhjijadllpcpaaN4
import Derived.Test.YthhjijadllpcpaaN5
import Derived.Test.YthhjijadllpcpaaN6
import Derived.Test.YthhjijadllpcpaaN7
import Derived.Test.YthhjijadllpcpaaNB
namespace Go.Proofs.Ythhjijadllpcpaa
set_option maxRecDepth 100000
open Go.Sx Go.ChangeShapes Go.WideShapes Go.ChangeAt Go.RowKit Go.Deep
section
variable {w : World} {cs : List Value} (hc : IsView cs) (hm : AllMay cs) {x y : Int} (hx : in64 x) (hy : in64 y)
theorem one5 {k a b : Int} {e : IE} {lo hi : Int} (h1 : lo ≤ ev (envV w cs (opInts1 k a b x y)) e) (h2 : ev (envV w cs (opInts1 k a b x y)) e ≤ hi) : ∀ f ∈ [((e, lo, hi) : Fact)], FactOk (envV w cs (opInts1 k a b x y)) f := fun f hf => by
  rcases List.mem_singleton.1 hf with rfl
  exact ⟨h1, h2⟩
theorem one1 {E : Env} {f : Fact} (h : FactOk E f) : ∀ g ∈ [f], FactOk E g := fun g hg => by
  rcases List.mem_singleton.1 hg with rfl
  exact h
theorem two1 {E : Env} {f f' : Fact} (h : FactOk E f) (h' : FactOk E f') : ∀ g ∈ [f, f'], FactOk E g := fun g hg => by
  simp only [List.mem_cons, List.not_mem_nil, or_false] at hg
  rcases hg with rfl | rfl <;> assumption
include hm in
theorem nilA {ints : List (Nat × List Int)} : ∀ f ∈ rngs 6 16 (rngs 7 16 []), FactOk (envV w cs ints) f := fun f h => facts_A hm (fs := []) (fun _ h => by cases h) f h
include hm in
theorem cutA {ints : List (Nat × List Int)} (i : Nat) (hi : i < 16) : FactOk (envV w cs ints) (.sel 7 (.lit (i : Int)), 0, 0) ∨ FactOk (envV w cs ints) (.sel 7 (.lit (i : Int)), 1, 1099511627775) := by
  have h1 := (row_at (w := w) (cs := cs) (ints := ints) i hi).2
  have h2 := hm (16 + i) (by omega)
  rw [show 16 + (16 + i) = 32 + i by omega] at h2
  unfold FactOk
  rw [h1]
  dsimp only
  omega
include hc hm hx hy in
theorem needs_0_0_0 : Calls Try.prog 4 #[.agg cs.toArray, opVal 0 0 0 x, .int .i64 y] w fun r w' => r = .returned (.bool true) ∧ Below w.heap.size w w' := by
  cases hb : (envV w cs (opInts1 0 0 0 x y)).b 20 with
  | true => exact run_v1 (fun5_ok 4) N_0_0_0_1 hc (by unfold in64 lo64 hi64; omega) (by unfold in64 lo64 hi64; omega) (by unfold in64 lo64 hi64; omega) hx hy rfl (nilA hm) (cn1 (yesB hb))
  | false => exact run_v1 (fun5_ok 4) N_0_0_0_0 hc (by unfold in64 lo64 hi64; omega) (by unfold in64 lo64 hi64; omega) (by unfold in64 lo64 hi64; omega) hx hy rfl (nilA hm) (cn1 (notB hb))
include hc hm hx hy in
theorem needs_0_1_0 : Calls Try.prog 4 #[.agg cs.toArray, opVal 0 1 0 x, .int .i64 y] w fun r w' => r = .returned (.bool true) ∧ Below w.heap.size w w' := by
  cases hb : (envV w cs (opInts1 0 1 0 x y)).b 21 with
  | true => exact run_v1 (fun5_ok 4) N_0_1_0_1 hc (by unfold in64 lo64 hi64; omega) (by unfold in64 lo64 hi64; omega) (by unfold in64 lo64 hi64; omega) hx hy rfl (nilA hm) (cn1 (yesB hb))
  | false => exact run_v1 (fun5_ok 4) N_0_1_0_0 hc (by unfold in64 lo64 hi64; omega) (by unfold in64 lo64 hi64; omega) (by unfold in64 lo64 hi64; omega) hx hy rfl (nilA hm) (cn1 (notB hb))
include hc hm hx hy in
theorem needs_0_2_0 : Calls Try.prog 4 #[.agg cs.toArray, opVal 0 2 0 x, .int .i64 y] w fun r w' => r = .returned (.bool true) ∧ Below w.heap.size w w' := by
  cases hb : (envV w cs (opInts1 0 2 0 x y)).b 22 with
  | true => exact run_v1 (fun5_ok 4) N_0_2_0_1 hc (by unfold in64 lo64 hi64; omega) (by unfold in64 lo64 hi64; omega) (by unfold in64 lo64 hi64; omega) hx hy rfl (nilA hm) (cn1 (yesB hb))
  | false => exact run_v1 (fun5_ok 4) N_0_2_0_0 hc (by unfold in64 lo64 hi64; omega) (by unfold in64 lo64 hi64; omega) (by unfold in64 lo64 hi64; omega) hx hy rfl (nilA hm) (cn1 (notB hb))
include hc hm hx hy in
theorem needs_0_3_0 : Calls Try.prog 4 #[.agg cs.toArray, opVal 0 3 0 x, .int .i64 y] w fun r w' => r = .returned (.bool true) ∧ Below w.heap.size w w' := by
  cases hb : (envV w cs (opInts1 0 3 0 x y)).b 23 with
  | true => exact run_v1 (fun5_ok 4) N_0_3_0_1 hc (by unfold in64 lo64 hi64; omega) (by unfold in64 lo64 hi64; omega) (by unfold in64 lo64 hi64; omega) hx hy rfl (nilA hm) (cn1 (yesB hb))
  | false => exact run_v1 (fun5_ok 4) N_0_3_0_0 hc (by unfold in64 lo64 hi64; omega) (by unfold in64 lo64 hi64; omega) (by unfold in64 lo64 hi64; omega) hx hy rfl (nilA hm) (cn1 (notB hb))
include hc hm hx hy in
theorem needs_1_0_0 : Calls Try.prog 4 #[.agg cs.toArray, opVal 1 0 0 x, .int .i64 y] w fun r w' => r = .returned (.bool true) ∧ Below w.heap.size w w' := by
  cases hb : (envV w cs (opInts1 1 0 0 x y)).b 20 with
  | true => exact run_v1 (fun5_ok 4) N_1_0_0_1 hc (by unfold in64 lo64 hi64; omega) (by unfold in64 lo64 hi64; omega) (by unfold in64 lo64 hi64; omega) hx hy rfl (nilA hm) (cn1 (yesB hb))
  | false => exact run_v1 (fun5_ok 4) N_1_0_0_0 hc (by unfold in64 lo64 hi64; omega) (by unfold in64 lo64 hi64; omega) (by unfold in64 lo64 hi64; omega) hx hy rfl (nilA hm) (cn1 (notB hb))
include hc hm hx hy in
theorem needs_1_1_0 : Calls Try.prog 4 #[.agg cs.toArray, opVal 1 1 0 x, .int .i64 y] w fun r w' => r = .returned (.bool true) ∧ Below w.heap.size w w' := by
  cases hb : (envV w cs (opInts1 1 1 0 x y)).b 21 with
  | true => exact run_v1 (fun5_ok 4) N_1_1_0_1 hc (by unfold in64 lo64 hi64; omega) (by unfold in64 lo64 hi64; omega) (by unfold in64 lo64 hi64; omega) hx hy rfl (nilA hm) (cn1 (yesB hb))
  | false => exact run_v1 (fun5_ok 4) N_1_1_0_0 hc (by unfold in64 lo64 hi64; omega) (by unfold in64 lo64 hi64; omega) (by unfold in64 lo64 hi64; omega) hx hy rfl (nilA hm) (cn1 (notB hb))
include hc hm hx hy in
theorem needs_1_2_0 : Calls Try.prog 4 #[.agg cs.toArray, opVal 1 2 0 x, .int .i64 y] w fun r w' => r = .returned (.bool true) ∧ Below w.heap.size w w' := by
  cases hb : (envV w cs (opInts1 1 2 0 x y)).b 22 with
  | true => exact run_v1 (fun5_ok 4) N_1_2_0_1 hc (by unfold in64 lo64 hi64; omega) (by unfold in64 lo64 hi64; omega) (by unfold in64 lo64 hi64; omega) hx hy rfl (nilA hm) (cn1 (yesB hb))
  | false => exact run_v1 (fun5_ok 4) N_1_2_0_0 hc (by unfold in64 lo64 hi64; omega) (by unfold in64 lo64 hi64; omega) (by unfold in64 lo64 hi64; omega) hx hy rfl (nilA hm) (cn1 (notB hb))
include hc hm hx hy in
theorem needs_1_3_0 : Calls Try.prog 4 #[.agg cs.toArray, opVal 1 3 0 x, .int .i64 y] w fun r w' => r = .returned (.bool true) ∧ Below w.heap.size w w' := by
  cases hb : (envV w cs (opInts1 1 3 0 x y)).b 23 with
  | true => exact run_v1 (fun5_ok 4) N_1_3_0_1 hc (by unfold in64 lo64 hi64; omega) (by unfold in64 lo64 hi64; omega) (by unfold in64 lo64 hi64; omega) hx hy rfl (nilA hm) (cn1 (yesB hb))
  | false => exact run_v1 (fun5_ok 4) N_1_3_0_0 hc (by unfold in64 lo64 hi64; omega) (by unfold in64 lo64 hi64; omega) (by unfold in64 lo64 hi64; omega) hx hy rfl (nilA hm) (cn1 (notB hb))
include hc hm hx hy in
theorem needs_2_0_0 : Calls Try.prog 4 #[.agg cs.toArray, opVal 2 0 0 x, .int .i64 y] w fun r w' => r = .returned (.bool true) ∧ Below w.heap.size w w' := by
  cases hb : (envV w cs (opInts1 2 0 0 x y)).b 20 with
  | true => exact run_v1 (fun5_ok 4) N_2_0_0_1 hc (by unfold in64 lo64 hi64; omega) (by unfold in64 lo64 hi64; omega) (by unfold in64 lo64 hi64; omega) hx hy rfl (nilA hm) (cn1 (yesB hb))
  | false => exact run_v1 (fun5_ok 4) N_2_0_0_0 hc (by unfold in64 lo64 hi64; omega) (by unfold in64 lo64 hi64; omega) (by unfold in64 lo64 hi64; omega) hx hy rfl (nilA hm) (cn1 (notB hb))
include hc hm hx hy in
theorem needs_2_1_0 : Calls Try.prog 4 #[.agg cs.toArray, opVal 2 1 0 x, .int .i64 y] w fun r w' => r = .returned (.bool true) ∧ Below w.heap.size w w' := by
  cases hb : (envV w cs (opInts1 2 1 0 x y)).b 21 with
  | true => exact run_v1 (fun5_ok 4) N_2_1_0_1 hc (by unfold in64 lo64 hi64; omega) (by unfold in64 lo64 hi64; omega) (by unfold in64 lo64 hi64; omega) hx hy rfl (nilA hm) (cn1 (yesB hb))
  | false => exact run_v1 (fun5_ok 4) N_2_1_0_0 hc (by unfold in64 lo64 hi64; omega) (by unfold in64 lo64 hi64; omega) (by unfold in64 lo64 hi64; omega) hx hy rfl (nilA hm) (cn1 (notB hb))
include hc hm hx hy in
theorem needs_2_2_0 : Calls Try.prog 4 #[.agg cs.toArray, opVal 2 2 0 x, .int .i64 y] w fun r w' => r = .returned (.bool true) ∧ Below w.heap.size w w' := by
  cases hb : (envV w cs (opInts1 2 2 0 x y)).b 22 with
  | true => exact run_v1 (fun5_ok 4) N_2_2_0_1 hc (by unfold in64 lo64 hi64; omega) (by unfold in64 lo64 hi64; omega) (by unfold in64 lo64 hi64; omega) hx hy rfl (nilA hm) (cn1 (yesB hb))
  | false => exact run_v1 (fun5_ok 4) N_2_2_0_0 hc (by unfold in64 lo64 hi64; omega) (by unfold in64 lo64 hi64; omega) (by unfold in64 lo64 hi64; omega) hx hy rfl (nilA hm) (cn1 (notB hb))
include hc hm hx hy in
theorem needs_2_3_0 : Calls Try.prog 4 #[.agg cs.toArray, opVal 2 3 0 x, .int .i64 y] w fun r w' => r = .returned (.bool true) ∧ Below w.heap.size w w' := by
  cases hb : (envV w cs (opInts1 2 3 0 x y)).b 23 with
  | true => exact run_v1 (fun5_ok 4) N_2_3_0_1 hc (by unfold in64 lo64 hi64; omega) (by unfold in64 lo64 hi64; omega) (by unfold in64 lo64 hi64; omega) hx hy rfl (nilA hm) (cn1 (yesB hb))
  | false => exact run_v1 (fun5_ok 4) N_2_3_0_0 hc (by unfold in64 lo64 hi64; omega) (by unfold in64 lo64 hi64; omega) (by unfold in64 lo64 hi64; omega) hx hy rfl (nilA hm) (cn1 (notB hb))
include hc hm hx hy in
theorem needs_3_0_0 : Calls Try.prog 4 #[.agg cs.toArray, opVal 3 0 0 x, .int .i64 y] w fun r w' => r = .returned (.bool true) ∧ Below w.heap.size w w' := by
  cases hb : (envV w cs (opInts1 3 0 0 x y)).b 20 with
  | true => exact run_v1 (fun5_ok 4) N_3_0_0_1 hc (by unfold in64 lo64 hi64; omega) (by unfold in64 lo64 hi64; omega) (by unfold in64 lo64 hi64; omega) hx hy rfl (nilA hm) (cn1 (yesB hb))
  | false => exact run_v1 (fun5_ok 4) N_3_0_0_0 hc (by unfold in64 lo64 hi64; omega) (by unfold in64 lo64 hi64; omega) (by unfold in64 lo64 hi64; omega) hx hy rfl (nilA hm) (cn1 (notB hb))
include hc hm hx hy in
theorem needs_3_1_0 : Calls Try.prog 4 #[.agg cs.toArray, opVal 3 1 0 x, .int .i64 y] w fun r w' => r = .returned (.bool true) ∧ Below w.heap.size w w' := by
  cases hb : (envV w cs (opInts1 3 1 0 x y)).b 21 with
  | true => exact run_v1 (fun5_ok 4) N_3_1_0_1 hc (by unfold in64 lo64 hi64; omega) (by unfold in64 lo64 hi64; omega) (by unfold in64 lo64 hi64; omega) hx hy rfl (nilA hm) (cn1 (yesB hb))
  | false => exact run_v1 (fun5_ok 4) N_3_1_0_0 hc (by unfold in64 lo64 hi64; omega) (by unfold in64 lo64 hi64; omega) (by unfold in64 lo64 hi64; omega) hx hy rfl (nilA hm) (cn1 (notB hb))
include hc hm hx hy in
theorem needs_3_2_0 : Calls Try.prog 4 #[.agg cs.toArray, opVal 3 2 0 x, .int .i64 y] w fun r w' => r = .returned (.bool true) ∧ Below w.heap.size w w' := by
  cases hb : (envV w cs (opInts1 3 2 0 x y)).b 22 with
  | true => exact run_v1 (fun5_ok 4) N_3_2_0_1 hc (by unfold in64 lo64 hi64; omega) (by unfold in64 lo64 hi64; omega) (by unfold in64 lo64 hi64; omega) hx hy rfl (nilA hm) (cn1 (yesB hb))
  | false => exact run_v1 (fun5_ok 4) N_3_2_0_0 hc (by unfold in64 lo64 hi64; omega) (by unfold in64 lo64 hi64; omega) (by unfold in64 lo64 hi64; omega) hx hy rfl (nilA hm) (cn1 (notB hb))
include hc hm hx hy in
theorem needs_3_3_0 : Calls Try.prog 4 #[.agg cs.toArray, opVal 3 3 0 x, .int .i64 y] w fun r w' => r = .returned (.bool true) ∧ Below w.heap.size w w' := by
  cases hb : (envV w cs (opInts1 3 3 0 x y)).b 23 with
  | true => exact run_v1 (fun5_ok 4) N_3_3_0_1 hc (by unfold in64 lo64 hi64; omega) (by unfold in64 lo64 hi64; omega) (by unfold in64 lo64 hi64; omega) hx hy rfl (nilA hm) (cn1 (yesB hb))
  | false => exact run_v1 (fun5_ok 4) N_3_3_0_0 hc (by unfold in64 lo64 hi64; omega) (by unfold in64 lo64 hi64; omega) (by unfold in64 lo64 hi64; omega) hx hy rfl (nilA hm) (cn1 (notB hb))
include hc hm hx hy in
theorem needs_4_0_0 : Calls Try.prog 4 #[.agg cs.toArray, opVal 4 0 0 x, .int .i64 y] w fun r w' => r = .returned (.bool true) ∧ Below w.heap.size w w' := by
  cases hb : (envV w cs (opInts1 4 0 0 x y)).b 20 with
  | true => exact run_v1 (fun5_ok 4) N_4_0_0_1 hc (by unfold in64 lo64 hi64; omega) (by unfold in64 lo64 hi64; omega) (by unfold in64 lo64 hi64; omega) hx hy rfl (nilA hm) (cn1 (yesB hb))
  | false => exact run_v1 (fun5_ok 4) N_4_0_0_0 hc (by unfold in64 lo64 hi64; omega) (by unfold in64 lo64 hi64; omega) (by unfold in64 lo64 hi64; omega) hx hy rfl (nilA hm) (cn1 (notB hb))
include hc hm hx hy in
theorem needs_4_0_1 : Calls Try.prog 4 #[.agg cs.toArray, opVal 4 0 1 x, .int .i64 y] w fun r w' => r = .returned (.bool true) ∧ Below w.heap.size w w' := by
  rcases cutA (w := w) hm (ints := (opInts1 4 0 1 x y)) 0 (by decide) with ca | ca <;> rcases cutA (w := w) hm (ints := (opInts1 4 0 1 x y)) 1 (by decide) with cb | cb <;> cases ha : (envV w cs (opInts1 4 0 1 x y)).b 20 <;> cases hb : (envV w cs (opInts1 4 0 1 x y)).b 21
  · exact run_v1 (fun5_ok 4) N_4_0_1_00_0 hc (by unfold in64 lo64 hi64; omega) (by unfold in64 lo64 hi64; omega) (by unfold in64 lo64 hi64; omega) hx hy rfl (facts_A hm (one1 ca)) (cn2 (notB ha) (notB hb))
  · exact run_v1 (fun5_ok 4) N_4_0_1_01_0 hc (by unfold in64 lo64 hi64; omega) (by unfold in64 lo64 hi64; omega) (by unfold in64 lo64 hi64; omega) hx hy rfl (facts_A hm (one1 ca)) (cn2 (notB ha) (yesB hb))
  · exact run_v1 (fun5_ok 4) N_4_0_1_10_0 hc (by unfold in64 lo64 hi64; omega) (by unfold in64 lo64 hi64; omega) (by unfold in64 lo64 hi64; omega) hx hy rfl (facts_A hm (one1 ca)) (cn2 (yesB ha) (notB hb))
  · exact run_v1 (fun5_ok 4) N_4_0_1_11_0 hc (by unfold in64 lo64 hi64; omega) (by unfold in64 lo64 hi64; omega) (by unfold in64 lo64 hi64; omega) hx hy rfl (facts_A hm (one1 ca)) (cn2 (yesB ha) (yesB hb))
  · exact run_v1 (fun5_ok 4) N_4_0_1_00_0 hc (by unfold in64 lo64 hi64; omega) (by unfold in64 lo64 hi64; omega) (by unfold in64 lo64 hi64; omega) hx hy rfl (facts_A hm (one1 ca)) (cn2 (notB ha) (notB hb))
  · exact run_v1 (fun5_ok 4) N_4_0_1_01_0 hc (by unfold in64 lo64 hi64; omega) (by unfold in64 lo64 hi64; omega) (by unfold in64 lo64 hi64; omega) hx hy rfl (facts_A hm (one1 ca)) (cn2 (notB ha) (yesB hb))
  · exact run_v1 (fun5_ok 4) N_4_0_1_10_0 hc (by unfold in64 lo64 hi64; omega) (by unfold in64 lo64 hi64; omega) (by unfold in64 lo64 hi64; omega) hx hy rfl (facts_A hm (one1 ca)) (cn2 (yesB ha) (notB hb))
  · exact run_v1 (fun5_ok 4) N_4_0_1_11_0 hc (by unfold in64 lo64 hi64; omega) (by unfold in64 lo64 hi64; omega) (by unfold in64 lo64 hi64; omega) hx hy rfl (facts_A hm (one1 ca)) (cn2 (yesB ha) (yesB hb))
  · exact run_v1 (fun5_ok 4) N_4_0_1_00_1 hc (by unfold in64 lo64 hi64; omega) (by unfold in64 lo64 hi64; omega) (by unfold in64 lo64 hi64; omega) hx hy rfl (facts_A hm (two1 ca cb)) (cn2 (notB ha) (notB hb))
  · exact run_v1 (fun5_ok 4) N_4_0_1_01_1 hc (by unfold in64 lo64 hi64; omega) (by unfold in64 lo64 hi64; omega) (by unfold in64 lo64 hi64; omega) hx hy rfl (facts_A hm (two1 ca cb)) (cn2 (notB ha) (yesB hb))
  · exact run_v1 (fun5_ok 4) N_4_0_1_10_1 hc (by unfold in64 lo64 hi64; omega) (by unfold in64 lo64 hi64; omega) (by unfold in64 lo64 hi64; omega) hx hy rfl (facts_A hm (two1 ca cb)) (cn2 (yesB ha) (notB hb))
  · exact run_v1 (fun5_ok 4) N_4_0_1_11_1 hc (by unfold in64 lo64 hi64; omega) (by unfold in64 lo64 hi64; omega) (by unfold in64 lo64 hi64; omega) hx hy rfl (facts_A hm (two1 ca cb)) (cn2 (yesB ha) (yesB hb))
  · exact run_v1 (fun5_ok 4) N_4_0_1_00_2 hc (by unfold in64 lo64 hi64; omega) (by unfold in64 lo64 hi64; omega) (by unfold in64 lo64 hi64; omega) hx hy rfl (facts_A hm (two1 ca cb)) (cn2 (notB ha) (notB hb))
  · exact run_v1 (fun5_ok 4) N_4_0_1_01_2 hc (by unfold in64 lo64 hi64; omega) (by unfold in64 lo64 hi64; omega) (by unfold in64 lo64 hi64; omega) hx hy rfl (facts_A hm (two1 ca cb)) (cn2 (notB ha) (yesB hb))
  · exact run_v1 (fun5_ok 4) N_4_0_1_10_2 hc (by unfold in64 lo64 hi64; omega) (by unfold in64 lo64 hi64; omega) (by unfold in64 lo64 hi64; omega) hx hy rfl (facts_A hm (two1 ca cb)) (cn2 (yesB ha) (notB hb))
  · exact run_v1 (fun5_ok 4) N_4_0_1_11_2 hc (by unfold in64 lo64 hi64; omega) (by unfold in64 lo64 hi64; omega) (by unfold in64 lo64 hi64; omega) hx hy rfl (facts_A hm (two1 ca cb)) (cn2 (yesB ha) (yesB hb))
include hc hm hx hy in
theorem needs_4_0_2 : Calls Try.prog 4 #[.agg cs.toArray, opVal 4 0 2 x, .int .i64 y] w fun r w' => r = .returned (.bool true) ∧ Below w.heap.size w w' := by
  rcases cutA (w := w) hm (ints := (opInts1 4 0 2 x y)) 0 (by decide) with ca | ca <;> rcases cutA (w := w) hm (ints := (opInts1 4 0 2 x y)) 2 (by decide) with cb | cb <;> cases ha : (envV w cs (opInts1 4 0 2 x y)).b 20 <;> cases hb : (envV w cs (opInts1 4 0 2 x y)).b 22
  · exact run_v1 (fun5_ok 4) N_4_0_2_00_0 hc (by unfold in64 lo64 hi64; omega) (by unfold in64 lo64 hi64; omega) (by unfold in64 lo64 hi64; omega) hx hy rfl (facts_A hm (one1 ca)) (cn2 (notB ha) (notB hb))
  · exact run_v1 (fun5_ok 4) N_4_0_2_01_0 hc (by unfold in64 lo64 hi64; omega) (by unfold in64 lo64 hi64; omega) (by unfold in64 lo64 hi64; omega) hx hy rfl (facts_A hm (one1 ca)) (cn2 (notB ha) (yesB hb))
  · exact run_v1 (fun5_ok 4) N_4_0_2_10_0 hc (by unfold in64 lo64 hi64; omega) (by unfold in64 lo64 hi64; omega) (by unfold in64 lo64 hi64; omega) hx hy rfl (facts_A hm (one1 ca)) (cn2 (yesB ha) (notB hb))
  · exact run_v1 (fun5_ok 4) N_4_0_2_11_0 hc (by unfold in64 lo64 hi64; omega) (by unfold in64 lo64 hi64; omega) (by unfold in64 lo64 hi64; omega) hx hy rfl (facts_A hm (one1 ca)) (cn2 (yesB ha) (yesB hb))
  · exact run_v1 (fun5_ok 4) N_4_0_2_00_0 hc (by unfold in64 lo64 hi64; omega) (by unfold in64 lo64 hi64; omega) (by unfold in64 lo64 hi64; omega) hx hy rfl (facts_A hm (one1 ca)) (cn2 (notB ha) (notB hb))
  · exact run_v1 (fun5_ok 4) N_4_0_2_01_0 hc (by unfold in64 lo64 hi64; omega) (by unfold in64 lo64 hi64; omega) (by unfold in64 lo64 hi64; omega) hx hy rfl (facts_A hm (one1 ca)) (cn2 (notB ha) (yesB hb))
  · exact run_v1 (fun5_ok 4) N_4_0_2_10_0 hc (by unfold in64 lo64 hi64; omega) (by unfold in64 lo64 hi64; omega) (by unfold in64 lo64 hi64; omega) hx hy rfl (facts_A hm (one1 ca)) (cn2 (yesB ha) (notB hb))
  · exact run_v1 (fun5_ok 4) N_4_0_2_11_0 hc (by unfold in64 lo64 hi64; omega) (by unfold in64 lo64 hi64; omega) (by unfold in64 lo64 hi64; omega) hx hy rfl (facts_A hm (one1 ca)) (cn2 (yesB ha) (yesB hb))
  · exact run_v1 (fun5_ok 4) N_4_0_2_00_1 hc (by unfold in64 lo64 hi64; omega) (by unfold in64 lo64 hi64; omega) (by unfold in64 lo64 hi64; omega) hx hy rfl (facts_A hm (two1 ca cb)) (cn2 (notB ha) (notB hb))
  · exact run_v1 (fun5_ok 4) N_4_0_2_01_1 hc (by unfold in64 lo64 hi64; omega) (by unfold in64 lo64 hi64; omega) (by unfold in64 lo64 hi64; omega) hx hy rfl (facts_A hm (two1 ca cb)) (cn2 (notB ha) (yesB hb))
  · exact run_v1 (fun5_ok 4) N_4_0_2_10_1 hc (by unfold in64 lo64 hi64; omega) (by unfold in64 lo64 hi64; omega) (by unfold in64 lo64 hi64; omega) hx hy rfl (facts_A hm (two1 ca cb)) (cn2 (yesB ha) (notB hb))
  · exact run_v1 (fun5_ok 4) N_4_0_2_11_1 hc (by unfold in64 lo64 hi64; omega) (by unfold in64 lo64 hi64; omega) (by unfold in64 lo64 hi64; omega) hx hy rfl (facts_A hm (two1 ca cb)) (cn2 (yesB ha) (yesB hb))
  · exact run_v1 (fun5_ok 4) N_4_0_2_00_2 hc (by unfold in64 lo64 hi64; omega) (by unfold in64 lo64 hi64; omega) (by unfold in64 lo64 hi64; omega) hx hy rfl (facts_A hm (two1 ca cb)) (cn2 (notB ha) (notB hb))
  · exact run_v1 (fun5_ok 4) N_4_0_2_01_2 hc (by unfold in64 lo64 hi64; omega) (by unfold in64 lo64 hi64; omega) (by unfold in64 lo64 hi64; omega) hx hy rfl (facts_A hm (two1 ca cb)) (cn2 (notB ha) (yesB hb))
  · exact run_v1 (fun5_ok 4) N_4_0_2_10_2 hc (by unfold in64 lo64 hi64; omega) (by unfold in64 lo64 hi64; omega) (by unfold in64 lo64 hi64; omega) hx hy rfl (facts_A hm (two1 ca cb)) (cn2 (yesB ha) (notB hb))
  · exact run_v1 (fun5_ok 4) N_4_0_2_11_2 hc (by unfold in64 lo64 hi64; omega) (by unfold in64 lo64 hi64; omega) (by unfold in64 lo64 hi64; omega) hx hy rfl (facts_A hm (two1 ca cb)) (cn2 (yesB ha) (yesB hb))
include hc hm hx hy in
theorem needs_4_0_3 : Calls Try.prog 4 #[.agg cs.toArray, opVal 4 0 3 x, .int .i64 y] w fun r w' => r = .returned (.bool true) ∧ Below w.heap.size w w' := by
  rcases cutA (w := w) hm (ints := (opInts1 4 0 3 x y)) 0 (by decide) with ca | ca <;> rcases cutA (w := w) hm (ints := (opInts1 4 0 3 x y)) 3 (by decide) with cb | cb <;> cases ha : (envV w cs (opInts1 4 0 3 x y)).b 20 <;> cases hb : (envV w cs (opInts1 4 0 3 x y)).b 23
  · exact run_v1 (fun5_ok 4) N_4_0_3_00_0 hc (by unfold in64 lo64 hi64; omega) (by unfold in64 lo64 hi64; omega) (by unfold in64 lo64 hi64; omega) hx hy rfl (facts_A hm (one1 ca)) (cn2 (notB ha) (notB hb))
  · exact run_v1 (fun5_ok 4) N_4_0_3_01_0 hc (by unfold in64 lo64 hi64; omega) (by unfold in64 lo64 hi64; omega) (by unfold in64 lo64 hi64; omega) hx hy rfl (facts_A hm (one1 ca)) (cn2 (notB ha) (yesB hb))
  · exact run_v1 (fun5_ok 4) N_4_0_3_10_0 hc (by unfold in64 lo64 hi64; omega) (by unfold in64 lo64 hi64; omega) (by unfold in64 lo64 hi64; omega) hx hy rfl (facts_A hm (one1 ca)) (cn2 (yesB ha) (notB hb))
  · exact run_v1 (fun5_ok 4) N_4_0_3_11_0 hc (by unfold in64 lo64 hi64; omega) (by unfold in64 lo64 hi64; omega) (by unfold in64 lo64 hi64; omega) hx hy rfl (facts_A hm (one1 ca)) (cn2 (yesB ha) (yesB hb))
  · exact run_v1 (fun5_ok 4) N_4_0_3_00_0 hc (by unfold in64 lo64 hi64; omega) (by unfold in64 lo64 hi64; omega) (by unfold in64 lo64 hi64; omega) hx hy rfl (facts_A hm (one1 ca)) (cn2 (notB ha) (notB hb))
  · exact run_v1 (fun5_ok 4) N_4_0_3_01_0 hc (by unfold in64 lo64 hi64; omega) (by unfold in64 lo64 hi64; omega) (by unfold in64 lo64 hi64; omega) hx hy rfl (facts_A hm (one1 ca)) (cn2 (notB ha) (yesB hb))
  · exact run_v1 (fun5_ok 4) N_4_0_3_10_0 hc (by unfold in64 lo64 hi64; omega) (by unfold in64 lo64 hi64; omega) (by unfold in64 lo64 hi64; omega) hx hy rfl (facts_A hm (one1 ca)) (cn2 (yesB ha) (notB hb))
  · exact run_v1 (fun5_ok 4) N_4_0_3_11_0 hc (by unfold in64 lo64 hi64; omega) (by unfold in64 lo64 hi64; omega) (by unfold in64 lo64 hi64; omega) hx hy rfl (facts_A hm (one1 ca)) (cn2 (yesB ha) (yesB hb))
  · exact run_v1 (fun5_ok 4) N_4_0_3_00_1 hc (by unfold in64 lo64 hi64; omega) (by unfold in64 lo64 hi64; omega) (by unfold in64 lo64 hi64; omega) hx hy rfl (facts_A hm (two1 ca cb)) (cn2 (notB ha) (notB hb))
  · exact run_v1 (fun5_ok 4) N_4_0_3_01_1 hc (by unfold in64 lo64 hi64; omega) (by unfold in64 lo64 hi64; omega) (by unfold in64 lo64 hi64; omega) hx hy rfl (facts_A hm (two1 ca cb)) (cn2 (notB ha) (yesB hb))
  · exact run_v1 (fun5_ok 4) N_4_0_3_10_1 hc (by unfold in64 lo64 hi64; omega) (by unfold in64 lo64 hi64; omega) (by unfold in64 lo64 hi64; omega) hx hy rfl (facts_A hm (two1 ca cb)) (cn2 (yesB ha) (notB hb))
  · exact run_v1 (fun5_ok 4) N_4_0_3_11_1 hc (by unfold in64 lo64 hi64; omega) (by unfold in64 lo64 hi64; omega) (by unfold in64 lo64 hi64; omega) hx hy rfl (facts_A hm (two1 ca cb)) (cn2 (yesB ha) (yesB hb))
  · exact run_v1 (fun5_ok 4) N_4_0_3_00_2 hc (by unfold in64 lo64 hi64; omega) (by unfold in64 lo64 hi64; omega) (by unfold in64 lo64 hi64; omega) hx hy rfl (facts_A hm (two1 ca cb)) (cn2 (notB ha) (notB hb))
  · exact run_v1 (fun5_ok 4) N_4_0_3_01_2 hc (by unfold in64 lo64 hi64; omega) (by unfold in64 lo64 hi64; omega) (by unfold in64 lo64 hi64; omega) hx hy rfl (facts_A hm (two1 ca cb)) (cn2 (notB ha) (yesB hb))
  · exact run_v1 (fun5_ok 4) N_4_0_3_10_2 hc (by unfold in64 lo64 hi64; omega) (by unfold in64 lo64 hi64; omega) (by unfold in64 lo64 hi64; omega) hx hy rfl (facts_A hm (two1 ca cb)) (cn2 (yesB ha) (notB hb))
  · exact run_v1 (fun5_ok 4) N_4_0_3_11_2 hc (by unfold in64 lo64 hi64; omega) (by unfold in64 lo64 hi64; omega) (by unfold in64 lo64 hi64; omega) hx hy rfl (facts_A hm (two1 ca cb)) (cn2 (yesB ha) (yesB hb))
include hc hm hx hy in
theorem needs_4_1_0 : Calls Try.prog 4 #[.agg cs.toArray, opVal 4 1 0 x, .int .i64 y] w fun r w' => r = .returned (.bool true) ∧ Below w.heap.size w w' := by
  rcases cutA (w := w) hm (ints := (opInts1 4 1 0 x y)) 1 (by decide) with ca | ca <;> rcases cutA (w := w) hm (ints := (opInts1 4 1 0 x y)) 0 (by decide) with cb | cb <;> cases ha : (envV w cs (opInts1 4 1 0 x y)).b 21 <;> cases hb : (envV w cs (opInts1 4 1 0 x y)).b 20
  · exact run_v1 (fun5_ok 4) N_4_1_0_00_0 hc (by unfold in64 lo64 hi64; omega) (by unfold in64 lo64 hi64; omega) (by unfold in64 lo64 hi64; omega) hx hy rfl (facts_A hm (one1 ca)) (cn2 (notB ha) (notB hb))
  · exact run_v1 (fun5_ok 4) N_4_1_0_01_0 hc (by unfold in64 lo64 hi64; omega) (by unfold in64 lo64 hi64; omega) (by unfold in64 lo64 hi64; omega) hx hy rfl (facts_A hm (one1 ca)) (cn2 (notB ha) (yesB hb))
  · exact run_v1 (fun5_ok 4) N_4_1_0_10_0 hc (by unfold in64 lo64 hi64; omega) (by unfold in64 lo64 hi64; omega) (by unfold in64 lo64 hi64; omega) hx hy rfl (facts_A hm (one1 ca)) (cn2 (yesB ha) (notB hb))
  · exact run_v1 (fun5_ok 4) N_4_1_0_11_0 hc (by unfold in64 lo64 hi64; omega) (by unfold in64 lo64 hi64; omega) (by unfold in64 lo64 hi64; omega) hx hy rfl (facts_A hm (one1 ca)) (cn2 (yesB ha) (yesB hb))
  · exact run_v1 (fun5_ok 4) N_4_1_0_00_0 hc (by unfold in64 lo64 hi64; omega) (by unfold in64 lo64 hi64; omega) (by unfold in64 lo64 hi64; omega) hx hy rfl (facts_A hm (one1 ca)) (cn2 (notB ha) (notB hb))
  · exact run_v1 (fun5_ok 4) N_4_1_0_01_0 hc (by unfold in64 lo64 hi64; omega) (by unfold in64 lo64 hi64; omega) (by unfold in64 lo64 hi64; omega) hx hy rfl (facts_A hm (one1 ca)) (cn2 (notB ha) (yesB hb))
  · exact run_v1 (fun5_ok 4) N_4_1_0_10_0 hc (by unfold in64 lo64 hi64; omega) (by unfold in64 lo64 hi64; omega) (by unfold in64 lo64 hi64; omega) hx hy rfl (facts_A hm (one1 ca)) (cn2 (yesB ha) (notB hb))
  · exact run_v1 (fun5_ok 4) N_4_1_0_11_0 hc (by unfold in64 lo64 hi64; omega) (by unfold in64 lo64 hi64; omega) (by unfold in64 lo64 hi64; omega) hx hy rfl (facts_A hm (one1 ca)) (cn2 (yesB ha) (yesB hb))
  · exact run_v1 (fun5_ok 4) N_4_1_0_00_1 hc (by unfold in64 lo64 hi64; omega) (by unfold in64 lo64 hi64; omega) (by unfold in64 lo64 hi64; omega) hx hy rfl (facts_A hm (two1 ca cb)) (cn2 (notB ha) (notB hb))
  · exact run_v1 (fun5_ok 4) N_4_1_0_01_1 hc (by unfold in64 lo64 hi64; omega) (by unfold in64 lo64 hi64; omega) (by unfold in64 lo64 hi64; omega) hx hy rfl (facts_A hm (two1 ca cb)) (cn2 (notB ha) (yesB hb))
  · exact run_v1 (fun5_ok 4) N_4_1_0_10_1 hc (by unfold in64 lo64 hi64; omega) (by unfold in64 lo64 hi64; omega) (by unfold in64 lo64 hi64; omega) hx hy rfl (facts_A hm (two1 ca cb)) (cn2 (yesB ha) (notB hb))
  · exact run_v1 (fun5_ok 4) N_4_1_0_11_1 hc (by unfold in64 lo64 hi64; omega) (by unfold in64 lo64 hi64; omega) (by unfold in64 lo64 hi64; omega) hx hy rfl (facts_A hm (two1 ca cb)) (cn2 (yesB ha) (yesB hb))
  · exact run_v1 (fun5_ok 4) N_4_1_0_00_2 hc (by unfold in64 lo64 hi64; omega) (by unfold in64 lo64 hi64; omega) (by unfold in64 lo64 hi64; omega) hx hy rfl (facts_A hm (two1 ca cb)) (cn2 (notB ha) (notB hb))
  · exact run_v1 (fun5_ok 4) N_4_1_0_01_2 hc (by unfold in64 lo64 hi64; omega) (by unfold in64 lo64 hi64; omega) (by unfold in64 lo64 hi64; omega) hx hy rfl (facts_A hm (two1 ca cb)) (cn2 (notB ha) (yesB hb))
  · exact run_v1 (fun5_ok 4) N_4_1_0_10_2 hc (by unfold in64 lo64 hi64; omega) (by unfold in64 lo64 hi64; omega) (by unfold in64 lo64 hi64; omega) hx hy rfl (facts_A hm (two1 ca cb)) (cn2 (yesB ha) (notB hb))
  · exact run_v1 (fun5_ok 4) N_4_1_0_11_2 hc (by unfold in64 lo64 hi64; omega) (by unfold in64 lo64 hi64; omega) (by unfold in64 lo64 hi64; omega) hx hy rfl (facts_A hm (two1 ca cb)) (cn2 (yesB ha) (yesB hb))
include hc hm hx hy in
theorem needs_4_1_1 : Calls Try.prog 4 #[.agg cs.toArray, opVal 4 1 1 x, .int .i64 y] w fun r w' => r = .returned (.bool true) ∧ Below w.heap.size w w' := by
  cases hb : (envV w cs (opInts1 4 1 1 x y)).b 21 with
  | true => exact run_v1 (fun5_ok 4) N_4_1_1_1 hc (by unfold in64 lo64 hi64; omega) (by unfold in64 lo64 hi64; omega) (by unfold in64 lo64 hi64; omega) hx hy rfl (nilA hm) (cn1 (yesB hb))
  | false => exact run_v1 (fun5_ok 4) N_4_1_1_0 hc (by unfold in64 lo64 hi64; omega) (by unfold in64 lo64 hi64; omega) (by unfold in64 lo64 hi64; omega) hx hy rfl (nilA hm) (cn1 (notB hb))
include hc hm hx hy in
theorem needs_4_1_2 : Calls Try.prog 4 #[.agg cs.toArray, opVal 4 1 2 x, .int .i64 y] w fun r w' => r = .returned (.bool true) ∧ Below w.heap.size w w' := by
  rcases cutA (w := w) hm (ints := (opInts1 4 1 2 x y)) 1 (by decide) with ca | ca <;> rcases cutA (w := w) hm (ints := (opInts1 4 1 2 x y)) 2 (by decide) with cb | cb <;> cases ha : (envV w cs (opInts1 4 1 2 x y)).b 21 <;> cases hb : (envV w cs (opInts1 4 1 2 x y)).b 22
  · exact run_v1 (fun5_ok 4) N_4_1_2_00_0 hc (by unfold in64 lo64 hi64; omega) (by unfold in64 lo64 hi64; omega) (by unfold in64 lo64 hi64; omega) hx hy rfl (facts_A hm (one1 ca)) (cn2 (notB ha) (notB hb))
  · exact run_v1 (fun5_ok 4) N_4_1_2_01_0 hc (by unfold in64 lo64 hi64; omega) (by unfold in64 lo64 hi64; omega) (by unfold in64 lo64 hi64; omega) hx hy rfl (facts_A hm (one1 ca)) (cn2 (notB ha) (yesB hb))
  · exact run_v1 (fun5_ok 4) N_4_1_2_10_0 hc (by unfold in64 lo64 hi64; omega) (by unfold in64 lo64 hi64; omega) (by unfold in64 lo64 hi64; omega) hx hy rfl (facts_A hm (one1 ca)) (cn2 (yesB ha) (notB hb))
  · exact run_v1 (fun5_ok 4) N_4_1_2_11_0 hc (by unfold in64 lo64 hi64; omega) (by unfold in64 lo64 hi64; omega) (by unfold in64 lo64 hi64; omega) hx hy rfl (facts_A hm (one1 ca)) (cn2 (yesB ha) (yesB hb))
  · exact run_v1 (fun5_ok 4) N_4_1_2_00_0 hc (by unfold in64 lo64 hi64; omega) (by unfold in64 lo64 hi64; omega) (by unfold in64 lo64 hi64; omega) hx hy rfl (facts_A hm (one1 ca)) (cn2 (notB ha) (notB hb))
  · exact run_v1 (fun5_ok 4) N_4_1_2_01_0 hc (by unfold in64 lo64 hi64; omega) (by unfold in64 lo64 hi64; omega) (by unfold in64 lo64 hi64; omega) hx hy rfl (facts_A hm (one1 ca)) (cn2 (notB ha) (yesB hb))
  · exact run_v1 (fun5_ok 4) N_4_1_2_10_0 hc (by unfold in64 lo64 hi64; omega) (by unfold in64 lo64 hi64; omega) (by unfold in64 lo64 hi64; omega) hx hy rfl (facts_A hm (one1 ca)) (cn2 (yesB ha) (notB hb))
  · exact run_v1 (fun5_ok 4) N_4_1_2_11_0 hc (by unfold in64 lo64 hi64; omega) (by unfold in64 lo64 hi64; omega) (by unfold in64 lo64 hi64; omega) hx hy rfl (facts_A hm (one1 ca)) (cn2 (yesB ha) (yesB hb))
  · exact run_v1 (fun5_ok 4) N_4_1_2_00_1 hc (by unfold in64 lo64 hi64; omega) (by unfold in64 lo64 hi64; omega) (by unfold in64 lo64 hi64; omega) hx hy rfl (facts_A hm (two1 ca cb)) (cn2 (notB ha) (notB hb))
  · exact run_v1 (fun5_ok 4) N_4_1_2_01_1 hc (by unfold in64 lo64 hi64; omega) (by unfold in64 lo64 hi64; omega) (by unfold in64 lo64 hi64; omega) hx hy rfl (facts_A hm (two1 ca cb)) (cn2 (notB ha) (yesB hb))
  · exact run_v1 (fun5_ok 4) N_4_1_2_10_1 hc (by unfold in64 lo64 hi64; omega) (by unfold in64 lo64 hi64; omega) (by unfold in64 lo64 hi64; omega) hx hy rfl (facts_A hm (two1 ca cb)) (cn2 (yesB ha) (notB hb))
  · exact run_v1 (fun5_ok 4) N_4_1_2_11_1 hc (by unfold in64 lo64 hi64; omega) (by unfold in64 lo64 hi64; omega) (by unfold in64 lo64 hi64; omega) hx hy rfl (facts_A hm (two1 ca cb)) (cn2 (yesB ha) (yesB hb))
  · exact run_v1 (fun5_ok 4) N_4_1_2_00_2 hc (by unfold in64 lo64 hi64; omega) (by unfold in64 lo64 hi64; omega) (by unfold in64 lo64 hi64; omega) hx hy rfl (facts_A hm (two1 ca cb)) (cn2 (notB ha) (notB hb))
  · exact run_v1 (fun5_ok 4) N_4_1_2_01_2 hc (by unfold in64 lo64 hi64; omega) (by unfold in64 lo64 hi64; omega) (by unfold in64 lo64 hi64; omega) hx hy rfl (facts_A hm (two1 ca cb)) (cn2 (notB ha) (yesB hb))
  · exact run_v1 (fun5_ok 4) N_4_1_2_10_2 hc (by unfold in64 lo64 hi64; omega) (by unfold in64 lo64 hi64; omega) (by unfold in64 lo64 hi64; omega) hx hy rfl (facts_A hm (two1 ca cb)) (cn2 (yesB ha) (notB hb))
  · exact run_v1 (fun5_ok 4) N_4_1_2_11_2 hc (by unfold in64 lo64 hi64; omega) (by unfold in64 lo64 hi64; omega) (by unfold in64 lo64 hi64; omega) hx hy rfl (facts_A hm (two1 ca cb)) (cn2 (yesB ha) (yesB hb))
include hc hm hx hy in
theorem needs_4_1_3 : Calls Try.prog 4 #[.agg cs.toArray, opVal 4 1 3 x, .int .i64 y] w fun r w' => r = .returned (.bool true) ∧ Below w.heap.size w w' := by
  rcases cutA (w := w) hm (ints := (opInts1 4 1 3 x y)) 1 (by decide) with ca | ca <;> rcases cutA (w := w) hm (ints := (opInts1 4 1 3 x y)) 3 (by decide) with cb | cb <;> cases ha : (envV w cs (opInts1 4 1 3 x y)).b 21 <;> cases hb : (envV w cs (opInts1 4 1 3 x y)).b 23
  · exact run_v1 (fun5_ok 4) N_4_1_3_00_0 hc (by unfold in64 lo64 hi64; omega) (by unfold in64 lo64 hi64; omega) (by unfold in64 lo64 hi64; omega) hx hy rfl (facts_A hm (one1 ca)) (cn2 (notB ha) (notB hb))
  · exact run_v1 (fun5_ok 4) N_4_1_3_01_0 hc (by unfold in64 lo64 hi64; omega) (by unfold in64 lo64 hi64; omega) (by unfold in64 lo64 hi64; omega) hx hy rfl (facts_A hm (one1 ca)) (cn2 (notB ha) (yesB hb))
  · exact run_v1 (fun5_ok 4) N_4_1_3_10_0 hc (by unfold in64 lo64 hi64; omega) (by unfold in64 lo64 hi64; omega) (by unfold in64 lo64 hi64; omega) hx hy rfl (facts_A hm (one1 ca)) (cn2 (yesB ha) (notB hb))
  · exact run_v1 (fun5_ok 4) N_4_1_3_11_0 hc (by unfold in64 lo64 hi64; omega) (by unfold in64 lo64 hi64; omega) (by unfold in64 lo64 hi64; omega) hx hy rfl (facts_A hm (one1 ca)) (cn2 (yesB ha) (yesB hb))
  · exact run_v1 (fun5_ok 4) N_4_1_3_00_0 hc (by unfold in64 lo64 hi64; omega) (by unfold in64 lo64 hi64; omega) (by unfold in64 lo64 hi64; omega) hx hy rfl (facts_A hm (one1 ca)) (cn2 (notB ha) (notB hb))
  · exact run_v1 (fun5_ok 4) N_4_1_3_01_0 hc (by unfold in64 lo64 hi64; omega) (by unfold in64 lo64 hi64; omega) (by unfold in64 lo64 hi64; omega) hx hy rfl (facts_A hm (one1 ca)) (cn2 (notB ha) (yesB hb))
  · exact run_v1 (fun5_ok 4) N_4_1_3_10_0 hc (by unfold in64 lo64 hi64; omega) (by unfold in64 lo64 hi64; omega) (by unfold in64 lo64 hi64; omega) hx hy rfl (facts_A hm (one1 ca)) (cn2 (yesB ha) (notB hb))
  · exact run_v1 (fun5_ok 4) N_4_1_3_11_0 hc (by unfold in64 lo64 hi64; omega) (by unfold in64 lo64 hi64; omega) (by unfold in64 lo64 hi64; omega) hx hy rfl (facts_A hm (one1 ca)) (cn2 (yesB ha) (yesB hb))
  · exact run_v1 (fun5_ok 4) N_4_1_3_00_1 hc (by unfold in64 lo64 hi64; omega) (by unfold in64 lo64 hi64; omega) (by unfold in64 lo64 hi64; omega) hx hy rfl (facts_A hm (two1 ca cb)) (cn2 (notB ha) (notB hb))
  · exact run_v1 (fun5_ok 4) N_4_1_3_01_1 hc (by unfold in64 lo64 hi64; omega) (by unfold in64 lo64 hi64; omega) (by unfold in64 lo64 hi64; omega) hx hy rfl (facts_A hm (two1 ca cb)) (cn2 (notB ha) (yesB hb))
  · exact run_v1 (fun5_ok 4) N_4_1_3_10_1 hc (by unfold in64 lo64 hi64; omega) (by unfold in64 lo64 hi64; omega) (by unfold in64 lo64 hi64; omega) hx hy rfl (facts_A hm (two1 ca cb)) (cn2 (yesB ha) (notB hb))
  · exact run_v1 (fun5_ok 4) N_4_1_3_11_1 hc (by unfold in64 lo64 hi64; omega) (by unfold in64 lo64 hi64; omega) (by unfold in64 lo64 hi64; omega) hx hy rfl (facts_A hm (two1 ca cb)) (cn2 (yesB ha) (yesB hb))
  · exact run_v1 (fun5_ok 4) N_4_1_3_00_2 hc (by unfold in64 lo64 hi64; omega) (by unfold in64 lo64 hi64; omega) (by unfold in64 lo64 hi64; omega) hx hy rfl (facts_A hm (two1 ca cb)) (cn2 (notB ha) (notB hb))
  · exact run_v1 (fun5_ok 4) N_4_1_3_01_2 hc (by unfold in64 lo64 hi64; omega) (by unfold in64 lo64 hi64; omega) (by unfold in64 lo64 hi64; omega) hx hy rfl (facts_A hm (two1 ca cb)) (cn2 (notB ha) (yesB hb))
  · exact run_v1 (fun5_ok 4) N_4_1_3_10_2 hc (by unfold in64 lo64 hi64; omega) (by unfold in64 lo64 hi64; omega) (by unfold in64 lo64 hi64; omega) hx hy rfl (facts_A hm (two1 ca cb)) (cn2 (yesB ha) (notB hb))
  · exact run_v1 (fun5_ok 4) N_4_1_3_11_2 hc (by unfold in64 lo64 hi64; omega) (by unfold in64 lo64 hi64; omega) (by unfold in64 lo64 hi64; omega) hx hy rfl (facts_A hm (two1 ca cb)) (cn2 (yesB ha) (yesB hb))
include hc hm hx hy in
theorem needs_4_2_0 : Calls Try.prog 4 #[.agg cs.toArray, opVal 4 2 0 x, .int .i64 y] w fun r w' => r = .returned (.bool true) ∧ Below w.heap.size w w' := by
  rcases cutA (w := w) hm (ints := (opInts1 4 2 0 x y)) 2 (by decide) with ca | ca <;> rcases cutA (w := w) hm (ints := (opInts1 4 2 0 x y)) 0 (by decide) with cb | cb <;> cases ha : (envV w cs (opInts1 4 2 0 x y)).b 22 <;> cases hb : (envV w cs (opInts1 4 2 0 x y)).b 20
  · exact run_v1 (fun5_ok 4) N_4_2_0_00_0 hc (by unfold in64 lo64 hi64; omega) (by unfold in64 lo64 hi64; omega) (by unfold in64 lo64 hi64; omega) hx hy rfl (facts_A hm (one1 ca)) (cn2 (notB ha) (notB hb))
  · exact run_v1 (fun5_ok 4) N_4_2_0_01_0 hc (by unfold in64 lo64 hi64; omega) (by unfold in64 lo64 hi64; omega) (by unfold in64 lo64 hi64; omega) hx hy rfl (facts_A hm (one1 ca)) (cn2 (notB ha) (yesB hb))
  · exact run_v1 (fun5_ok 4) N_4_2_0_10_0 hc (by unfold in64 lo64 hi64; omega) (by unfold in64 lo64 hi64; omega) (by unfold in64 lo64 hi64; omega) hx hy rfl (facts_A hm (one1 ca)) (cn2 (yesB ha) (notB hb))
  · exact run_v1 (fun5_ok 4) N_4_2_0_11_0 hc (by unfold in64 lo64 hi64; omega) (by unfold in64 lo64 hi64; omega) (by unfold in64 lo64 hi64; omega) hx hy rfl (facts_A hm (one1 ca)) (cn2 (yesB ha) (yesB hb))
  · exact run_v1 (fun5_ok 4) N_4_2_0_00_0 hc (by unfold in64 lo64 hi64; omega) (by unfold in64 lo64 hi64; omega) (by unfold in64 lo64 hi64; omega) hx hy rfl (facts_A hm (one1 ca)) (cn2 (notB ha) (notB hb))
  · exact run_v1 (fun5_ok 4) N_4_2_0_01_0 hc (by unfold in64 lo64 hi64; omega) (by unfold in64 lo64 hi64; omega) (by unfold in64 lo64 hi64; omega) hx hy rfl (facts_A hm (one1 ca)) (cn2 (notB ha) (yesB hb))
  · exact run_v1 (fun5_ok 4) N_4_2_0_10_0 hc (by unfold in64 lo64 hi64; omega) (by unfold in64 lo64 hi64; omega) (by unfold in64 lo64 hi64; omega) hx hy rfl (facts_A hm (one1 ca)) (cn2 (yesB ha) (notB hb))
  · exact run_v1 (fun5_ok 4) N_4_2_0_11_0 hc (by unfold in64 lo64 hi64; omega) (by unfold in64 lo64 hi64; omega) (by unfold in64 lo64 hi64; omega) hx hy rfl (facts_A hm (one1 ca)) (cn2 (yesB ha) (yesB hb))
  · exact run_v1 (fun5_ok 4) N_4_2_0_00_1 hc (by unfold in64 lo64 hi64; omega) (by unfold in64 lo64 hi64; omega) (by unfold in64 lo64 hi64; omega) hx hy rfl (facts_A hm (two1 ca cb)) (cn2 (notB ha) (notB hb))
  · exact run_v1 (fun5_ok 4) N_4_2_0_01_1 hc (by unfold in64 lo64 hi64; omega) (by unfold in64 lo64 hi64; omega) (by unfold in64 lo64 hi64; omega) hx hy rfl (facts_A hm (two1 ca cb)) (cn2 (notB ha) (yesB hb))
  · exact run_v1 (fun5_ok 4) N_4_2_0_10_1 hc (by unfold in64 lo64 hi64; omega) (by unfold in64 lo64 hi64; omega) (by unfold in64 lo64 hi64; omega) hx hy rfl (facts_A hm (two1 ca cb)) (cn2 (yesB ha) (notB hb))
  · exact run_v1 (fun5_ok 4) N_4_2_0_11_1 hc (by unfold in64 lo64 hi64; omega) (by unfold in64 lo64 hi64; omega) (by unfold in64 lo64 hi64; omega) hx hy rfl (facts_A hm (two1 ca cb)) (cn2 (yesB ha) (yesB hb))
  · exact run_v1 (fun5_ok 4) N_4_2_0_00_2 hc (by unfold in64 lo64 hi64; omega) (by unfold in64 lo64 hi64; omega) (by unfold in64 lo64 hi64; omega) hx hy rfl (facts_A hm (two1 ca cb)) (cn2 (notB ha) (notB hb))
  · exact run_v1 (fun5_ok 4) N_4_2_0_01_2 hc (by unfold in64 lo64 hi64; omega) (by unfold in64 lo64 hi64; omega) (by unfold in64 lo64 hi64; omega) hx hy rfl (facts_A hm (two1 ca cb)) (cn2 (notB ha) (yesB hb))
  · exact run_v1 (fun5_ok 4) N_4_2_0_10_2 hc (by unfold in64 lo64 hi64; omega) (by unfold in64 lo64 hi64; omega) (by unfold in64 lo64 hi64; omega) hx hy rfl (facts_A hm (two1 ca cb)) (cn2 (yesB ha) (notB hb))
  · exact run_v1 (fun5_ok 4) N_4_2_0_11_2 hc (by unfold in64 lo64 hi64; omega) (by unfold in64 lo64 hi64; omega) (by unfold in64 lo64 hi64; omega) hx hy rfl (facts_A hm (two1 ca cb)) (cn2 (yesB ha) (yesB hb))
include hc hm hx hy in
theorem needs_4_2_1 : Calls Try.prog 4 #[.agg cs.toArray, opVal 4 2 1 x, .int .i64 y] w fun r w' => r = .returned (.bool true) ∧ Below w.heap.size w w' := by
  rcases cutA (w := w) hm (ints := (opInts1 4 2 1 x y)) 2 (by decide) with ca | ca <;> rcases cutA (w := w) hm (ints := (opInts1 4 2 1 x y)) 1 (by decide) with cb | cb <;> cases ha : (envV w cs (opInts1 4 2 1 x y)).b 22 <;> cases hb : (envV w cs (opInts1 4 2 1 x y)).b 21
  · exact run_v1 (fun5_ok 4) N_4_2_1_00_0 hc (by unfold in64 lo64 hi64; omega) (by unfold in64 lo64 hi64; omega) (by unfold in64 lo64 hi64; omega) hx hy rfl (facts_A hm (one1 ca)) (cn2 (notB ha) (notB hb))
  · exact run_v1 (fun5_ok 4) N_4_2_1_01_0 hc (by unfold in64 lo64 hi64; omega) (by unfold in64 lo64 hi64; omega) (by unfold in64 lo64 hi64; omega) hx hy rfl (facts_A hm (one1 ca)) (cn2 (notB ha) (yesB hb))
  · exact run_v1 (fun5_ok 4) N_4_2_1_10_0 hc (by unfold in64 lo64 hi64; omega) (by unfold in64 lo64 hi64; omega) (by unfold in64 lo64 hi64; omega) hx hy rfl (facts_A hm (one1 ca)) (cn2 (yesB ha) (notB hb))
  · exact run_v1 (fun5_ok 4) N_4_2_1_11_0 hc (by unfold in64 lo64 hi64; omega) (by unfold in64 lo64 hi64; omega) (by unfold in64 lo64 hi64; omega) hx hy rfl (facts_A hm (one1 ca)) (cn2 (yesB ha) (yesB hb))
  · exact run_v1 (fun5_ok 4) N_4_2_1_00_0 hc (by unfold in64 lo64 hi64; omega) (by unfold in64 lo64 hi64; omega) (by unfold in64 lo64 hi64; omega) hx hy rfl (facts_A hm (one1 ca)) (cn2 (notB ha) (notB hb))
  · exact run_v1 (fun5_ok 4) N_4_2_1_01_0 hc (by unfold in64 lo64 hi64; omega) (by unfold in64 lo64 hi64; omega) (by unfold in64 lo64 hi64; omega) hx hy rfl (facts_A hm (one1 ca)) (cn2 (notB ha) (yesB hb))
  · exact run_v1 (fun5_ok 4) N_4_2_1_10_0 hc (by unfold in64 lo64 hi64; omega) (by unfold in64 lo64 hi64; omega) (by unfold in64 lo64 hi64; omega) hx hy rfl (facts_A hm (one1 ca)) (cn2 (yesB ha) (notB hb))
  · exact run_v1 (fun5_ok 4) N_4_2_1_11_0 hc (by unfold in64 lo64 hi64; omega) (by unfold in64 lo64 hi64; omega) (by unfold in64 lo64 hi64; omega) hx hy rfl (facts_A hm (one1 ca)) (cn2 (yesB ha) (yesB hb))
  · exact run_v1 (fun5_ok 4) N_4_2_1_00_1 hc (by unfold in64 lo64 hi64; omega) (by unfold in64 lo64 hi64; omega) (by unfold in64 lo64 hi64; omega) hx hy rfl (facts_A hm (two1 ca cb)) (cn2 (notB ha) (notB hb))
  · exact run_v1 (fun5_ok 4) N_4_2_1_01_1 hc (by unfold in64 lo64 hi64; omega) (by unfold in64 lo64 hi64; omega) (by unfold in64 lo64 hi64; omega) hx hy rfl (facts_A hm (two1 ca cb)) (cn2 (notB ha) (yesB hb))
  · exact run_v1 (fun5_ok 4) N_4_2_1_10_1 hc (by unfold in64 lo64 hi64; omega) (by unfold in64 lo64 hi64; omega) (by unfold in64 lo64 hi64; omega) hx hy rfl (facts_A hm (two1 ca cb)) (cn2 (yesB ha) (notB hb))
  · exact run_v1 (fun5_ok 4) N_4_2_1_11_1 hc (by unfold in64 lo64 hi64; omega) (by unfold in64 lo64 hi64; omega) (by unfold in64 lo64 hi64; omega) hx hy rfl (facts_A hm (two1 ca cb)) (cn2 (yesB ha) (yesB hb))
  · exact run_v1 (fun5_ok 4) N_4_2_1_00_2 hc (by unfold in64 lo64 hi64; omega) (by unfold in64 lo64 hi64; omega) (by unfold in64 lo64 hi64; omega) hx hy rfl (facts_A hm (two1 ca cb)) (cn2 (notB ha) (notB hb))
  · exact run_v1 (fun5_ok 4) N_4_2_1_01_2 hc (by unfold in64 lo64 hi64; omega) (by unfold in64 lo64 hi64; omega) (by unfold in64 lo64 hi64; omega) hx hy rfl (facts_A hm (two1 ca cb)) (cn2 (notB ha) (yesB hb))
  · exact run_v1 (fun5_ok 4) N_4_2_1_10_2 hc (by unfold in64 lo64 hi64; omega) (by unfold in64 lo64 hi64; omega) (by unfold in64 lo64 hi64; omega) hx hy rfl (facts_A hm (two1 ca cb)) (cn2 (yesB ha) (notB hb))
  · exact run_v1 (fun5_ok 4) N_4_2_1_11_2 hc (by unfold in64 lo64 hi64; omega) (by unfold in64 lo64 hi64; omega) (by unfold in64 lo64 hi64; omega) hx hy rfl (facts_A hm (two1 ca cb)) (cn2 (yesB ha) (yesB hb))
include hc hm hx hy in
theorem needs_4_2_2 : Calls Try.prog 4 #[.agg cs.toArray, opVal 4 2 2 x, .int .i64 y] w fun r w' => r = .returned (.bool true) ∧ Below w.heap.size w w' := by
  cases hb : (envV w cs (opInts1 4 2 2 x y)).b 22 with
  | true => exact run_v1 (fun5_ok 4) N_4_2_2_1 hc (by unfold in64 lo64 hi64; omega) (by unfold in64 lo64 hi64; omega) (by unfold in64 lo64 hi64; omega) hx hy rfl (nilA hm) (cn1 (yesB hb))
  | false => exact run_v1 (fun5_ok 4) N_4_2_2_0 hc (by unfold in64 lo64 hi64; omega) (by unfold in64 lo64 hi64; omega) (by unfold in64 lo64 hi64; omega) hx hy rfl (nilA hm) (cn1 (notB hb))
include hc hm hx hy in
theorem needs_4_2_3 : Calls Try.prog 4 #[.agg cs.toArray, opVal 4 2 3 x, .int .i64 y] w fun r w' => r = .returned (.bool true) ∧ Below w.heap.size w w' := by
  rcases cutA (w := w) hm (ints := (opInts1 4 2 3 x y)) 2 (by decide) with ca | ca <;> rcases cutA (w := w) hm (ints := (opInts1 4 2 3 x y)) 3 (by decide) with cb | cb <;> cases ha : (envV w cs (opInts1 4 2 3 x y)).b 22 <;> cases hb : (envV w cs (opInts1 4 2 3 x y)).b 23
  · exact run_v1 (fun5_ok 4) N_4_2_3_00_0 hc (by unfold in64 lo64 hi64; omega) (by unfold in64 lo64 hi64; omega) (by unfold in64 lo64 hi64; omega) hx hy rfl (facts_A hm (one1 ca)) (cn2 (notB ha) (notB hb))
  · exact run_v1 (fun5_ok 4) N_4_2_3_01_0 hc (by unfold in64 lo64 hi64; omega) (by unfold in64 lo64 hi64; omega) (by unfold in64 lo64 hi64; omega) hx hy rfl (facts_A hm (one1 ca)) (cn2 (notB ha) (yesB hb))
  · exact run_v1 (fun5_ok 4) N_4_2_3_10_0 hc (by unfold in64 lo64 hi64; omega) (by unfold in64 lo64 hi64; omega) (by unfold in64 lo64 hi64; omega) hx hy rfl (facts_A hm (one1 ca)) (cn2 (yesB ha) (notB hb))
  · exact run_v1 (fun5_ok 4) N_4_2_3_11_0 hc (by unfold in64 lo64 hi64; omega) (by unfold in64 lo64 hi64; omega) (by unfold in64 lo64 hi64; omega) hx hy rfl (facts_A hm (one1 ca)) (cn2 (yesB ha) (yesB hb))
  · exact run_v1 (fun5_ok 4) N_4_2_3_00_0 hc (by unfold in64 lo64 hi64; omega) (by unfold in64 lo64 hi64; omega) (by unfold in64 lo64 hi64; omega) hx hy rfl (facts_A hm (one1 ca)) (cn2 (notB ha) (notB hb))
  · exact run_v1 (fun5_ok 4) N_4_2_3_01_0 hc (by unfold in64 lo64 hi64; omega) (by unfold in64 lo64 hi64; omega) (by unfold in64 lo64 hi64; omega) hx hy rfl (facts_A hm (one1 ca)) (cn2 (notB ha) (yesB hb))
  · exact run_v1 (fun5_ok 4) N_4_2_3_10_0 hc (by unfold in64 lo64 hi64; omega) (by unfold in64 lo64 hi64; omega) (by unfold in64 lo64 hi64; omega) hx hy rfl (facts_A hm (one1 ca)) (cn2 (yesB ha) (notB hb))
  · exact run_v1 (fun5_ok 4) N_4_2_3_11_0 hc (by unfold in64 lo64 hi64; omega) (by unfold in64 lo64 hi64; omega) (by unfold in64 lo64 hi64; omega) hx hy rfl (facts_A hm (one1 ca)) (cn2 (yesB ha) (yesB hb))
  · exact run_v1 (fun5_ok 4) N_4_2_3_00_1 hc (by unfold in64 lo64 hi64; omega) (by unfold in64 lo64 hi64; omega) (by unfold in64 lo64 hi64; omega) hx hy rfl (facts_A hm (two1 ca cb)) (cn2 (notB ha) (notB hb))
  · exact run_v1 (fun5_ok 4) N_4_2_3_01_1 hc (by unfold in64 lo64 hi64; omega) (by unfold in64 lo64 hi64; omega) (by unfold in64 lo64 hi64; omega) hx hy rfl (facts_A hm (two1 ca cb)) (cn2 (notB ha) (yesB hb))
  · exact run_v1 (fun5_ok 4) N_4_2_3_10_1 hc (by unfold in64 lo64 hi64; omega) (by unfold in64 lo64 hi64; omega) (by unfold in64 lo64 hi64; omega) hx hy rfl (facts_A hm (two1 ca cb)) (cn2 (yesB ha) (notB hb))
  · exact run_v1 (fun5_ok 4) N_4_2_3_11_1 hc (by unfold in64 lo64 hi64; omega) (by unfold in64 lo64 hi64; omega) (by unfold in64 lo64 hi64; omega) hx hy rfl (facts_A hm (two1 ca cb)) (cn2 (yesB ha) (yesB hb))
  · exact run_v1 (fun5_ok 4) N_4_2_3_00_2 hc (by unfold in64 lo64 hi64; omega) (by unfold in64 lo64 hi64; omega) (by unfold in64 lo64 hi64; omega) hx hy rfl (facts_A hm (two1 ca cb)) (cn2 (notB ha) (notB hb))
  · exact run_v1 (fun5_ok 4) N_4_2_3_01_2 hc (by unfold in64 lo64 hi64; omega) (by unfold in64 lo64 hi64; omega) (by unfold in64 lo64 hi64; omega) hx hy rfl (facts_A hm (two1 ca cb)) (cn2 (notB ha) (yesB hb))
  · exact run_v1 (fun5_ok 4) N_4_2_3_10_2 hc (by unfold in64 lo64 hi64; omega) (by unfold in64 lo64 hi64; omega) (by unfold in64 lo64 hi64; omega) hx hy rfl (facts_A hm (two1 ca cb)) (cn2 (yesB ha) (notB hb))
  · exact run_v1 (fun5_ok 4) N_4_2_3_11_2 hc (by unfold in64 lo64 hi64; omega) (by unfold in64 lo64 hi64; omega) (by unfold in64 lo64 hi64; omega) hx hy rfl (facts_A hm (two1 ca cb)) (cn2 (yesB ha) (yesB hb))
include hc hm hx hy in
theorem needs_4_3_0 : Calls Try.prog 4 #[.agg cs.toArray, opVal 4 3 0 x, .int .i64 y] w fun r w' => r = .returned (.bool true) ∧ Below w.heap.size w w' := by
  rcases cutA (w := w) hm (ints := (opInts1 4 3 0 x y)) 3 (by decide) with ca | ca <;> rcases cutA (w := w) hm (ints := (opInts1 4 3 0 x y)) 0 (by decide) with cb | cb <;> cases ha : (envV w cs (opInts1 4 3 0 x y)).b 23 <;> cases hb : (envV w cs (opInts1 4 3 0 x y)).b 20
  · exact run_v1 (fun5_ok 4) N_4_3_0_00_0 hc (by unfold in64 lo64 hi64; omega) (by unfold in64 lo64 hi64; omega) (by unfold in64 lo64 hi64; omega) hx hy rfl (facts_A hm (one1 ca)) (cn2 (notB ha) (notB hb))
  · exact run_v1 (fun5_ok 4) N_4_3_0_01_0 hc (by unfold in64 lo64 hi64; omega) (by unfold in64 lo64 hi64; omega) (by unfold in64 lo64 hi64; omega) hx hy rfl (facts_A hm (one1 ca)) (cn2 (notB ha) (yesB hb))
  · exact run_v1 (fun5_ok 4) N_4_3_0_10_0 hc (by unfold in64 lo64 hi64; omega) (by unfold in64 lo64 hi64; omega) (by unfold in64 lo64 hi64; omega) hx hy rfl (facts_A hm (one1 ca)) (cn2 (yesB ha) (notB hb))
  · exact run_v1 (fun5_ok 4) N_4_3_0_11_0 hc (by unfold in64 lo64 hi64; omega) (by unfold in64 lo64 hi64; omega) (by unfold in64 lo64 hi64; omega) hx hy rfl (facts_A hm (one1 ca)) (cn2 (yesB ha) (yesB hb))
  · exact run_v1 (fun5_ok 4) N_4_3_0_00_0 hc (by unfold in64 lo64 hi64; omega) (by unfold in64 lo64 hi64; omega) (by unfold in64 lo64 hi64; omega) hx hy rfl (facts_A hm (one1 ca)) (cn2 (notB ha) (notB hb))
  · exact run_v1 (fun5_ok 4) N_4_3_0_01_0 hc (by unfold in64 lo64 hi64; omega) (by unfold in64 lo64 hi64; omega) (by unfold in64 lo64 hi64; omega) hx hy rfl (facts_A hm (one1 ca)) (cn2 (notB ha) (yesB hb))
  · exact run_v1 (fun5_ok 4) N_4_3_0_10_0 hc (by unfold in64 lo64 hi64; omega) (by unfold in64 lo64 hi64; omega) (by unfold in64 lo64 hi64; omega) hx hy rfl (facts_A hm (one1 ca)) (cn2 (yesB ha) (notB hb))
  · exact run_v1 (fun5_ok 4) N_4_3_0_11_0 hc (by unfold in64 lo64 hi64; omega) (by unfold in64 lo64 hi64; omega) (by unfold in64 lo64 hi64; omega) hx hy rfl (facts_A hm (one1 ca)) (cn2 (yesB ha) (yesB hb))
  · exact run_v1 (fun5_ok 4) N_4_3_0_00_1 hc (by unfold in64 lo64 hi64; omega) (by unfold in64 lo64 hi64; omega) (by unfold in64 lo64 hi64; omega) hx hy rfl (facts_A hm (two1 ca cb)) (cn2 (notB ha) (notB hb))
  · exact run_v1 (fun5_ok 4) N_4_3_0_01_1 hc (by unfold in64 lo64 hi64; omega) (by unfold in64 lo64 hi64; omega) (by unfold in64 lo64 hi64; omega) hx hy rfl (facts_A hm (two1 ca cb)) (cn2 (notB ha) (yesB hb))
  · exact run_v1 (fun5_ok 4) N_4_3_0_10_1 hc (by unfold in64 lo64 hi64; omega) (by unfold in64 lo64 hi64; omega) (by unfold in64 lo64 hi64; omega) hx hy rfl (facts_A hm (two1 ca cb)) (cn2 (yesB ha) (notB hb))
  · exact run_v1 (fun5_ok 4) N_4_3_0_11_1 hc (by unfold in64 lo64 hi64; omega) (by unfold in64 lo64 hi64; omega) (by unfold in64 lo64 hi64; omega) hx hy rfl (facts_A hm (two1 ca cb)) (cn2 (yesB ha) (yesB hb))
  · exact run_v1 (fun5_ok 4) N_4_3_0_00_2 hc (by unfold in64 lo64 hi64; omega) (by unfold in64 lo64 hi64; omega) (by unfold in64 lo64 hi64; omega) hx hy rfl (facts_A hm (two1 ca cb)) (cn2 (notB ha) (notB hb))
  · exact run_v1 (fun5_ok 4) N_4_3_0_01_2 hc (by unfold in64 lo64 hi64; omega) (by unfold in64 lo64 hi64; omega) (by unfold in64 lo64 hi64; omega) hx hy rfl (facts_A hm (two1 ca cb)) (cn2 (notB ha) (yesB hb))
  · exact run_v1 (fun5_ok 4) N_4_3_0_10_2 hc (by unfold in64 lo64 hi64; omega) (by unfold in64 lo64 hi64; omega) (by unfold in64 lo64 hi64; omega) hx hy rfl (facts_A hm (two1 ca cb)) (cn2 (yesB ha) (notB hb))
  · exact run_v1 (fun5_ok 4) N_4_3_0_11_2 hc (by unfold in64 lo64 hi64; omega) (by unfold in64 lo64 hi64; omega) (by unfold in64 lo64 hi64; omega) hx hy rfl (facts_A hm (two1 ca cb)) (cn2 (yesB ha) (yesB hb))
include hc hm hx hy in
theorem needs_4_3_1 : Calls Try.prog 4 #[.agg cs.toArray, opVal 4 3 1 x, .int .i64 y] w fun r w' => r = .returned (.bool true) ∧ Below w.heap.size w w' := by
  rcases cutA (w := w) hm (ints := (opInts1 4 3 1 x y)) 3 (by decide) with ca | ca <;> rcases cutA (w := w) hm (ints := (opInts1 4 3 1 x y)) 1 (by decide) with cb | cb <;> cases ha : (envV w cs (opInts1 4 3 1 x y)).b 23 <;> cases hb : (envV w cs (opInts1 4 3 1 x y)).b 21
  · exact run_v1 (fun5_ok 4) N_4_3_1_00_0 hc (by unfold in64 lo64 hi64; omega) (by unfold in64 lo64 hi64; omega) (by unfold in64 lo64 hi64; omega) hx hy rfl (facts_A hm (one1 ca)) (cn2 (notB ha) (notB hb))
  · exact run_v1 (fun5_ok 4) N_4_3_1_01_0 hc (by unfold in64 lo64 hi64; omega) (by unfold in64 lo64 hi64; omega) (by unfold in64 lo64 hi64; omega) hx hy rfl (facts_A hm (one1 ca)) (cn2 (notB ha) (yesB hb))
  · exact run_v1 (fun5_ok 4) N_4_3_1_10_0 hc (by unfold in64 lo64 hi64; omega) (by unfold in64 lo64 hi64; omega) (by unfold in64 lo64 hi64; omega) hx hy rfl (facts_A hm (one1 ca)) (cn2 (yesB ha) (notB hb))
  · exact run_v1 (fun5_ok 4) N_4_3_1_11_0 hc (by unfold in64 lo64 hi64; omega) (by unfold in64 lo64 hi64; omega) (by unfold in64 lo64 hi64; omega) hx hy rfl (facts_A hm (one1 ca)) (cn2 (yesB ha) (yesB hb))
  · exact run_v1 (fun5_ok 4) N_4_3_1_00_0 hc (by unfold in64 lo64 hi64; omega) (by unfold in64 lo64 hi64; omega) (by unfold in64 lo64 hi64; omega) hx hy rfl (facts_A hm (one1 ca)) (cn2 (notB ha) (notB hb))
  · exact run_v1 (fun5_ok 4) N_4_3_1_01_0 hc (by unfold in64 lo64 hi64; omega) (by unfold in64 lo64 hi64; omega) (by unfold in64 lo64 hi64; omega) hx hy rfl (facts_A hm (one1 ca)) (cn2 (notB ha) (yesB hb))
  · exact run_v1 (fun5_ok 4) N_4_3_1_10_0 hc (by unfold in64 lo64 hi64; omega) (by unfold in64 lo64 hi64; omega) (by unfold in64 lo64 hi64; omega) hx hy rfl (facts_A hm (one1 ca)) (cn2 (yesB ha) (notB hb))
  · exact run_v1 (fun5_ok 4) N_4_3_1_11_0 hc (by unfold in64 lo64 hi64; omega) (by unfold in64 lo64 hi64; omega) (by unfold in64 lo64 hi64; omega) hx hy rfl (facts_A hm (one1 ca)) (cn2 (yesB ha) (yesB hb))
  · exact run_v1 (fun5_ok 4) N_4_3_1_00_1 hc (by unfold in64 lo64 hi64; omega) (by unfold in64 lo64 hi64; omega) (by unfold in64 lo64 hi64; omega) hx hy rfl (facts_A hm (two1 ca cb)) (cn2 (notB ha) (notB hb))
  · exact run_v1 (fun5_ok 4) N_4_3_1_01_1 hc (by unfold in64 lo64 hi64; omega) (by unfold in64 lo64 hi64; omega) (by unfold in64 lo64 hi64; omega) hx hy rfl (facts_A hm (two1 ca cb)) (cn2 (notB ha) (yesB hb))
  · exact run_v1 (fun5_ok 4) N_4_3_1_10_1 hc (by unfold in64 lo64 hi64; omega) (by unfold in64 lo64 hi64; omega) (by unfold in64 lo64 hi64; omega) hx hy rfl (facts_A hm (two1 ca cb)) (cn2 (yesB ha) (notB hb))
  · exact run_v1 (fun5_ok 4) N_4_3_1_11_1 hc (by unfold in64 lo64 hi64; omega) (by unfold in64 lo64 hi64; omega) (by unfold in64 lo64 hi64; omega) hx hy rfl (facts_A hm (two1 ca cb)) (cn2 (yesB ha) (yesB hb))
  · exact run_v1 (fun5_ok 4) N_4_3_1_00_2 hc (by unfold in64 lo64 hi64; omega) (by unfold in64 lo64 hi64; omega) (by unfold in64 lo64 hi64; omega) hx hy rfl (facts_A hm (two1 ca cb)) (cn2 (notB ha) (notB hb))
  · exact run_v1 (fun5_ok 4) N_4_3_1_01_2 hc (by unfold in64 lo64 hi64; omega) (by unfold in64 lo64 hi64; omega) (by unfold in64 lo64 hi64; omega) hx hy rfl (facts_A hm (two1 ca cb)) (cn2 (notB ha) (yesB hb))
  · exact run_v1 (fun5_ok 4) N_4_3_1_10_2 hc (by unfold in64 lo64 hi64; omega) (by unfold in64 lo64 hi64; omega) (by unfold in64 lo64 hi64; omega) hx hy rfl (facts_A hm (two1 ca cb)) (cn2 (yesB ha) (notB hb))
  · exact run_v1 (fun5_ok 4) N_4_3_1_11_2 hc (by unfold in64 lo64 hi64; omega) (by unfold in64 lo64 hi64; omega) (by unfold in64 lo64 hi64; omega) hx hy rfl (facts_A hm (two1 ca cb)) (cn2 (yesB ha) (yesB hb))
include hc hm hx hy in
theorem needs_4_3_2 : Calls Try.prog 4 #[.agg cs.toArray, opVal 4 3 2 x, .int .i64 y] w fun r w' => r = .returned (.bool true) ∧ Below w.heap.size w w' := by
  rcases cutA (w := w) hm (ints := (opInts1 4 3 2 x y)) 3 (by decide) with ca | ca <;> rcases cutA (w := w) hm (ints := (opInts1 4 3 2 x y)) 2 (by decide) with cb | cb <;> cases ha : (envV w cs (opInts1 4 3 2 x y)).b 23 <;> cases hb : (envV w cs (opInts1 4 3 2 x y)).b 22
  · exact run_v1 (fun5_ok 4) N_4_3_2_00_0 hc (by unfold in64 lo64 hi64; omega) (by unfold in64 lo64 hi64; omega) (by unfold in64 lo64 hi64; omega) hx hy rfl (facts_A hm (one1 ca)) (cn2 (notB ha) (notB hb))
  · exact run_v1 (fun5_ok 4) N_4_3_2_01_0 hc (by unfold in64 lo64 hi64; omega) (by unfold in64 lo64 hi64; omega) (by unfold in64 lo64 hi64; omega) hx hy rfl (facts_A hm (one1 ca)) (cn2 (notB ha) (yesB hb))
  · exact run_v1 (fun5_ok 4) N_4_3_2_10_0 hc (by unfold in64 lo64 hi64; omega) (by unfold in64 lo64 hi64; omega) (by unfold in64 lo64 hi64; omega) hx hy rfl (facts_A hm (one1 ca)) (cn2 (yesB ha) (notB hb))
  · exact run_v1 (fun5_ok 4) N_4_3_2_11_0 hc (by unfold in64 lo64 hi64; omega) (by unfold in64 lo64 hi64; omega) (by unfold in64 lo64 hi64; omega) hx hy rfl (facts_A hm (one1 ca)) (cn2 (yesB ha) (yesB hb))
  · exact run_v1 (fun5_ok 4) N_4_3_2_00_0 hc (by unfold in64 lo64 hi64; omega) (by unfold in64 lo64 hi64; omega) (by unfold in64 lo64 hi64; omega) hx hy rfl (facts_A hm (one1 ca)) (cn2 (notB ha) (notB hb))
  · exact run_v1 (fun5_ok 4) N_4_3_2_01_0 hc (by unfold in64 lo64 hi64; omega) (by unfold in64 lo64 hi64; omega) (by unfold in64 lo64 hi64; omega) hx hy rfl (facts_A hm (one1 ca)) (cn2 (notB ha) (yesB hb))
  · exact run_v1 (fun5_ok 4) N_4_3_2_10_0 hc (by unfold in64 lo64 hi64; omega) (by unfold in64 lo64 hi64; omega) (by unfold in64 lo64 hi64; omega) hx hy rfl (facts_A hm (one1 ca)) (cn2 (yesB ha) (notB hb))
  · exact run_v1 (fun5_ok 4) N_4_3_2_11_0 hc (by unfold in64 lo64 hi64; omega) (by unfold in64 lo64 hi64; omega) (by unfold in64 lo64 hi64; omega) hx hy rfl (facts_A hm (one1 ca)) (cn2 (yesB ha) (yesB hb))
  · exact run_v1 (fun5_ok 4) N_4_3_2_00_1 hc (by unfold in64 lo64 hi64; omega) (by unfold in64 lo64 hi64; omega) (by unfold in64 lo64 hi64; omega) hx hy rfl (facts_A hm (two1 ca cb)) (cn2 (notB ha) (notB hb))
  · exact run_v1 (fun5_ok 4) N_4_3_2_01_1 hc (by unfold in64 lo64 hi64; omega) (by unfold in64 lo64 hi64; omega) (by unfold in64 lo64 hi64; omega) hx hy rfl (facts_A hm (two1 ca cb)) (cn2 (notB ha) (yesB hb))
  · exact run_v1 (fun5_ok 4) N_4_3_2_10_1 hc (by unfold in64 lo64 hi64; omega) (by unfold in64 lo64 hi64; omega) (by unfold in64 lo64 hi64; omega) hx hy rfl (facts_A hm (two1 ca cb)) (cn2 (yesB ha) (notB hb))
  · exact run_v1 (fun5_ok 4) N_4_3_2_11_1 hc (by unfold in64 lo64 hi64; omega) (by unfold in64 lo64 hi64; omega) (by unfold in64 lo64 hi64; omega) hx hy rfl (facts_A hm (two1 ca cb)) (cn2 (yesB ha) (yesB hb))
  · exact run_v1 (fun5_ok 4) N_4_3_2_00_2 hc (by unfold in64 lo64 hi64; omega) (by unfold in64 lo64 hi64; omega) (by unfold in64 lo64 hi64; omega) hx hy rfl (facts_A hm (two1 ca cb)) (cn2 (notB ha) (notB hb))
  · exact run_v1 (fun5_ok 4) N_4_3_2_01_2 hc (by unfold in64 lo64 hi64; omega) (by unfold in64 lo64 hi64; omega) (by unfold in64 lo64 hi64; omega) hx hy rfl (facts_A hm (two1 ca cb)) (cn2 (notB ha) (yesB hb))
  · exact run_v1 (fun5_ok 4) N_4_3_2_10_2 hc (by unfold in64 lo64 hi64; omega) (by unfold in64 lo64 hi64; omega) (by unfold in64 lo64 hi64; omega) hx hy rfl (facts_A hm (two1 ca cb)) (cn2 (yesB ha) (notB hb))
  · exact run_v1 (fun5_ok 4) N_4_3_2_11_2 hc (by unfold in64 lo64 hi64; omega) (by unfold in64 lo64 hi64; omega) (by unfold in64 lo64 hi64; omega) hx hy rfl (facts_A hm (two1 ca cb)) (cn2 (yesB ha) (yesB hb))
include hc hm hx hy in
theorem needs_4_3_3 : Calls Try.prog 4 #[.agg cs.toArray, opVal 4 3 3 x, .int .i64 y] w fun r w' => r = .returned (.bool true) ∧ Below w.heap.size w w' := by
  cases hb : (envV w cs (opInts1 4 3 3 x y)).b 23 with
  | true => exact run_v1 (fun5_ok 4) N_4_3_3_1 hc (by unfold in64 lo64 hi64; omega) (by unfold in64 lo64 hi64; omega) (by unfold in64 lo64 hi64; omega) hx hy rfl (nilA hm) (cn1 (yesB hb))
  | false => exact run_v1 (fun5_ok 4) N_4_3_3_0 hc (by unfold in64 lo64 hi64; omega) (by unfold in64 lo64 hi64; omega) (by unfold in64 lo64 hi64; omega) hx hy rfl (nilA hm) (cn1 (notB hb))
include hc hm hx hy in
theorem needs_5 (hz : x = 0) : Calls Try.prog 4 #[.agg cs.toArray, opVal 5 0 0 x, .int .i64 y] w fun r w' => r = .returned (.bool true) ∧ Below w.heap.size w w' := by
  subst hz
  cases h0 : (envV w cs (opInts1 5 0 0 0 y)).b 20 <;> cases h1 : (envV w cs (opInts1 5 0 0 0 y)).b 21 <;> cases h2 : (envV w cs (opInts1 5 0 0 0 y)).b 22 <;> cases h3 : (envV w cs (opInts1 5 0 0 0 y)).b 23
  · exact run_v1 (fun5_ok 4) N_5_0000 hc (by unfold in64 lo64 hi64; omega) (by unfold in64 lo64 hi64; omega) (by unfold in64 lo64 hi64; omega) hx hy rfl (nilA hm) (cn4 (notB h0) (notB h1) (notB h2) (notB h3))
  · exact run_v1 (fun5_ok 4) N_5_0001 hc (by unfold in64 lo64 hi64; omega) (by unfold in64 lo64 hi64; omega) (by unfold in64 lo64 hi64; omega) hx hy rfl (nilA hm) (cn4 (notB h0) (notB h1) (notB h2) (yesB h3))
  · exact run_v1 (fun5_ok 4) N_5_0010 hc (by unfold in64 lo64 hi64; omega) (by unfold in64 lo64 hi64; omega) (by unfold in64 lo64 hi64; omega) hx hy rfl (nilA hm) (cn4 (notB h0) (notB h1) (yesB h2) (notB h3))
  · exact run_v1 (fun5_ok 4) N_5_0011 hc (by unfold in64 lo64 hi64; omega) (by unfold in64 lo64 hi64; omega) (by unfold in64 lo64 hi64; omega) hx hy rfl (nilA hm) (cn4 (notB h0) (notB h1) (yesB h2) (yesB h3))
  · exact run_v1 (fun5_ok 4) N_5_0100 hc (by unfold in64 lo64 hi64; omega) (by unfold in64 lo64 hi64; omega) (by unfold in64 lo64 hi64; omega) hx hy rfl (nilA hm) (cn4 (notB h0) (yesB h1) (notB h2) (notB h3))
  · exact run_v1 (fun5_ok 4) N_5_0101 hc (by unfold in64 lo64 hi64; omega) (by unfold in64 lo64 hi64; omega) (by unfold in64 lo64 hi64; omega) hx hy rfl (nilA hm) (cn4 (notB h0) (yesB h1) (notB h2) (yesB h3))
  · exact run_v1 (fun5_ok 4) N_5_0110 hc (by unfold in64 lo64 hi64; omega) (by unfold in64 lo64 hi64; omega) (by unfold in64 lo64 hi64; omega) hx hy rfl (nilA hm) (cn4 (notB h0) (yesB h1) (yesB h2) (notB h3))
  · exact run_v1 (fun5_ok 4) N_5_0111 hc (by unfold in64 lo64 hi64; omega) (by unfold in64 lo64 hi64; omega) (by unfold in64 lo64 hi64; omega) hx hy rfl (nilA hm) (cn4 (notB h0) (yesB h1) (yesB h2) (yesB h3))
  · exact run_v1 (fun5_ok 4) N_5_1000 hc (by unfold in64 lo64 hi64; omega) (by unfold in64 lo64 hi64; omega) (by unfold in64 lo64 hi64; omega) hx hy rfl (nilA hm) (cn4 (yesB h0) (notB h1) (notB h2) (notB h3))
  · exact run_v1 (fun5_ok 4) N_5_1001 hc (by unfold in64 lo64 hi64; omega) (by unfold in64 lo64 hi64; omega) (by unfold in64 lo64 hi64; omega) hx hy rfl (nilA hm) (cn4 (yesB h0) (notB h1) (notB h2) (yesB h3))
  · exact run_v1 (fun5_ok 4) N_5_1010 hc (by unfold in64 lo64 hi64; omega) (by unfold in64 lo64 hi64; omega) (by unfold in64 lo64 hi64; omega) hx hy rfl (nilA hm) (cn4 (yesB h0) (notB h1) (yesB h2) (notB h3))
  · exact run_v1 (fun5_ok 4) N_5_1011 hc (by unfold in64 lo64 hi64; omega) (by unfold in64 lo64 hi64; omega) (by unfold in64 lo64 hi64; omega) hx hy rfl (nilA hm) (cn4 (yesB h0) (notB h1) (yesB h2) (yesB h3))
  · exact run_v1 (fun5_ok 4) N_5_1100 hc (by unfold in64 lo64 hi64; omega) (by unfold in64 lo64 hi64; omega) (by unfold in64 lo64 hi64; omega) hx hy rfl (nilA hm) (cn4 (yesB h0) (yesB h1) (notB h2) (notB h3))
  · exact run_v1 (fun5_ok 4) N_5_1101 hc (by unfold in64 lo64 hi64; omega) (by unfold in64 lo64 hi64; omega) (by unfold in64 lo64 hi64; omega) hx hy rfl (nilA hm) (cn4 (yesB h0) (yesB h1) (notB h2) (yesB h3))
  · exact run_v1 (fun5_ok 4) N_5_1110 hc (by unfold in64 lo64 hi64; omega) (by unfold in64 lo64 hi64; omega) (by unfold in64 lo64 hi64; omega) hx hy rfl (nilA hm) (cn4 (yesB h0) (yesB h1) (yesB h2) (notB h3))
  · exact run_v1 (fun5_ok 4) N_5_1111 hc (by unfold in64 lo64 hi64; omega) (by unfold in64 lo64 hi64; omega) (by unfold in64 lo64 hi64; omega) hx hy rfl (nilA hm) (cn4 (yesB h0) (yesB h1) (yesB h2) (yesB h3))
include hc hm hx hy in
theorem needs_A {k a b : Int} (hk : in64 k) (ha : in64 a) (hb : in64 b) : Calls Try.prog 4 #[.agg cs.toArray, opVal k a b x, .int .i64 y] w fun r w' => r = .returned (.bool true) ∧ Below w.heap.size w w' := by
  have k1 := hk.1
  have k2 := hk.2
  have a1 := ha.1
  have a2 := ha.2
  have b1 := hb.1
  have b2 := hb.2
  have x1 := hx.1
  have x2 := hx.2
  rcases op_cases k a b with h | h | rfl | ⟨rfl | rfl | rfl | rfl, h⟩ | ⟨rfl, h⟩
  · exact run_v1 (fun5_ok 4) N_neg hc hk ha hb hx hy rfl (facts_A hm (one5 k1 h)) (fun _ h => by cases h)
  · exact run_v1 (fun5_ok 4) N_big hc hk ha hb hx hy rfl (facts_A hm (one5 h k2)) (fun _ h => by cases h)
  · rcases (by omega : a ≤ -1 ∨ 1 ≤ a ∨ b ≤ -1 ∨ 1 ≤ b ∨ x ≤ -1 ∨ 1 ≤ x ∨ (a = 0 ∧ b = 0 ∧ x = 0)) with h | h | h | h | h | h | ⟨rfl, rfl, hz⟩
    · exact run_v1 (fun5_ok 4) N_5al hc hk ha hb hx hy rfl (facts_A hm (one5 a1 h)) (fun _ h => by cases h)
    · exact run_v1 (fun5_ok 4) N_5ah hc hk ha hb hx hy rfl (facts_A hm (one5 h a2)) (fun _ h => by cases h)
    · exact run_v1 (fun5_ok 4) N_5bl hc hk ha hb hx hy rfl (facts_A hm (one5 b1 h)) (fun _ h => by cases h)
    · exact run_v1 (fun5_ok 4) N_5bh hc hk ha hb hx hy rfl (facts_A hm (one5 h b2)) (fun _ h => by cases h)
    · exact run_v1 (fun5_ok 4) N_5xl hc hk ha hb hx hy rfl (facts_A hm (one5 x1 h)) (fun _ h => by cases h)
    · exact run_v1 (fun5_ok 4) N_5xh hc hk ha hb hx hy rfl (facts_A hm (one5 h x2)) (fun _ h => by cases h)
    · exact needs_5 hc hm hx hy hz
  · rcases h with h | h | h | h | h
    · exact run_v1 (fun5_ok 4) N_0al hc hk ha hb hx hy rfl (facts_A hm (one5 a1 h)) (fun _ h => by cases h)
    · exact run_v1 (fun5_ok 4) N_0ah hc hk ha hb hx hy rfl (facts_A hm (one5 h a2)) (fun _ h => by cases h)
    · exact run_v1 (fun5_ok 4) N_0bl hc hk ha hb hx hy rfl (facts_A hm (one5 b1 h)) (fun _ h => by cases h)
    · exact run_v1 (fun5_ok 4) N_0bh hc hk ha hb hx hy rfl (facts_A hm (one5 h b2)) (fun _ h => by cases h)
    · obtain ⟨rfl | rfl | rfl | rfl, rfl⟩ := h
      · exact needs_0_0_0 hc hm hx hy
      · exact needs_0_1_0 hc hm hx hy
      · exact needs_0_2_0 hc hm hx hy
      · exact needs_0_3_0 hc hm hx hy
  · rcases h with h | h | h | h | h
    · exact run_v1 (fun5_ok 4) N_1al hc hk ha hb hx hy rfl (facts_A hm (one5 a1 h)) (fun _ h => by cases h)
    · exact run_v1 (fun5_ok 4) N_1ah hc hk ha hb hx hy rfl (facts_A hm (one5 h a2)) (fun _ h => by cases h)
    · exact run_v1 (fun5_ok 4) N_1bl hc hk ha hb hx hy rfl (facts_A hm (one5 b1 h)) (fun _ h => by cases h)
    · exact run_v1 (fun5_ok 4) N_1bh hc hk ha hb hx hy rfl (facts_A hm (one5 h b2)) (fun _ h => by cases h)
    · obtain ⟨rfl | rfl | rfl | rfl, rfl⟩ := h
      · exact needs_1_0_0 hc hm hx hy
      · exact needs_1_1_0 hc hm hx hy
      · exact needs_1_2_0 hc hm hx hy
      · exact needs_1_3_0 hc hm hx hy
  · rcases h with h | h | h | h | h
    · exact run_v1 (fun5_ok 4) N_2al hc hk ha hb hx hy rfl (facts_A hm (one5 a1 h)) (fun _ h => by cases h)
    · exact run_v1 (fun5_ok 4) N_2ah hc hk ha hb hx hy rfl (facts_A hm (one5 h a2)) (fun _ h => by cases h)
    · exact run_v1 (fun5_ok 4) N_2bl hc hk ha hb hx hy rfl (facts_A hm (one5 b1 h)) (fun _ h => by cases h)
    · exact run_v1 (fun5_ok 4) N_2bh hc hk ha hb hx hy rfl (facts_A hm (one5 h b2)) (fun _ h => by cases h)
    · obtain ⟨rfl | rfl | rfl | rfl, rfl⟩ := h
      · exact needs_2_0_0 hc hm hx hy
      · exact needs_2_1_0 hc hm hx hy
      · exact needs_2_2_0 hc hm hx hy
      · exact needs_2_3_0 hc hm hx hy
  · rcases h with h | h | h | h | h
    · exact run_v1 (fun5_ok 4) N_3al hc hk ha hb hx hy rfl (facts_A hm (one5 a1 h)) (fun _ h => by cases h)
    · exact run_v1 (fun5_ok 4) N_3ah hc hk ha hb hx hy rfl (facts_A hm (one5 h a2)) (fun _ h => by cases h)
    · exact run_v1 (fun5_ok 4) N_3bl hc hk ha hb hx hy rfl (facts_A hm (one5 b1 h)) (fun _ h => by cases h)
    · exact run_v1 (fun5_ok 4) N_3bh hc hk ha hb hx hy rfl (facts_A hm (one5 h b2)) (fun _ h => by cases h)
    · obtain ⟨rfl | rfl | rfl | rfl, rfl⟩ := h
      · exact needs_3_0_0 hc hm hx hy
      · exact needs_3_1_0 hc hm hx hy
      · exact needs_3_2_0 hc hm hx hy
      · exact needs_3_3_0 hc hm hx hy
  · rcases h with h | h | h | h | h
    · exact run_v1 (fun5_ok 4) N_4al hc hk ha hb hx hy rfl (facts_A hm (one5 a1 h)) (fun _ h => by cases h)
    · exact run_v1 (fun5_ok 4) N_4ah hc hk ha hb hx hy rfl (facts_A hm (one5 h a2)) (fun _ h => by cases h)
    · exact run_v1 (fun5_ok 4) N_4bl hc hk ha hb hx hy rfl (facts_A hm (one5 b1 h)) (fun _ h => by cases h)
    · exact run_v1 (fun5_ok 4) N_4bh hc hk ha hb hx hy rfl (facts_A hm (one5 h b2)) (fun _ h => by cases h)
    · obtain ⟨rfl | rfl | rfl | rfl, rfl | rfl | rfl | rfl⟩ := h
      · exact needs_4_0_0 hc hm hx hy
      · exact needs_4_0_1 hc hm hx hy
      · exact needs_4_0_2 hc hm hx hy
      · exact needs_4_0_3 hc hm hx hy
      · exact needs_4_1_0 hc hm hx hy
      · exact needs_4_1_1 hc hm hx hy
      · exact needs_4_1_2 hc hm hx hy
      · exact needs_4_1_3 hc hm hx hy
      · exact needs_4_2_0 hc hm hx hy
      · exact needs_4_2_1 hc hm hx hy
      · exact needs_4_2_2 hc hm hx hy
      · exact needs_4_2_3 hc hm hx hy
      · exact needs_4_3_0 hc hm hx hy
      · exact needs_4_3_1 hc hm hx hy
      · exact needs_4_3_2 hc hm hx hy
      · exact needs_4_3_3 hc hm hx hy
end
section
variable {H : Type} {enc : TypeId × Value → H} {w : World} {base : Nat} {spare : Nat → Bool} {held : Bool} {r : Reach} {b0 : Nat}
theorem bankNeeds_walk {v0 v1 v2 : Value} {d0 d1 d2 : DataW H} {p0 p1 p2 : List MemPlace}
    (k0 : Value.okWide Try.prog w r b0 25 v0) (_h0 : DataW.Trod enc Try.prog w base spare held 25 v0 d0 p0)
    (k1 : Value.okWide Try.prog w r b0 27 v1) (_h1 : DataW.Trod enc Try.prog w base spare held 27 v1 d1 p1)
    (k2 : Value.okWide Try.prog w r b0 3 v2) (h2 : DataW.Trod enc Try.prog w base spare held 3 v2 d2 p2) :
    Calls Try.prog 4 #[v0, v1, v2] w fun r w' => r = .returned (.bool true) ∧ Below w.heap.size w w' := by
  obtain ⟨cs, rfl, hc⟩ := open_view k0
  obtain ⟨k, a, b, x, rfl, hk, ha, hb, hx⟩ := open_op k1
  obtain ⟨y, rfl, _, _, wy⟩ := open_int Try.underlying3 k2 h2
  have hy : in64 y := i64_bd wy
  by_cases hm : AllMay cs
  · exact needs_A hc hm hx hy hk ha hb
  · have k1 := hk.1
    have k2 := hk.2
    rcases (by omega : k ≤ 2 ∨ 3 ≤ k) with h | h
    · exact run_B1 (fun5_ok 4) N_B0 hc hm hk ha hb hx hy rfl (one5 k1 h)
    · exact run_B1 (fun5_ok 4) N_B1 hc hm hk ha hb hx hy rfl (one5 h k2)
end
end Go.Proofs.Ythhjijadllpcpaa
namespace Go.Proofs.Ythhjijadllpcpaa.bankNeeds
open Go.ChangeShapes Go.WideShapes Go.ChangeAt Go.RowKit Go.Deep

set_option maxRecDepth 100000 in
theorem lifted (os : Os) (started : os.Started) (H : Type) (enc : TypeId × Value → H) :
    ReturnsInHanded {} Try.checked os 4 .any (Rows.bankNeedsSpec.pre6 enc Try.prog Try.f4 Rows.bankNeedsRow.domain false) (Rows.bankNeedsSpec.post enc Try.prog Try.f4 false true false false) := by
  refine returnsInHanded_of_change (C := Try.checked) own started (by kernel_rfl) Try.func4
    (ChangeSpec.witness6 (enc := enc) (C := Try.checked) false ⟨#[], #[.agg (Array.replicate 16 (.bool false) ++ Array.replicate 32 (.int .i64 0)), .agg (Array.replicate 4 (.int .i64 0)), .int .i64 0], []⟩ 60 (by kernel_rfl) (by kernel_rfl) (by kernel_rfl) (by kernel_rfl)) ?_
  intro W base args ds gs before hval0 hW _ _
  have hval : ∀ (j : Nat) t v, Try.f4.params[j]? = some t → args[j]? = some v → Value.okWide Try.prog W .any base t v := hval0
  have hW' := hW
  obtain ⟨p, q, hA0, hV, rfl, _, _⟩ := hW
  have hA : DataW.TrodAll enc Try.prog W 0 (fun _ => true) true Try.f4.params.toList args.toList ds p := hA0
  rw [Try.params4] at hA hval
  obtain ⟨v0, vs0, d0, ds0, p0, q0, hargs, rfl, rfl, h0, r0⟩ := trodAll_cons hA
  obtain ⟨v1, vs1, d1, ds1, p1, q1, rfl, rfl, rfl, h1, r1⟩ := trodAll_cons r0
  obtain ⟨v2, vs2, d2, ds2, p2, q2, rfl, rfl, rfl, h2, r2⟩ := trodAll_cons r1
  obtain ⟨rfl, rfl, rfl⟩ := trodAll_nil r2
  obtain rfl : args = #[v0, v1, v2] := by cases args; simp_all
  obtain ⟨rfl, rfl⟩ := trodVars_none hV
  have tl0 : ∀ x ∈ p0, x.block < W.heap.size := by obtain ⟨m, hm⟩ := h0; exact DataW.trod_lt m _ _ _ hm
  have tl1 : ∀ x ∈ p1, x.block < W.heap.size := by obtain ⟨m, hm⟩ := h1; exact DataW.trod_lt m _ _ _ hm
  have tl2 : ∀ x ∈ p2, x.block < W.heap.size := by obtain ⟨m, hm⟩ := h2; exact DataW.trod_lt m _ _ _ hm
  clear hA0 hval0
  refine (bankNeeds_walk (hval 0 25 v0 rfl rfl) h0 (hval 1 27 v1 rfl rfl) h1 (hval 2 3 v2 rfl rfl) h2).mono fun e W' ⟨he, bel⟩ => ?_
  subst he
  exact ⟨_, rfl, _, _, _, [], _, [], hW', trodAll_mk1 (shut_bool Try.underlying4 _), (trodAll_cons_mk (Below.trod laidOut (by kernel_rfl) (of_decide_eq_true (by kernel_rfl)) h0 bel tl0) (trodAll_cons_mk (Below.trod laidOut (by kernel_rfl) (of_decide_eq_true (by kernel_rfl)) h1 bel tl1) (trodAll_cons_mk (Below.trod laidOut (by kernel_rfl) (of_decide_eq_true (by kernel_rfl)) h2 bel tl2) trodAll_mk0))), rfl, bel.frame _, fun h => by cases h⟩

theorem over : Rows.bankNeedsRow.holds Try.pinned (OpenSpec.ofChange Rows.bankNeedsSpec) :=
  OpenClaim.holds_of_wide 4 Try.f4 rfl rfl rfl rfl rfl rfl rfl ⟨rfl, rfl, rfl, rfl, rfl⟩ rfl rfl rfl rfl rfl (by kernel_rfl) Try.func4 (by kernel_rfl)
    (of_decide_eq_true (by kernel_rfl)) (by unfold Func.isWrapper; first | (rw [if_pos (by decide +kernel)]; kernel_rfl) | (rw [if_neg (by decide +kernel)]; exact ⟨rfl, rfl⟩))
    (fun os started H enc _ => lifted os started H enc)

theorem proved : Rows.BankNeedsSaid := over
#print axioms proved
end Go.Proofs.Ythhjijadllpcpaa.bankNeeds
