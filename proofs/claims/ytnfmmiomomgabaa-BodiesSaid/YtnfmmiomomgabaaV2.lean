/- runs over a view, an operation and a number; with tests that are known. -/
import Derived.Test.YtnfmmiomomgabaaC
namespace Go.Proofs.Ytnfmmiomomgabaa
set_option maxRecDepth 100000
open Go.Sx Go.ChangeShapes Go.WideShapes Go.ChangeAt Go.RowKit Go.Deep
noncomputable def memC (fs : List Fact) (cn : List BE) : Mem := { mem0 50 with know := ⟨fs, cn⟩ }
theorem run_vg {f : Nat} {s : List SV → X SV} (hs : SpecOk G0 Try.prog f s) {fs : List Fact} {cn : List BE} {rest : List SV} (hrun : allOf (s (viewV 20 6 7 :: rest) (memC fs cn)) isTrue = true) {w : World} {cs : List Value} (hc : IsView cs) {ints : List (Nat × List Int)} (hi : ∀ x ∈ ints, ∀ z ∈ x.2, in64 z) (hn : ∀ i, i < 48 → lookR (20 + i) ints = [])
  (hf : ∀ f ∈ fs, FactOk (envV w cs ints) f) (hb : ∀ c ∈ cn, evB (envV w cs ints) c = true) :
  Calls Try.prog f (Value.agg cs.toArray :: rest.map (dv (envV w cs ints))).toArray w fun r w' => r = .returned (.bool true) ∧ Below w.heap.size w w' := by
 have hE : (envV w cs ints).Ok := envV_ok hc hi
 have hm := slMem_ok (w := w) (E := envV w cs ints) (ents := []) (fs := fs) 50 hE rfl rfl (fun _ h => (by cases h)) hf
 have hm' : MemOk (fun _ => False) w (envV w cs ints) (memC fs cn) w :=
  ⟨⟨hE, hf, hb⟩, hm.size, hm.ents, hm.apart, hm.mine, hm.ext, hm.seg0⟩
 have := law_ok hs hrun (E := envV w cs ints) (w := w) rfl hm'
 rw [List.map_cons, view_val hc hn] at this
 exact this
theorem vars_far {ints : List (Nat × List Int)} (h : ∀ x ∈ ints, x.1 < 20) (i : Nat) : lookR (20 + i) ints = [] := by
 induction ints with
 | nil => rfl
 | cons x l ih =>
  unfold lookR
  have := h x List.mem_cons_self
  rw [if_neg (by omega)]
  exact ih fun y hy => h y (List.mem_cons_of_mem _ hy)
theorem bad_ok {w : World} {cs : List Value} {ints : List (Nat × List Int)} (hn : ¬ AllMay cs) : ∀ c ∈ [BE.not cVa, .not cVb], evB (envV w cs ints) c = true := by
 intro c h
 simp only [List.mem_cons, List.not_mem_nil, or_false] at h
 rcases h with rfl | rfl
 ·exact c_false hn coversA
 ·exact c_false hn coversB
end Go.Proofs.Ytnfmmiomomgabaa
