/- runs over a view, an operation and a number; with tests that are known. -/
import Derived.Test.YtnfmmiomomgabaaC
namespace Go.Proofs.Ytnfmmiomomgabaa
set_option maxRecDepth 100000
open Go.Sx Go.ChangeShapes Go.WideShapes Go.ChangeAt Go.RowKit Go.Deep
noncomputable def memC (fs : List Fact) (cn : List BE) : Mem := { mem0 50 with know := ⟨fs, cn⟩ }
theorem run_vg {f : Nat} {s : List SV → X SV} (hs : SpecOk G0 Try.prog f s) {fs : List Fact} {cn : List BE} {rest : List SV} (hrun : allOf (s (viewV 20 6 7 :: rest) (memC fs cn)) isTrue = true) {w : World} {cs : List Value} (hc : IsView cs) {ints : List (Nat × List Int)} (hi : ∀ x ∈ ints, ∀ z ∈ x.2, in64 z) (hn : ∀ i, i < 48 → lookR (20 + i) ints = [])
    (hf : ∀ f ∈ fs, FactOk (envV w cs ints) f) (hb : ∀ c ∈ cn, evB (envV w cs ints) c = true) :
    Calls Try.prog f (Value.agg cs.toArray :: rest.map (dv (envV w cs ints))).toArray w fun r w' => r = .returned (.bool true) ∧ Below w.heap.size w w' := by
  have hE : (envV w cs ints).Ok := envV_ok hc hi
  have hm := slMem_ok (w := w) (E := envV w cs ints) (ents := []) (fs := fs) 50 hE rfl rfl (fun _ h => (by cases h)) hf
  have hm' : MemOk (fun _ => False) w (envV w cs ints) (memC fs cn) w :=
    ⟨⟨hE, hf, hb⟩, hm.size, hm.ents, hm.apart, hm.mine, hm.ext, hm.seg0⟩
  have := law_ok hs hrun (E := envV w cs ints) (w := w) rfl hm'
  rw [List.map_cons, view_val hc hn] at this
  exact this
theorem vars_far {ints : List (Nat × List Int)} (h : ∀ x ∈ ints, x.1 < 20) (i : Nat) : lookR (20 + i) ints = [] := by
  induction ints with
  | nil => rfl
  | cons x l ih =>
    unfold lookR
    have := h x List.mem_cons_self
    rw [if_neg (by omega)]
    exact ih fun y hy => h y (List.mem_cons_of_mem _ hy)
/-- the numbers of a law over a view, an operation and a number -/
abbrev opInts1 (k a b x y : Int) : List (Nat × List Int) := [(9, [y]), (10, [k]), (11, [a]), (12, [b]), (13, [x])]
theorem run_v1 {f : Nat} {s : List SV → X SV} (hs : SpecOk G0 Try.prog f s) {fs : List Fact} {cn : List BE} {oa : SV} (hrun : allOf (s [viewV 20 6 7, oa, vi 9] (memC fs cn)) isTrue = true) {w : World} {cs : List Value} (hc : IsView cs) {k a b x y : Int} (hk : in64 k) (ha : in64 a) (hb : in64 b) (hx : in64 x) (hy : in64 y)
    (ho : dv (envV w cs (opInts1 k a b x y)) oa = opVal k a b x) (hf : ∀ f ∈ fs, FactOk (envV w cs (opInts1 k a b x y)) f) (hcn : ∀ c ∈ cn, evB (envV w cs (opInts1 k a b x y)) c = true) :
    Calls Try.prog f #[.agg cs.toArray, opVal k a b x, .int .i64 y] w fun r w' => r = .returned (.bool true) ∧ Below w.heap.size w w' := by
  have := run_vg hs hrun hc (ints := opInts1 k a b x y) (fun y hy z hz => by
    simp only [List.mem_cons, List.not_mem_nil, or_false] at hy
    rcases hy with rfl | rfl | rfl | rfl | rfl <;> (simp only [List.mem_cons, List.not_mem_nil, or_false] at hz; subst hz; assumption))
    (fun i _ => vars_far (fun x hx => by
      simp only [List.mem_cons, List.not_mem_nil, or_false] at hx
      rcases hx with rfl | rfl | rfl | rfl | rfl <;> (dsimp only; omega)) i) hf hcn
  simp only [List.map_cons, List.map_nil] at this
  rw [ho] at this
  exact this
theorem run_vc {f : Nat} {s : List SV → X SV} (hs : SpecOk G0 Try.prog f s) {fs : List Fact} {cn : List BE} {oa : SV} (hrun : allOf (s [viewV 20 6 7, oa] (memC fs cn)) isTrue = true) {w : World} {cs : List Value} (hc : IsView cs) {k a b x : Int} (hk : in64 k) (ha : in64 a) (hb : in64 b) (hx : in64 x)
    (ho : dv (envV w cs (opInts k a b x)) oa = opVal k a b x) (hf : ∀ f ∈ fs, FactOk (envV w cs (opInts k a b x)) f) (hcn : ∀ c ∈ cn, evB (envV w cs (opInts k a b x)) c = true) :
    Calls Try.prog f #[.agg cs.toArray, opVal k a b x] w fun r w' => r = .returned (.bool true) ∧ Below w.heap.size w w' := by
  have := run_vg hs hrun hc (ints := opInts k a b x) (fun y hy z hz => by
    simp only [List.mem_cons, List.not_mem_nil, or_false] at hy
    rcases hy with rfl | rfl | rfl | rfl <;> (simp only [List.mem_cons, List.not_mem_nil, or_false] at hz; subst hz; assumption))
    (fun i _ => vars_far (fun x hx => by
      simp only [List.mem_cons, List.not_mem_nil, or_false] at hx
      rcases hx with rfl | rfl | rfl | rfl <;> (dsimp only; omega)) i) hf hcn
  simp only [List.map_cons, List.map_nil] at this
  rw [ho] at this
  exact this
/-- the first accounts are known, the next is not -/
noncomputable def kn (n : Nat) (c : Bool) : List BE := ((List.range n).map fun i => BE.var (20 + i)) ++ (if c then [] else [.not (.var (20 + n))])
theorem kn_ok {E : Env} {n : Nat} {c : Bool} (h : ∀ i, i < n → E.b (20 + i) = true) (hc : c = false → E.b (20 + n) = false) : ∀ d ∈ kn n c, evB E d = true := by
  intro d hd
  unfold kn at hd
  rcases List.mem_append.1 hd with hd | hd
  · obtain ⟨i, hi, rfl⟩ := List.mem_map.1 hd
    exact h i (List.mem_range.1 hi)
  · cases c with
    | true => cases hd
    | false =>
      rcases List.mem_singleton.1 hd with rfl
      show (!E.b (20 + n)) = true
      rw [hc rfl]; rfl
/-- which of the first four is the first that is not known -/
theorem kn_cases (E : Env) : E.b 20 = false ∨ (E.b 20 = true ∧ E.b 21 = false) ∨ (E.b 20 = true ∧ E.b 21 = true ∧ E.b 22 = false) ∨ (E.b 20 = true ∧ E.b 21 = true ∧ E.b 22 = true ∧ E.b 23 = false) ∨ (E.b 20 = true ∧ E.b 21 = true ∧ E.b 22 = true ∧ E.b 23 = true) := by
  cases E.b 20 <;> cases E.b 21 <;> cases E.b 22 <;> cases E.b 23 <;> simp
/-- a sum -/
noncomputable def opS : SV := .agg (.cons (.int .i64 (.lit 5)) (.cons (.int .i64 (.lit 0)) (.cons (.int .i64 (.lit 0)) (.cons (.int .i64 (.lit 0)) .nil))))
/-- tests that a view may not be, both known -/
theorem bad_ok {w : World} {cs : List Value} {ints : List (Nat × List Int)} (hn : ¬ AllMay cs) : ∀ c ∈ [BE.not cVa, .not cVb], evB (envV w cs ints) c = true := by
  intro c h
  simp only [List.mem_cons, List.not_mem_nil, or_false] at h
  rcases h with rfl | rfl
  · exact c_false hn coversA
  · exact c_false hn coversB
/-- a run over views that may not be -/
theorem run_B1 {f : Nat} {s : List SV → X SV} (hs : SpecOk G0 Try.prog f s) {fs : List Fact} {oa : SV} (hrun : allOf (withB fs fun m => s [viewV 20 6 7, oa, vi 9] m) isTrue = true) {w : World} {cs : List Value} (hc : IsView cs) (hn : ¬ AllMay cs) {k a b x y : Int} (hk : in64 k) (ha : in64 a) (hb : in64 b) (hx : in64 x) (hy : in64 y)
    (ho : dv (envV w cs (opInts1 k a b x y)) oa = opVal k a b x) (hf : ∀ f ∈ fs, FactOk (envV w cs (opInts1 k a b x y)) f) :
    Calls Try.prog f #[.agg cs.toArray, opVal k a b x, .int .i64 y] w fun r w' => r = .returned (.bool true) ∧ Below w.heap.size w w' := by
  unfold withB at hrun
  rw [nfB_eq, nfB_eq] at hrun
  exact run_v1 (cn := [.not cVa, .not cVb]) hs hrun hc hk ha hb hx hy ho hf (bad_ok hn)
end Go.Proofs.Ytnfmmiomomgabaa
