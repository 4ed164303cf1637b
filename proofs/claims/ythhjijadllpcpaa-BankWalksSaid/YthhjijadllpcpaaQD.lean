/- what the closing of BankLimits needs. -/
import Derived.Test.YthhjijadllpcpaaQL
import Derived.Test.YthhjijadllpcpaaQE4
namespace Go.Proofs.Ythhjijadllpcpaa
set_option maxRecDepth 100000
open Go.Sx Go.ChangeShapes Go.WideShapes Go.ChangeAt Go.RowKit Go.Deep
theorem own : ownKnob Try.prog.godebug = none := by kernel_rfl
theorem laidOut : laidOutB Try.prog = true := by kernel_rfl
section
variable {H : Type} {enc : TypeId × Value → H} {w : World} {base : Nat} {spare : Nat → Bool} {held : Bool} {r : Reach} {b0 : Nat}
theorem bankLimits_walk {v0 v1 : Value} {d0 d1 : DataW H} {p0 p1 : List MemPlace}
    (k0 : Value.okWide Try.prog w r b0 3 v0) (h0 : DataW.Trod enc Try.prog w base spare held 3 v0 d0 p0)
    (k1 : Value.okWide Try.prog w r b0 3 v1) (h1 : DataW.Trod enc Try.prog w base spare held 3 v1 d1 p1) :
    Calls Try.prog 6 #[v0, v1] w fun r w' => r = .returned (.bool true) ∧ Below w.heap.size w w' := by
  obtain ⟨a0, rfl, _, _, w0⟩ := open_int Try.underlying3 k0 h0
  obtain ⟨a1, rfl, _, _, w1⟩ := open_int Try.underlying3 k1 h1
  have ints : ∀ x ∈ [(6, [a0]), (7, [a1])], ∀ z ∈ x.2, in64 z := by
    intro x hx z hz
    simp only [List.mem_cons, List.not_mem_nil, or_false] at hx
    rcases hx with rfl | rfl <;> (simp only [List.mem_cons, List.not_mem_nil, or_false] at hz; subst hz)
    · exact i64_bd w0
    · exact i64_bd w1
  exact law_ok (fun1_ok 6) limits_run (E := envOf w [] [] [(6, [a0]), (7, [a1])] [] []) (w := w)
      (slMem_ok 10 (envOf_ok (fun _ h => (by cases h)) (fun _ h => (by cases h)) ints) rfl rfl (fun _ h => (by cases h)) (fun _ h => (by cases h)))
end
end Go.Proofs.Ythhjijadllpcpaa
