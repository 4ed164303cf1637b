/- operations as they come in. -/
import Derived.Test.YtnfmmiomomgabaaB
namespace Go.Proofs.Ytnfmmiomomgabaa
set_option maxRecDepth 100000
open Go.Sx Go.ChangeShapes Go.WideShapes Go.ChangeAt Go.RowKit Go.Deep
theorem own : ownKnob Try.prog.godebug = none := by kernel_rfl
theorem laidOut : laidOutB Try.prog = true := by kernel_rfl
theorem open_op {w : World} {r : Reach} {b0 : Nat} {v : Value} (h : Value.okWide Try.prog w r b0 28 v) : ∃ k a b x : Int, v = .agg #[.int .i64 k, .int .i64 a, .int .i64 b, .int .i64 x] ∧ in64 k ∧ in64 a ∧ in64 b ∧ in64 x := by
 obtain ⟨cs, h1, h2, h3, h4⟩ := open_flat (ks := [false, false, false, false]) (by kernel_rfl) (by kernel_rfl) (by kernel_rfl) h
 have e0 := h3 0 (by decide)
 have e1 := h3 1 (by decide)
 have e2 := h3 2 (by decide)
 have e3 := h3 3 (by decide)
 refine ⟨intAt cs 0, intAt cs 1, intAt cs 2, intAt cs 3, ?_, h4 0, h4 1, h4 2, h4 3⟩
 match cs, h2, e0, e1, e2, e3 with
 | [a, b, c, d], _, e0, e1, e2, e3 =>
  simp only [List.getElem?_cons_zero, List.getElem?_cons_succ, Option.some.injEq] at e0 e1 e2 e3
  rw [h1]
  congr 1
  rw [← show cellV false [a, b, c, d] 0 = .int .i64 (intAt [a, b, c, d] 0) from rfl, ← show cellV false [a, b, c, d] 1 = .int .i64 (intAt [a, b, c, d] 1) from rfl, ← show cellV false [a, b, c, d] 2 = .int .i64 (intAt [a, b, c, d] 2) from rfl, ← show cellV false [a, b, c, d] 3 = .int .i64 (intAt [a, b, c, d] 3) from rfl]
  have f0 : cellV false [a, b, c, d] 0 = a := e0.symm
  have f1 : cellV false [a, b, c, d] 1 = b := e1.symm
  have f2 : cellV false [a, b, c, d] 2 = c := e2.symm
  have f3 : cellV false [a, b, c, d] 3 = d := e3.symm
  rw [f0, f1, f2, f3]
end Go.Proofs.Ytnfmmiomomgabaa
