/- the law ArenaForms: its walk. -/
import Derived.Test.YtgjbhgdmgncoaaaC
import Derived.Test.YtgjbhgdmgncoaaaD
namespace Go.Proofs.Ytgjbhgdmgncoaaa
open Go.Sx Go Go.RowKit
theorem arenaForms_walk (a0 a1 : Int) (W : World) (lo0 : -9223372036854775808 ≤ a0) (hi0 : a0 ≤ 9223372036854775807) (lo1 : -9223372036854775808 ≤ a1) (hi1 : a1 ≤ 9223372036854775807) :
    Calls Try.prog 5 #[.int .i64 a0, .int .i64 a1] W fun r w' => r = .returned (.bool true) ∧ Below W.heap.size W w' :=
  law_ok (run1_ok 5) forms_run (E := env0 W [0, a0, a1]) (w := W) (mem0_ok (by
    intro x hx
    simp only [List.mem_cons, List.not_mem_nil, or_false] at hx
    rcases hx with rfl | rfl | rfl
    · simp [in64, lo64, hi64]
    · exact ⟨lo0, hi0⟩
    · exact ⟨lo1, hi1⟩) 3)
end Go.Proofs.Ytgjbhgdmgncoaaa
