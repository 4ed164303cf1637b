/- FreeForms, by its runs. -/
import Derived.Test.YtalkfdkcimfmpaaA
namespace Go.Proofs.Ytalkfdkcimfmpaa
open Go.Sx Go
set_option maxRecDepth 100000
noncomputable def spA : List (Nat × (List SV → X SV)) := [(24, makeX aw)]
theorem okSpA : ∀ x ∈ spA, SpecOk G0 Try.prog x.1 x.2 := one_ok (a := (24, makeX aw)) aw_ok
noncomputable def funF (f : Nat) : List SV → X SV := callF (tabJ []) (spOf spA) (bxOf [(48, 1, mRow)]) 400 12 f
theorem funF_ok (f : Nat) : SpecOk G0 Try.prog f (funF f) := callF_ok (spOf_ok okSpA) (bxOf_ok (by
 intro y hy
 rcases List.mem_singleton.1 hy with rfl
 exact mRow_ok)) 400 12 f
noncomputable def modF (k : Int) : Fact := (.rem (.wrap .u64 (.var 1)) (.lit 6), k, k)
noncomputable def memK (k : Int) : Mem := { mem0 60 with know := ⟨[modF k], []⟩ }
theorem ff0 : allOf (funF 5 [vi 1, vi 2] (memK 0)) isTrue = true := by kernel_rfl
theorem ff1 : allOf (funF 5 [vi 1, vi 2] (memK 1)) isTrue = true := by kernel_rfl
theorem ff2 : allOf (funF 5 [vi 1, vi 2] (memK 2)) isTrue = true := by kernel_rfl
theorem ff3 : allOf (funF 5 [vi 1, vi 2] (memK 3)) isTrue = true := by kernel_rfl
theorem ff4 : allOf (funF 5 [vi 1, vi 2] (memK 4)) isTrue = true := by kernel_rfl
theorem ff5 : allOf (funF 5 [vi 1, vi 2] (memK 5)) isTrue = true := by kernel_rfl
end Go.Proofs.Ytalkfdkcimfmpaa
