/- EpochForms, EpochAlone, by their runs. -/
import Derived.Test.YtjbhcmppjmmmiaaA
namespace Go.Proofs.Ytjbhcmppjmmmiaa
open Go.Sx Go
set_option maxRecDepth 100000
noncomputable def spA : List (Nat × (List SV → X SV)) := [(24, makeX aw)]
theorem okSpA : ∀ x ∈ spA, SpecOk G0 Try.prog x.1 x.2 := one_ok (a := (24, makeX aw)) aw_ok
noncomputable def funA (f : Nat) : List SV → X SV := callF (tabJ []) (spOf spA) (bxOf []) 400 12 f
theorem funA_ok (f : Nat) : SpecOk G0 Try.prog f (funA f) := callF_ok (spOf_ok okSpA) noBx 400 12 f
noncomputable def modF (k : Int) : Fact := (.rem (.wrap .u64 (.var 1)) (.lit 5), k, k)
noncomputable def memK (k : Int) : Mem := { mem0 60 with know := ⟨[modF k], []⟩ }
theorem ff0 : allOf (funA 5 [vi 1, vi 2] (memK 0)) isTrue = true := by kernel_rfl
theorem ff1 : allOf (funA 5 [vi 1, vi 2] (memK 1)) isTrue = true := by kernel_rfl
theorem ff2 : allOf (funA 5 [vi 1, vi 2] (memK 2)) isTrue = true := by kernel_rfl
theorem ff3 : allOf (funA 5 [vi 1, vi 2] (memK 3)) isTrue = true := by kernel_rfl
theorem ff4 : allOf (funA 5 [vi 1, vi 2] (memK 4)) isTrue = true := by kernel_rfl
theorem fa : allOf (funA 7 [vi 1, vi 2] { mem0 60 with know := ⟨[], []⟩ }) isTrue = true := by kernel_rfl
end Go.Proofs.Ytjbhcmppjmmmiaa
