/- LimboForms, LimboEmpties, by their runs. -/
import Derived.Test.YtoemdbongkkmjaaB
namespace Go.Proofs.Ytoemdbongkkmjaa
open Go.Sx Go
set_option maxRecDepth 100000
noncomputable def modF (k : Int) : Fact := (.rem (.wrap .u64 (.var 1)) (.lit 4), k, k)
noncomputable def okFm (k : Int) : Bool := allOf (funB spB 5 [vi 1, vi 2] { mem0 60 with know := ⟨[modF k], []⟩ }) isTrue
theorem fm0 : okFm 0 = true := by kernel_rfl
theorem fm1 : okFm 1 = true := by kernel_rfl
theorem fm2 : okFm 2 = true := by kernel_rfl
theorem fm3 : okFm 3 = true := by kernel_rfl
end Go.Proofs.Ytoemdbongkkmjaa
