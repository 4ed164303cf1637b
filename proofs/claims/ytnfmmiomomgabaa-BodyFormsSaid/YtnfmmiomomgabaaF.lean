/- BodyForms: what is run. -/
import Derived.Test.YtnfmmiomomgabaaW
namespace Go.Proofs.Ytnfmmiomomgabaa
open Go.Sx Go
set_option maxRecDepth 100000
noncomputable def eW : IE := .rem (.wrap .u64 (.var 6)) (.lit 18)
noncomputable def spF : List (Nat × (List SV → X SV)) := [(17, makeX awakeP)]
theorem okSpF : ∀ x ∈ spF, SpecOk G0 Try.prog x.1 x.2 := one_ok (a := (17, makeX awakeP)) awake_ok
noncomputable def memG (fs : List Fact) : Mem := { know := ⟨fs, []⟩, heap := [], seg := 0, next := 0, nv := 10 }
noncomputable def okForm (i : Int) : Bool := allOf (funL spF 5 [vi 6, vi 7] (memG [(eW, i, i)])) isTrue
end Go.Proofs.Ytnfmmiomomgabaa
