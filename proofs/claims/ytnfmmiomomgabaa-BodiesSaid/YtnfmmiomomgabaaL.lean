/- what the laws of layer 7 are run with. -/
import Derived.Test.YtnfmmiomomgabaaW
import Derived.Test.YtnfmmiomomgabaaI
namespace Go.Proofs.Ytnfmmiomomgabaa
open Go.Sx Go
set_option maxRecDepth 100000
noncomputable def spP : List (Nat × (List SV → X SV)) := [(25, mayX), (13, mayX), (28, letA m28), (29, letA m29), (17, makeX awakeP)]
theorem okSpP : ∀ x ∈ spP, SpecOk G0 Try.prog x.1 x.2 := cons_ok (a := (25, mayX)) x25_ok (cons_ok (a := (13, mayX)) x13_ok (cons_ok (a := (28, letA m28)) (letA_ok m28_ok) (cons_ok (a := (29, letA m29)) (letA_ok m29_ok) (one_ok (a := (17, makeX awakeP)) awake_ok))))
noncomputable def funP (f : Nat) : List SV → X SV := funL spP f
theorem funP_ok (f : Nat) : SpecOk G0 Try.prog f (funP f) := funL_ok okSpP f
noncomputable def p9 : List SV → X SV := gcR (funP 9)
theorem p9_ok : SpecOk G0 Try.prog 9 p9 := gcR_ok (funP_ok 9)
noncomputable def spR : List (Nat × (List SV → X SV)) := [(9, p9), (13, mayX), (17, makeX awakeP)]
theorem okSpR : ∀ x ∈ spR, SpecOk G0 Try.prog x.1 x.2 := cons_ok (a := (9, p9)) p9_ok (cons_ok (a := (13, mayX)) x13_ok (one_ok (a := (17, makeX awakeP)) awake_ok))
end Go.Proofs.Ytnfmmiomomgabaa
