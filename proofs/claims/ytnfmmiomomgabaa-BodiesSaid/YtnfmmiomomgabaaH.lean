/- BodySame: what is run. -/
import Derived.Test.YtnfmmiomomgabaaL
import Derived.Test.YtnfmmiomomgabaaV2
import Derived.Test.YtnfmmiomomgabaaX
namespace Go.Proofs.Ytnfmmiomomgabaa
open Go.Sx Go
set_option maxRecDepth 100000
noncomputable def kindF (n : Nat) (c : Bool) : Fact := cond c (.var n, lo64, 5) (.var n, 6, hi64)
noncomputable def okSame (c d : Bool) : Bool := allOf (funP 7 [viewV 20 6 7, opV 10, opV 14] (memC ([kindF 10 c, kindF 14 d] ++ rngs 6 16 (rngs 7 16 [])) [])) isTrue
noncomputable def spQ : List (Nat × (List SV → X SV)) := [(25, mayX), (13, mayX), (17, makeX awakeP), (28, badX 500), (29, badX 600)]
theorem okSpQ : ∀ x ∈ spQ, SpecOk G0 Try.prog x.1 x.2 := cons_ok (a := (25, mayX)) x25_ok (cons_ok (a := (13, mayX)) x13_ok (cons_ok (a := (17, makeX awakeP)) awake_ok (cons_ok (a := (28, badX 500)) x28_ok (one_ok (a := (29, badX 600)) x29_ok))))
noncomputable def funQ (f : Nat) : List SV → X SV := funL spQ f
theorem funQ_ok (f : Nat) : SpecOk G0 Try.prog f (funQ f) := funL_ok okSpQ f
noncomputable def okSameB : Bool := allOf (withB [] fun m => funQ 7 [viewV 20 6 7, opV 10, opV 14] m) isTrue
end Go.Proofs.Ytnfmmiomomgabaa
