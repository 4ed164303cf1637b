/- DescBack: what is run. -/
import Derived.Test.YtofmndcdcchflaaGB
import Derived.Test.YtofmndcdcchflaaSX
import Derived.Test.YtofmndcdcchflaaAW
import Derived.Test.YtofmndcdcchflaaWK
import Derived.Test.YtofmndcdcchflaaSQ
namespace Go.Proofs.Ytofmndcdcchflaa
open Go.Sx Go Go.DescNum
set_option maxRecDepth 100000
noncomputable def spB : List (Nat × (List SV → X SV)) := [(32, mayX 32), (35, mayX 35), (48, putX), (33, storesX), (21, backX), (56, getX), (45, isX), (23, makeX aw), (9, samNX), (18, stepX)]
theorem okSpB {V : List Int} : ∀ x ∈ spB, SpecOk (G0 V) Try.prog x.1 x.2 :=
 cons_ok (a := (32, mayX 32)) (mayX_ok sem32) (cons_ok (a := (35, mayX 35)) (mayX_ok sem35) (cons_ok (a := (48, putX)) putX_ok (cons_ok (a := (33, storesX)) (storesX_ok semSt) (cons_ok (a := (21, backX)) back21_ok
  (cons_ok (a := (56, getX)) getX_ok (cons_ok (a := (45, isX)) isX_ok (cons_ok (a := (23, makeX aw)) aw_ok (cons_ok (a := (9, samNX)) samNX_ok (one_ok (a := (18, stepX)) stepX_ok)))))))))
end Go.Proofs.Ytofmndcdcchflaa
