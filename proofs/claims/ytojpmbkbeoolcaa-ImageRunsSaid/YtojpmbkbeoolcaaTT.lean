/- ImageTells: what is run. -/
import Derived.Test.YtojpmbkbeoolcaaCP
import Derived.Test.YtojpmbkbeoolcaaZ
import Derived.Test.YtojpmbkbeoolcaaAW
namespace Go.Proofs.Ytojpmbkbeoolcaa
open Go.Sx Go
set_option maxRecDepth 100000
theorem get_ok : SpecOk G0 Try.prog 8 getX := getX_ok semGet
theorem put_ok : SpecOk G0 Try.prog 10 (putX 62) := putX_ok semPut
noncomputable def d17 : List SV → X SV := canonX (capX 0 400 (gcR (funL spI 17)))
theorem d17_ok : SpecOk G0 Try.prog 17 d17 := canonX_ok (capX_ok (gcR_ok (funL_ok okSpI 17)))
noncomputable def d18 : List SV → X SV := canonX (capX 0 400 (gcR (funL spP 18)))
theorem d18_ok : SpecOk G0 Try.prog 18 d18 := canonX_ok (capX_ok (gcR_ok (funL_ok okSpP 18)))
noncomputable def spD : List (Nat × (List SV → X SV)) := (8, getX) :: (10, putX 62) :: []
theorem okSpD : ∀ x ∈ spD, SpecOk G0 Try.prog x.1 x.2 := cons_ok (a := (8, getX)) get_ok (one_ok (a := (10, putX 62)) put_ok)
noncomputable def spT : List (Nat × (List SV → X SV)) := (17, d17) :: (18, d18) :: (15, makeX aw) :: spD
theorem okSpT : ∀ x ∈ spT, SpecOk G0 Try.prog x.1 x.2 := cons_ok (a := (17, d17)) d17_ok (cons_ok (a := (18, d18)) d18_ok (cons_ok (a := (15, makeX aw)) aw_ok okSpD))
noncomputable def osW : SV := slV 46 47 48 49
noncomputable def osF : Ent := slE 46 47 48 10 4
noncomputable def memO (fs : List Fact) : Mem := slMem [osF] (fs ++ slF 47 48 49 4398046510976) 60
noncomputable def runTells (fs : List Fact) : Bool := allOf (funL spT 4 [stV 1 20, vi 5, osW] (memO fs)) isTrue
end Go.Proofs.Ytojpmbkbeoolcaa
