/- awake; DescRows. -/
import Derived.Test.YtofmndcdcchflaaDR
import Derived.Test.YtofmndcdcchflaaAW
namespace Go.Proofs.Ytofmndcdcchflaa
open Go.Sx Go Go.DescNum
set_option maxRecDepth 100000
noncomputable def spD : List (Nat × (List SV → X SV)) := [(10, rowsX), (23, makeX aw)]
theorem okSpD {V : List Int} (h : View V) : ∀ x ∈ spD, SpecOk (G0 V) Try.prog x.1 x.2 := cons_ok (a := (10, rowsX)) (rowsp_ok h) (one_ok (a := (23, makeX aw)) aw_ok)
theorem okLxD {V : List Int} (h : View V) : ∀ y ∈ [((6 : Nat), (0 : Nat), loopD)], LxOk (G0 V) Try.prog y := fun y hy => by
 rcases List.mem_singleton.1 hy with rfl
 exact loopD_ok h
noncomputable def funD : List SV → X SV := callF (tabJ []) (spOf spD) (bxOf [(6, 0, loopD)]) 400 12 6
theorem dRun : allOf (funD [.agg viewC] (slMem [] [(g1 1101 (.lit 0), 0, 0)] 60)) isTrue = true := by kernel_rfl
end Go.Proofs.Ytofmndcdcchflaa
