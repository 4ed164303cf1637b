/- ImageLevels: what is run. -/
import Derived.Test.YtojpmbkbeoolcaaLV
namespace Go.Proofs.Ytojpmbkbeoolcaa
open Go.Sx Go
set_option maxRecDepth 100000
theorem getL_ok : SpecOk G0 Try.prog 8 getX := getX_ok semGet
theorem putL_ok : SpecOk G0 Try.prog 10 (putX 62) := putX_ok semPut
theorem sameS_ok : SpecOk G0 Try.prog 13 sameX := sameX_ok semSame
noncomputable def spV : List (Nat × (List SV → X SV)) := [(15, makeX aw), (8, getX), (10, putX 62), (13, sameX)]
theorem okSpV : ∀ x ∈ spV, SpecOk G0 Try.prog x.1 x.2 := cons_ok (a := (15, makeX aw)) aw_ok (cons_ok (a := (8, getX)) getL_ok (cons_ok (a := (10, putX 62)) putL_ok (one_ok (a := (13, sameX)) sameS_ok)))
noncomputable def okLv : Bool := allOf (funL spV 7 [stV 1 20, vi 5, vi 6] (slMem [] (rngB 1) 60)) isTrue
noncomputable def okW (c lo hi : Int) : Bool := allOf (funL [(15, makeX aw)] 7 [stV 1 20, vi 5, vi 6] (slMem [] [(.sel 1 (.lit c), lo, hi)] 60)) isTrue
theorem aw1 : ∀ x ∈ [(15, makeX aw)], SpecOk G0 Try.prog x.1 x.2 := one_ok (a := (15, makeX aw)) aw_ok
theorem lv_all : okLv = true := by kernel_rfl
theorem lv_0l : okW 0 lo64 (-2) = true := by kernel_rfl
theorem lv_0h : okW 0 1048576 hi64 = true := by kernel_rfl
theorem lv_1l : okW 1 lo64 (-2) = true := by kernel_rfl
theorem lv_1h : okW 1 1048576 hi64 = true := by kernel_rfl
theorem lv_2l : okW 2 lo64 (-2) = true := by kernel_rfl
theorem lv_2h : okW 2 1048576 hi64 = true := by kernel_rfl
theorem lv_3l : okW 3 lo64 (-2) = true := by kernel_rfl
theorem lv_3h : okW 3 1048576 hi64 = true := by kernel_rfl
end Go.Proofs.Ytojpmbkbeoolcaa
