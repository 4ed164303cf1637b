/- what SkipBack is run with: a head of its loop for each key. -/
import Derived.Test.YtdngeccbmalbnaaW
namespace Go.Proofs.Ytdngeccbmalbnaa
open Go.Sx Go
set_option maxRecDepth 100000
/-- an operation's level, if it is open -/
noncomputable def askLv : List SV → Mem → Option BE
  | [_, .agg (.cons _ (.cons _ (.cons _ (.cons (.int _ e) _))))], _ => match e with
    | .lit _ => none
    | e => some (.eq e (.lit 0))
  | _, _ => none
noncomputable def k8 : List SV → X SV := preX askLv w8
theorem k8_ok : SpecOk G0 Try.prog 8 k8 := preX_ok w8_ok askLv
noncomputable def spK : List (Nat × (List SV → X SV)) := [(8, k8), (15, w15)]
theorem okSpK : ∀ x ∈ spK, SpecOk G0 Try.prog x.1 x.2 := cons_ok (a := (8, k8)) k8_ok (one_ok (a := (15, w15)) w15_ok)
noncomputable def cxK : CX := callF (tabJ []) (spOf (spK ++ spL)) (bxOf []) 400 12
theorem cxK_ok : CallsOk G0 Try.prog cxK := by
  unfold cxK
  rw [callF_eq]
  exact callD_ok (spC_ok okSpK) noBx 400 12
/-- the key that is put and taken -/
noncomputable def eKey : IE := .rem (.wrap .u64 (.var 6)) (.lit 5)
/-- the key that a round puts -/
noncomputable def eRow : IE := .rem (.bit .and .i64 (.sel 5 (.var 12)) (.lit 1023)) (.lit 5)
noncomputable def stK (k : Nat) : St := stV.set k (.lit 0, .lit 0)
noncomputable def viewK (k : Nat) : Ent := ⟨20, 0, false, 25, .lit 0, Sx.nfS (knownL 16 (viewB (stK k))) fun c => c⟩
noncomputable def headK (k : Nat) : HeadP := {
  tm := slotsN 114 [(0, slV 1 2 3 4), (2, vi 7), (7, .ptr 20 0 (.lit 0)), (8, .int .i64 eKey), (9, vi 12)]
  mem := { know := ⟨(.var 12, 0, 5) :: (eKey, k, k) :: slF 2 3 4 hi64, []⟩, heap := [viewK k, slE 1 2 3 5 1], seg := 30, next := 0, nv := 400 }
  mu := .sub (.lit 5) (.var 12) }
noncomputable def leaveK (k : Nat) : LeaveP := { e := .normal, tm := slotsN 114 [(2, vi 7), (7, .ptr 20 0 (.lit 0)), (8, .int .i64 eKey)], mem := { know := ⟨[(eKey, k, k)], []⟩, heap := [viewK k], seg := 30, next := 0, nv := 400 } }
noncomputable def kOk (k : Nat) (c : List Fact × List BE) : Bool := headOk (tabJ []) cxK (fun _ => none) none 400 0 (loopBody 0 (bodyOf Try.f7)) 12 [headK k] [leaveK k] ((headK k).moreC c)
noncomputable def loopK (k : Nat) : Fr → X (SX × Fr) := loopP 12 [headK k] [leaveK k]
noncomputable def runK (k : Nat) : List SV → X SV := callF (tabJ []) (spOf (spK ++ spL)) (bxOf [(7, 0, loopK k)]) 400 12 7
noncomputable def okKs (k : Nat) : Bool := allOf (runK k [slV 1 2 3 4, vi 6, vi 7] (slMem [slE 1 2 3 5 1] ((eKey, k, k) :: slF 2 3 4 hi64) 10)) isTrue
noncomputable def okKn (k : Nat) : Bool := allOf (funL spK 7 [.nils, vi 6, vi 7] (slMem [] [(eKey, k, k)] 10)) isTrue
end Go.Proofs.Ytdngeccbmalbnaa
