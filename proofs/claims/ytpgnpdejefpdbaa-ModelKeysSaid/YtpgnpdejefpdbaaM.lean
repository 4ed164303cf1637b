/- Models: what is run. -/
import Derived.Test.YtpgnpdejefpdbaaR
namespace Go.Proofs.Ytpgnpdejefpdbaa
open Go.Sx Go
set_option maxRecDepth 100000
def bodyOf (f : Func) : Code := f.body.getD .skip
noncomputable def slotsN (n : Nat) (xs : List (Nat × SV)) : List SV := (List.range n).map fun i => match Sx.look i xs with | some v => v | none => .nil
noncomputable def p9 : List SV → X SV := gcR (funP 9)
theorem p9_ok : SpecOk G0 Try.prog 9 p9 := gcR_ok (funP_ok 9)
noncomputable def p10 : List SV → X SV := gcR (funP 10)
theorem p10_ok : SpecOk G0 Try.prog 10 p10 := gcR_ok (funP_ok 10)
noncomputable def c9 : List SV → X SV := canonX (capX 0 400 p9)
theorem c9_ok : SpecOk G0 Try.prog 9 c9 := canonX_ok (capX_ok p9_ok)
noncomputable def c10 : List SV → X SV := canonX (capX 0 400 p10)
theorem c10_ok : SpecOk G0 Try.prog 10 c10 := canonX_ok (capX_ok p10_ok)
noncomputable def c18 : List SV → X SV := mapWaysX roomG (fun0 18)
theorem c18_ok : SpecOk G0 Try.prog 18 c18 := mapWaysX_ok (fun0_ok 18) roomG_ok
noncomputable def c8 : List SV → X SV := canonX (capX 2 200 (gcR (funL [(18, c18)] 8)))
theorem c8_ok : SpecOk G0 Try.prog 8 c8 := canonX_ok (capX_ok (gcR_ok (funL_ok (one_ok (a := (18, c18)) c18_ok) 8)))
noncomputable def spO : List (Nat × (List SV → X SV)) := [(8, c8), (9, c9), (10, c10), (17, makeX awakeP)]
theorem okSpO : ∀ x ∈ spO, SpecOk G0 Try.prog x.1 x.2 := cons_ok (a := (8, c8)) c8_ok (cons_ok (a := (9, c9)) c9_ok (cons_ok (a := (10, c10)) c10_ok (one_ok (a := (17, makeX awakeP)) awake_ok)))
noncomputable def osW : SV := slV 46 47 48 49
noncomputable def osF : Ent := slE 46 47 48 10 4
noncomputable def memO (fs : List Fact) : Mem := slMem [osF] (fs ++ slF 47 48 49 4398046510976) 50
noncomputable def okB (fs : List Fact) : Bool := allOf (funL spO 3 [stV 1 20, osW] (memO fs)) isTrue
noncomputable def lentC : SV := .cons (.arr .i64 10 (.mul (.var 48) (.lit 4)) .nil) (.cons (.int .i64 (.lit 0)) (.cons (.int .i64 (.lit 0)) (.cons (.int .i64 (.lit 0)) (.cons (.int .i64 (.lit 77777)) (.cons (.int .i64 (.lit 0)) (.cons (.int .i64 (.lit 0)) (.cons (.int .i64 (.lit 0)) (.cons (.int .i64 (.lit 77777)) (.cons (.arr .i64 0 (.add (.mul (.sub (.var 250) (.var 48)) (.lit 4)) (.lit (-8))) .nil) .nil)))))))))
noncomputable def lentE : Ent := ⟨252, 0, true, 44, .lit 0, lentC⟩
noncomputable def lentF : List Fact := (.sub (.var 250) (.var 48), 2, hi64) :: slF 47 48 49 4398046510976
noncomputable def headS : HeadP := {
 tm := slotsN 26 [(0, .sli 252 0 (.lit 0) (.var 48) (.var 250)), (1, osW), (4, .bool (.lit false)), (5, vi 1001)]
 mem := { know := ⟨(.var 1001, 0, 4398046510976) :: (.sub (.var 48) (.var 1001), 0, hi64) :: lentF, []⟩, heap := [lentE, osF], seg := 1002, next := 0, nv := 1100 }
 mu := .sub (.var 48) (.var 1001) }
noncomputable def leaveS : LeaveP := { e := .normal, tm := slotsN 26 [(4, .bool (.lit false))], mem := { know := ⟨lentF, []⟩, heap := [lentE, osF], seg := 1002, next := 0, nv := 1100 } }
noncomputable def okSl : Bool := headOk (tabJ []) (callF (tabJ []) (spOf []) (bxOf []) 400 12) (fun _ => none) none 400 0 (loopBody 0 (bodyOf Try.f25)) 1000 [headS] [leaveS] headS
noncomputable def loopS : Fr → X (SX × Fr) := loopP 1000 [headS] [leaveS]
noncomputable def run25 : List SV → X SV := callF (tabJ []) (spOf []) (bxOf [(25, 0, loopS)]) 400 12 25
noncomputable def sameP : Sx.Make := { args := [.sli 252 0 (.lit 0) (.var 48) (.var 250), osW], mem := { know := ⟨lentF, []⟩, heap := [lentE, osF], seg := 900, next := 0, nv := 1000 }, val := .bool (.lit true), out := none }
theorem okSl_ok : okSl = true := by kernel_rfl
theorem sameP_ok : readRun run25 sameP = true := by kernel_rfl
theorem run25_ok : SpecOk G0 Try.prog 25 run25 := callF_ok (spOf_ok (fun _ h => (by cases h))) (bxOf_ok (by
 intro y hy
 simp only [List.mem_cons, List.not_mem_nil, or_false] at hy
 subst hy
 refine lx_ok Try.func25 (c := bodyOf Try.f25) rfl (b := loopBody 0 (bodyOf Try.f25)) (by kernel_rfl) (loopPc_ok (T := tabJ []) (cx := callF (tabJ []) (spOf []) (bxOf []) 400 12) (by rw [callF_eq]; exact callD_ok (spOf_ok (fun _ h => (by cases h))) noBx 400 12) (jm := none) (fuel := 400) (noBlocks_ok _ _) (fun y hy => by
  rcases List.mem_singleton.1 hy with rfl
  exact ⟨[[]], fun _ _ _ => ⟨[], List.mem_singleton_self _, fun _ h => (by cases h)⟩, fun c hc => (by
   rcases List.mem_singleton.1 hc with rfl
   exact okSl_ok)⟩)))) 400 12 25
noncomputable def x25 : List SV → X SV := readX 400 sameP
theorem x25_ok : SpecOk G0 Try.prog 25 x25 := readX_ok run25_ok 400 sameP sameP_ok
noncomputable def ok3 : Bool := allOf (funL ((25, x25) :: spO) 3 [stV 1 20, osW] (memO [(.var 48, 3, 4398046510976)])) isTrue
noncomputable def ok0 : Bool := allOf (funL spO 3 [stV 1 20, .sli 46 0 (.var 47) (.lit 0) (.var 49)] (memO [(.var 48, 0, 0)])) isTrue
noncomputable def okNil : Bool := allOf (funL spO 3 [stV 1 20, .nils] (slMem [] [] 50)) isTrue
end Go.Proofs.Ytpgnpdejefpdbaa
