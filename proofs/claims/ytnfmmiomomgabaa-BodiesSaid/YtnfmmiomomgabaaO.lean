/- Bodies: what is run. -/
import Derived.Test.YtnfmmiomomgabaaH
import Derived.Test.YtnfmmiomomgabaaZL
import Derived.Test.YtnfmmiomomgabaaQ
import Derived.Test.YtnfmmiomomgabaaR
import Derived.Test.YtnfmmiomomgabaaS
import Derived.Test.YtnfmmiomomgabaaJ
namespace Go.Proofs.Ytnfmmiomomgabaa
open Go.Sx Go
set_option maxRecDepth 100000
noncomputable def askKd : List SV → Mem → Option BE
 | [_, .agg (.cons (.int _ e) _)], _ => match e with
  | .lit _ => none
  | e => some (.lt (.lit 5) e)
 | _, _ => none
noncomputable def y28 : List SV → X SV := letA (semY true 0 4 lo64 5)
theorem y28_ok : SpecOk G0 Try.prog 28 y28 := letA_ok (semY_ok (by decide) hsemB8)
noncomputable def y29 : List SV → X SV := letA (semY true 4 12 6 hi64)
theorem y29_ok : SpecOk G0 Try.prog 29 y29 := letA_ok (semY_ok (by decide) hsem8)
noncomputable def y24 : List SV → X SV := preX askKd (orX (letA (semY false 0 4 lo64 5)) (letA (semY false 4 12 6 hi64)))
theorem y24_ok : SpecOk G0 Try.prog 24 y24 := preX_ok (orX_ok (letA_ok (semY_ok (by decide) hsemB22)) (letA_ok (semY_ok (by decide) hsem22))) askKd
noncomputable def spY : List (Nat × (List SV → X SV)) := [(25, mayX), (28, y28), (29, y29)]
theorem okSpY : ∀ x ∈ spY, SpecOk G0 Try.prog x.1 x.2 := cons_ok (a := (25, mayX)) x25_ok (cons_ok (a := (28, y28)) y28_ok (one_ok (a := (29, y29)) y29_ok))
noncomputable def p9y : List SV → X SV := gcR (funL spY 9)
theorem p9y_ok : SpecOk G0 Try.prog 9 p9y := gcR_ok (funL_ok okSpY 9)
noncomputable def spB : List (Nat × (List SV → X SV)) := [(14, mayX), (24, y24)]
theorem okSpB : ∀ x ∈ spB, SpecOk G0 Try.prog x.1 x.2 := cons_ok (a := (14, mayX)) x14_ok (one_ok (a := (24, y24)) y24_ok)
noncomputable def p10 : List SV → X SV := gcR (funL spB 10)
theorem p10_ok : SpecOk G0 Try.prog 10 p10 := gcR_ok (funL_ok okSpB 10)
noncomputable def c9 : List SV → X SV := canonX (capX 0 400 p9y)
theorem c9_ok : SpecOk G0 Try.prog 9 c9 := canonX_ok (capX_ok p9y_ok)
noncomputable def c10 : List SV → X SV := canonX (capX 0 400 p10)
theorem c10_ok : SpecOk G0 Try.prog 10 c10 := canonX_ok (capX_ok p10_ok)
noncomputable def c20 : List SV → X SV := mapWaysX roomG (fun2 20)
theorem c20_ok : SpecOk G0 Try.prog 20 c20 := mapWaysX_ok (fun2_ok 20) roomG_ok
noncomputable def c8 : List SV → X SV := canonX (capX 2 200 (gcR (funL [(20, c20)] 8)))
theorem c8_ok : SpecOk G0 Try.prog 8 c8 := canonX_ok (capX_ok (gcR_ok (funL_ok (one_ok (a := (20, c20)) c20_ok) 8)))
noncomputable def spO : List (Nat × (List SV → X SV)) := [(8, c8), (9, c9), (10, c10), (13, mayX), (14, mayX), (17, makeX awakeP)]
theorem okSpO : ∀ x ∈ spO, SpecOk G0 Try.prog x.1 x.2 := cons_ok (a := (8, c8)) c8_ok (cons_ok (a := (9, c9)) c9_ok (cons_ok (a := (10, c10)) c10_ok (cons_ok (a := (13, mayX)) x13_ok (cons_ok (a := (14, mayX)) x14_ok (one_ok (a := (17, makeX awakeP)) awake_ok)))))
noncomputable def osW : SV := slV 46 47 48 49
noncomputable def osF : Ent := slE 46 47 48 10 4
noncomputable def memO (fs : List Fact) : Mem := slMem [osF] (fs ++ (slF 47 48 49 4398046510976 ++ rngs 6 16 (rngs 7 16 []))) 50
noncomputable def okB (fs : List Fact) : Bool := allOf (funL spO 3 [viewV 20 6 7, osW, opV 10] (memO fs)) isTrue
noncomputable def lentC : SV := .cons (.arr .i64 10 (.mul (.var 48) (.lit 4)) .nil) (.cons (.int .i64 (.lit 0)) (.cons (.int .i64 (.lit 0)) (.cons (.int .i64 (.lit 0)) (.cons (.int .i64 (.lit 77777)) (.cons (.int .i64 (.lit 0)) (.cons (.int .i64 (.lit 0)) (.cons (.int .i64 (.lit 0)) (.cons (.int .i64 (.lit 77777)) (.cons (.arr .i64 0 (.add (.mul (.sub (.var 250) (.var 48)) (.lit 4)) (.lit (-8))) .nil) .nil)))))))))
noncomputable def lentE : Ent := ⟨252, 0, true, 28, .lit 0, lentC⟩
noncomputable def lentF : List Fact := (.sub (.var 250) (.var 48), 2, hi64) :: slF 47 48 49 4398046510976
noncomputable def headS : HeadP := {
 tm := slotsN 26 [(0, .sli 252 0 (.lit 0) (.var 48) (.var 250)), (1, osW), (4, .bool (.lit false)), (5, vi 1001)]
 mem := { know := ⟨(.var 1001, 0, 4398046510976) :: (.sub (.var 48) (.var 1001), 0, hi64) :: lentF, []⟩, heap := [lentE, osF], seg := 1002, next := 0, nv := 1100 }
 mu := .sub (.var 48) (.var 1001) }
noncomputable def leaveS : LeaveP := { e := .normal, tm := slotsN 26 [(4, .bool (.lit false))], mem := { know := ⟨lentF, []⟩, heap := [lentE, osF], seg := 1002, next := 0, nv := 1100 } }
noncomputable def okSl : Bool := headOk (tabJ []) (callF (tabJ []) (spOf []) (bxOf []) 400 12) (fun _ => none) none 400 0 (loopBody 0 (bodyOf Try.f26)) 1000 [headS] [leaveS] headS
noncomputable def loopS : Fr → X (SX × Fr) := loopP 1000 [headS] [leaveS]
noncomputable def run26 : List SV → X SV := callF (tabJ []) (spOf []) (bxOf [(26, 0, loopS)]) 400 12 26
noncomputable def sameP : Sx.Make := { args := [.sli 252 0 (.lit 0) (.var 48) (.var 250), osW], mem := { know := ⟨lentF, []⟩, heap := [lentE, osF], seg := 900, next := 0, nv := 1000 }, val := .bool (.lit true), out := none }
theorem okSl_ok : okSl = true := by kernel_rfl
theorem sameP_ok : readRun run26 sameP = true := by kernel_rfl
theorem run26_ok : SpecOk G0 Try.prog 26 run26 := callF_ok noSpecs (bxOf_ok (by
 intro y hy
 simp only [List.mem_cons, List.not_mem_nil, or_false] at hy
 subst hy
 refine lx_ok Try.func26 (c := bodyOf Try.f26) rfl (b := loopBody 0 (bodyOf Try.f26)) (by kernel_rfl) (loopPc_ok (T := tabJ []) (cx := callF (tabJ []) (spOf []) (bxOf []) 400 12) (by rw [callF_eq]; exact callD_ok noSpecs noBx 400 12) (jm := none) (fuel := 400) (noBlocks_ok _ _) (fun y hy => by
  rcases List.mem_singleton.1 hy with rfl
  exact ⟨[[]], fun _ _ _ => ⟨[], List.mem_singleton_self _, fun _ h => (by cases h)⟩, fun c hc => (by
   rcases List.mem_singleton.1 hc with rfl
   exact okSl_ok)⟩)))) 400 12 26
noncomputable def x26 : List SV → X SV := readX 400 sameP
theorem x26_ok : SpecOk G0 Try.prog 26 x26 := readX_ok run26_ok 400 sameP sameP_ok
noncomputable def ok3 : Bool := allOf (funL ((26, x26) :: spO) 3 [viewV 20 6 7, osW, opV 10] (memO [(.var 48, 3, 4398046510976)])) isTrue
noncomputable def ok0 : Bool := allOf (funL spO 3 [viewV 20 6 7, .sli 46 0 (.var 47) (.lit 0) (.var 49), opV 10] (memO [(.var 48, 0, 0)])) isTrue
noncomputable def okNil : Bool := allOf (funL spO 3 [viewV 20 6 7, .nils, opV 10] (memC (rngs 6 16 (rngs 7 16 [])) [])) isTrue
noncomputable def b9 : List SV → X SV := gcR (funL [(25, mayX), (28, badX 500), (29, badX 600)] 9)
theorem b9_ok : SpecOk G0 Try.prog 9 b9 := gcR_ok (funL_ok (cons_ok (a := (25, mayX)) x25_ok (cons_ok (a := (28, badX 500)) x28_ok (one_ok (a := (29, badX 600)) x29_ok))) 9)
noncomputable def b10 : List SV → X SV := gcR (funL [(14, mayX)] 10)
theorem b10_ok : SpecOk G0 Try.prog 10 b10 := gcR_ok (funL_ok (one_ok (a := (14, mayX)) x14_ok) 10)
noncomputable def spZ : List (Nat × (List SV → X SV)) := [(8, c8), (9, b9), (10, b10), (13, mayX), (14, mayX), (17, makeX awakeP)]
theorem okSpZ : ∀ x ∈ spZ, SpecOk G0 Try.prog x.1 x.2 := cons_ok (a := (8, c8)) c8_ok (cons_ok (a := (9, b9)) b9_ok (cons_ok (a := (10, b10)) b10_ok (cons_ok (a := (13, mayX)) x13_ok (cons_ok (a := (14, mayX)) x14_ok (one_ok (a := (17, makeX awakeP)) awake_ok)))))
noncomputable def memBad {α : Type} (ents : List Ent) (fs : List Fact) (k : Mem → α) : α := nfB cVa fun c => nfB cVb fun d => k { slMem ents fs 50 with know := ⟨fs, [.not c, .not d]⟩ }
noncomputable def bad1 (fs : List Fact) : Bool := memBad [osF] (fs ++ slF 47 48 49 4398046510976) fun m => allOf (funL spZ 3 [viewV 20 6 7, osW, opV 10] m) isTrue
noncomputable def bad0 : Bool := memBad [osF] ((.var 48, 0, 0) :: slF 47 48 49 4398046510976) fun m => allOf (funL spZ 3 [viewV 20 6 7, .sli 46 0 (.var 47) (.lit 0) (.var 49), opV 10] m) isTrue
noncomputable def badNil : Bool := memBad [] [] fun m => allOf (funL spZ 3 [viewV 20 6 7, .nils, opV 10] m) isTrue
noncomputable def bad3 : Bool := memBad [osF] ((.var 48, 3, 4398046510976) :: slF 47 48 49 4398046510976) fun m => allOf (funL ((26, x26) :: spZ) 3 [viewV 20 6 7, osW, opV 10] m) isTrue
end Go.Proofs.Ytnfmmiomomgabaa
