/- BodyFull and BodyNone: what is run. -/
import Derived.Test.YtnfmmiomomgabaaL
namespace Go.Proofs.Ytnfmmiomomgabaa
open Go.Sx Go
set_option maxRecDepth 100000
def bodyOf (f : Func) : Code := f.body.getD .skip
noncomputable def slotsN (n : Nat) (xs : List (Nat × SV)) : List SV := (List.range n).map fun i => match Sx.look i xs with | some v => v | none => .nil
noncomputable def xsV : SV := slV 1 2 3 4
noncomputable def osV : SV := slV 6 7 8 9
noncomputable def xsE : Ent := slE 1 2 3 5 1
noncomputable def osE : Ent := slE 6 7 8 10 4
noncomputable def runN (f : Nat) : List SV → X SV := callF (tabJ [4]) (spOf (spR ++ spL)) (bxOf []) 400 12 f
theorem runN_ok (f : Nat) : SpecOk G0 Try.prog f (runN f) := callF_ok (spC_ok okSpR) noBx 400 12 f
noncomputable def okN (fs : List Fact) : Bool := allOf (runN 4 [xsV, osV] (slMem [xsE, osE] (fs ++ (slF 2 3 4 hi64 ++ slF 7 8 9 hi64)) 20)) isTrue
noncomputable def okNx (fs : List Fact) : Bool := allOf (runN 4 [.nils, osV] (slMem [osE] (fs ++ slF 7 8 9 hi64) 20)) isTrue
noncomputable def okNo : Bool := allOf (runN 4 [xsV, .nils] (slMem [xsE] (slF 2 3 4 hi64) 20)) isTrue
noncomputable def okNn : Bool := allOf (runN 4 [.nils, .nils] (slMem [] [] 20)) isTrue
noncomputable def kindS (n : Int) (c : Bool) : Fact := cond c (.sel 10 (.lit n), lo64, 5) (.sel 10 (.lit n), 6, hi64)
noncomputable def eH : IE := .bit .and .i64 (.var 11) (.lit 15)
noncomputable def ysF : Nat → List Fact → List Fact | 0, l => l | n + 1, l => ysF n ((.sel 60 (.lit n), 0, 7) :: l)
noncomputable def ysE : Ent := ⟨20, 0, false, 3, .lit 0, .cons (.arr .i64 60 (.lit 16) .nil) .nil⟩
noncomputable def headY (ov : SV) (oe : List Ent) (cs : List Fact) : HeadP := {
 tm := slotsN 124 [(0, xsV), (1, ov), (2, vi 11), (6, .bool (.lit false)), (7, .sli 20 0 (.lit 0) (.lit 16) (.lit 16)), (8, vi 52)]
 mem := { know := ⟨(.var 52, 0, 16) :: (cs ++ (ysF 16 (slF 2 3 4 hi64 ++ slF 7 8 9 hi64))), []⟩, heap := ysE :: xsE :: oe, seg := 30, next := 0, nv := 400 }
 mu := .sub (.lit 17) (.var 52) }
noncomputable def leaveY (ov : SV) (oe : List Ent) (cs : List Fact) : LeaveP := { e := .normal, tm := slotsN 124 [(1, ov), (2, vi 11), (6, .bool (.lit false)), (7, .sli 20 0 (.lit 0) (.lit 16) (.lit 16))], mem := { know := ⟨cs ++ ysF 16 (slF 7 8 9 hi64), []⟩, heap := ysE :: oe, seg := 30, next := 0, nv := 400 } }
noncomputable def cxY : CX := callF (tabJ []) (spOf (spR ++ spL)) (bxOf []) 400 12
theorem cxY_ok : CallsOk G0 Try.prog cxY := by
 unfold cxY
 rw [callF_eq]
 exact callD_ok (spC_ok okSpR) noBx 400 12
noncomputable def okY (ov : SV) (oe : List Ent) (cs : List Fact) : Bool := headOk (tabJ []) cxY (fun _ => none) none 400 0 (loopBody 0 (bodyOf Try.f6)) 14 [headY ov oe cs] [leaveY ov oe cs] (headY ov oe cs)
noncomputable def loopY (ov : SV) (oe : List Ent) (cs : List Fact) : Fr → X (SX × Fr) := loopP 14 [headY ov oe cs] [leaveY ov oe cs]
noncomputable def runY (ov : SV) (oe : List Ent) (cs : List Fact) : List SV → X SV := callF (tabJ []) (spOf (spR ++ spL)) (bxOf [(6, 0, loopY ov oe cs)]) 400 12 6
noncomputable def funR (f : Nat) : List SV → X SV := funL spR f
theorem funR_ok (f : Nat) : SpecOk G0 Try.prog f (funR f) := funL_ok okSpR f
noncomputable def okYs (ov : SV) (oe : List Ent) (cs : List Fact) : Bool := okY ov oe cs && allOf (runY ov oe cs [xsV, ov, vi 11] (slMem (xsE :: oe) (cs ++ (slF 2 3 4 hi64 ++ slF 7 8 9 hi64)) 12)) isTrue
noncomputable def okF (cs : List Fact) : Bool := okYs osV [osE] cs
noncomputable def okFo : Bool := okYs .nils [] []
noncomputable def okFx (cs : List Fact) : Bool := allOf (funR 6 [.nils, osV, vi 11] (slMem [osE] (cs ++ slF 7 8 9 hi64) 12)) isTrue
noncomputable def okFn : Bool := allOf (funR 6 [.nils, .nils, vi 11] (slMem [] [] 12)) isTrue
theorem loopY_ok {ov : SV} {oe : List Ent} {cs : List Fact} (h : okY ov oe cs = true) : LxOk G0 Try.prog (6, 0, loopY ov oe cs) :=
 lx_ok Try.func6 (c := bodyOf Try.f6) rfl (b := loopBody 0 (bodyOf Try.f6)) (by kernel_rfl) (loopPc_ok (T := tabJ []) cxY_ok (jm := none) (fuel := 400) (noBlocks_ok _ _) (fun y hy => by
  rcases List.mem_singleton.1 hy with rfl
  exact ⟨[[]], fun _ _ _ => ⟨[], List.mem_singleton_self _, fun _ h => (by cases h)⟩, fun c hc => (by
   rcases List.mem_singleton.1 hc with rfl
   exact h)⟩))
theorem runY_ok {ov : SV} {oe : List Ent} {cs : List Fact} (h : okY ov oe cs = true) : SpecOk G0 Try.prog 6 (runY ov oe cs) :=
 callF_ok (spC_ok okSpR) (bxOf_ok (by intro y hy; simp only [List.mem_cons, List.not_mem_nil, or_false] at hy; subst hy; exact loopY_ok h)) 400 12 6
end Go.Proofs.Ytnfmmiomomgabaa
