/- what BankWalks is run with: a head of its loop. -/
import Derived.Test.YthhjijadllpcpaaQD
namespace Go.Proofs.Ythhjijadllpcpaa
open Go.Sx Go
set_option maxRecDepth 100000
def bodyOf (f : Func) : Code := f.body.getD .skip
noncomputable def cx1 : CX := callF (tabJ []) sp1 (bxOf []) 400 12
theorem cx1_ok : CallsOk Try.prog cx1 := by
  unfold cx1
  rw [callF_eq]
  exact callD_ok sp1_ok noBx 400 12
def slotsN (n : Nat) (xs : List (Nat × SV)) : List SV := (List.range n).map fun i => match Sx.look i xs with | some v => v | none => .nil
def bsFacts : List Fact := [(.var 13, -1, 1550), (.var 14, -1, 1550), (.var 15, -1, 1550), (.var 16, -1, 1550)] ++ [13, 14, 15, 16].map fun k => (.add (.var k) (.mul (.var 12) (.lit (-31))), -2000, 0)
/-- a round's head: how many rounds were, the four balances; each grew by at most 31 a round -/
def headW : HeadP := {
  tm := slotsN 179 [(0, slV 1 2 3 4), (2, .bool (.lit false)), (3, .sli 20 0 (.lit 0) (.lit 4) (.lit 4)), (4, vi 12)]
  mem := { know := ⟨(.var 12, 0, 50) :: bsFacts ++ slF 2 3 4 hi64, []⟩, heap := [⟨20, 0, false, 3, .lit 0, .cons (vi 13) (.cons (vi 14) (.cons (vi 15) (.cons (vi 16) .nil)))⟩, slE 1 2 3 5 1], seg := 30, next := 0, nv := 400 }
  mu := .sub (.lit 50) (.var 12) }
def leaveW : LeaveP := { e := .normal, tm := slotsN 179 [], mem := { know := ⟨[], []⟩, heap := [], seg := 30, next := 0, nv := 400 } }
def eS (n : Nat) : IE := .shr (.sel 5 (.var 12)) n
def eA : IE := .bit .and .i64 (.sel 5 (.var 12)) (.lit 3)
def eB : IE := .bit .and .i64 (eS 2) (.lit 3)
def eK : IE := .rem (.bit .and .i64 (eS 9) (.lit 1023)) (.lit 6)
noncomputable def hOk (fs : List Fact) : Bool := headOk (tabJ []) cx1 (fun _ => none) none 400 0 (loopBody 0 (bodyOf Try.f5)) 12 [headW] [leaveW] (headW.more fs)
end Go.Proofs.Ythhjijadllpcpaa
