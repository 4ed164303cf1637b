/- EpochRises: a round's heads, by which advances there are; the groups. -/
import Derived.Test.YtjbhcmppjmmmiaaP
namespace Go.Proofs.Ytjbhcmppjmmmiaa
open Go.Sx Go
set_option maxRecDepth 100000
noncomputable def entP (s t : Nat) (c : SV) : Ent := ⟨s, 0, false, t, .lit 0, c⟩
noncomputable def ptrP (s : Nat) : SV := .ptr s 0 (.lit 0)
noncomputable def wrL : List (Nat × IE) → SV
 | [] => .nil
 | (j, e) :: r => .wr (.lit (.ofNat j)) e (wrL r)
noncomputable def newW : List (Nat × IE) := (List.range 12).map fun j => (16 + j, .lit (.ofNat (4 * (j + 1))))
noncomputable def arenaW (ws : List (Nat × IE)) : SV := .cons (.arr .i64 0 (.lit 634) (wrL (ws ++ newW))) (touchV 104)
noncomputable def four (e : IE) : IE := .mul e (.lit 4)
noncomputable def less (a b : IE) : IE := .add a (.mul b (.lit (-1)))
def hasN (m k : Nat) : Bool := Nat.beq (m / 2 ^ k % 2) 1
def these (m : Nat) : List Nat := (List.range 3).filter (hasN m)
noncomputable def advP (k : Nat) : SV := .cons (.int .i64 (.lit 2)) (.cons (vi (123 + k)) (.cons (vi (120 + k)) (.cons (.bool (.lit false)) .nil)))
noncomputable def ptrsP (m s : Nat) : SV := .cons (cond (hasN m 0) (ptrP s) .nilp) (.cons (cond (hasN m 1) (ptrP (s + 1)) .nilp) (.cons (cond (hasN m 2) (ptrP (s + 2)) .nilp) .nil))
noncomputable def aN : IE := .var 160
noncomputable def iN : IE := .var 165
noncomputable def advT : List Tem := [{ k := 0, es := [.lit 1], bs := [] }, { k := 0, es := [.lit 2], bs := [] }, { k := 0, es := [.lit 3], bs := [] }]
noncomputable def grpsN : List Grp := [⟨[123], [], advT⟩, ⟨[124], [], advT⟩, ⟨[125], [], advT⟩]
noncomputable def headNp (m : Nat) : HeadP := {
 tm := slotsN 87 [(0, slW 10), (2, .bool (.lit false)), (3, ptrP 101), (5, ptrP 113), (6, .int .i64 aN), (7, .int .i64 iN)]
 mem := { know := ⟨(iN, 0, 90) :: (aN, 0, 90) :: (less aN iN, -100000, 0) :: ((these m).map (fun k => ((.var (120 + k) : IE), 0, 90)) ++ faW 10), []⟩, heap := entP 101 95 (arenaW [(29, four aN), (30, .lit 0), (31, .lit 0)]) :: entP 113 59 (ptrsP m 114) :: ((these m).map (fun k => entP (114 + k) 74 (advP k)) ++ [enW 10]), seg := 166, next := 0, nv := 170 }
 mu := .sub (.lit 90) iN }
noncomputable def headN3 (m : Nat) : HeadT := ⟨headNp m, these m⟩
noncomputable def leaveN3 : LeaveP := { e := .normal, tm := slotsN 87 [(2, .bool (.lit false))], mem := { know := ⟨[], []⟩, heap := [], seg := 166, next := 0, nv := 170 } }
noncomputable def kN (k : Nat) : Fact := (.rem (.bit .and .i64 (.sel 14 iN) (.lit 1023)) (.lit 3), .ofNat k, .ofNat k)
noncomputable def caseN (m k : Nat) : CaseT := { fs := [kN k], pick := cond (hasN m k) (some k) none }
noncomputable def bodyN : Code := loopBody 0 (bodyOf Try.f8)
def nextN (m k : Nat) : List Nat := cond (hasN m k) [m, m - 2 ^ k] [m + 2 ^ k]
noncomputable def okN3 (m k t : Nat) : Bool := headOkT (tabJ []) cxF (fun _ => none) none 400 0 bodyN 100 grpsN ((nextN m k).map headN3) [leaveN3] (headN3 m) (caseN m k) t
end Go.Proofs.Ytjbhcmppjmmmiaa
