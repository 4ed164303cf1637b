/- EpochNear: a round's heads, by which enters and advances there are; the groups. -/
import Derived.Test.YtjbhcmppjmmmiaaG
namespace Go.Proofs.Ytjbhcmppjmmmiaa
open Go.Sx Go
set_option maxRecDepth 100000
noncomputable def entH (s t : Nat) (c : SV) : Ent := ⟨s, 0, false, t, .lit 0, c⟩
noncomputable def pH (s : Nat) : SV := .ptr s 0 (.lit 0)
noncomputable def wrH : List (Nat × IE) → SV
 | [] => .nil
 | (j, e) :: r => .wr (.lit (.ofNat j)) e (wrH r)
noncomputable def newH : List (Nat × IE) := (List.range 12).map fun j => (16 + j, .lit (.ofNat (4 * (j + 1))))
def hasH (m k : Nat) : Bool := Nat.beq (m / 2 ^ k % 2) 1
def theseH (m : Nat) : List Nat := (List.range 3).filter (hasH m)
noncomputable def xH : IE := .var 150
noncomputable def sH (j : Nat) : IE := .var (151 + j)
noncomputable def nH (a j : Nat) : IE := cond (hasH a j) (.lit (-1)) (.var (154 + j))
noncomputable def iH : IE := .var 165
noncomputable def orZ (a j n : Nat) : IE := cond (hasH a j) (.var (n + j)) (.lit 0)
noncomputable def three (f : Nat → IE) : List IE := [f 0, f 1, f 2]
noncomputable def ghostH (a b : Nat) : Fact := (.app 760 (argsG (xH :: (three sH ++ (three (nH a) ++ (three (fun j => orZ a j 120) ++ (three (fun j => orZ a j 123) ++ (three (fun j => orZ b j 126) ++ three (fun j => orZ b j 129)))))))), 1, 1)
noncomputable def ptrsH (m s : Nat) : SV := .cons (cond (hasH m 0) (pH s) .nilp) (.cons (cond (hasH m 1) (pH (s + 1)) .nilp) (.cons (cond (hasH m 2) (pH (s + 2)) .nilp) .nil))
noncomputable def entersH (j : Nat) : Ent := entH (170 + j) 84 (.cons (.int .i64 (.lit (.ofNat j))) (.cons (vi (120 + j)) (.cons (vi (123 + j)) .nil)))
noncomputable def advsH (j : Nat) : Ent := entH (173 + j) 74 (.cons (.int .i64 (.lit 3)) (.cons (vi (126 + j)) (.cons (vi (129 + j)) (.cons (.bool (.lit false)) .nil))))
noncomputable def litT (n : Nat) : List Tem := (List.range n).map fun j => { k := 0, es := [.lit (.ofNat (j + 1))], bs := [] }
noncomputable def grpsH : List Grp := [⟨[120], [], litT 2⟩, ⟨[121], [], litT 2⟩, ⟨[122], [], litT 2⟩, ⟨[126], [], litT 4⟩, ⟨[127], [], litT 4⟩, ⟨[128], [], litT 4⟩]
noncomputable def numF (l : List Nat) (n : Nat) : List Fact := l.map fun j => ((.var (n + j) : IE), 0, 90)
noncomputable def factsH (a b : Nat) : List Fact := (iH, 0, 90) :: (xH, 0, 90) :: (.add xH (.mul iH (.lit (-1))), -100000, 0) :: (sH 0, 0, 91) :: (sH 1, 0, 91) :: (sH 2, 0, 91) ::
 ((theseH (7 - a)).map (fun j => ((.var (154 + j) : IE), -1, 90)) ++ (numF (theseH a) 123 ++ (numF (theseH b) 129 ++ (ghostH a b :: faW 10))))
noncomputable def headHp (a b : Nat) : HeadP := {
 tm := slotsN 133 [(0, slW 10), (2, .bool (.lit false)), (3, pH 101), (5, pH 113), (6, pH 114), (7, .sli 115 0 (.lit 0) (.lit 3) (.lit 3)), (8, .int .i64 iH)]
 mem := { know := ⟨factsH a b, []⟩, heap := entH 101 95 (.cons (.arr .i64 0 (.lit 634) (wrH ((29, four xH) :: (30, four (sH 0)) :: (31, four (sH 1)) :: (32, four (sH 2)) :: newH))) (touchV 104)) :: entH 113 58 (ptrsH a 170) :: entH 114 59 (ptrsH b 173) ::
       entH 115 3 (.cons (.int .i64 (nH a 0)) (.cons (.int .i64 (nH a 1)) (.cons (.int .i64 (nH a 2)) .nil))) :: ((theseH a).map entersH ++ ((theseH b).map advsH ++ [enW 10])), seg := 178, next := 0, nv := 180 }
 mu := .sub (.lit 90) iH }
noncomputable def headH (a b : Nat) : HeadT := ⟨headHp a b, theseH a ++ (theseH b).map (· + 3)⟩
noncomputable def leaveH : LeaveP := { e := .normal, tm := slotsN 133 [(2, .bool (.lit false))], mem := { know := ⟨[], []⟩, heap := [], seg := 178, next := 0, nv := 180 } }
noncomputable def opH : IE := .bit .and .i64 (.shr (.sel 14 iH) 10) (.lit 1)
noncomputable def whoH : IE := .rem (.bit .and .i64 (.sel 14 iH) (.lit 1023)) (.lit 3)
noncomputable def caseH (a b k t : Nat) : CaseT := { fs := [(opH, .ofNat k, .ofNat k), (whoH, .ofNat t, .ofNat t)], pick := match k with
 | 0 => cond (hasH b t) (some (3 + t)) none
 | _ => cond (hasH a t) (some t) none }
noncomputable def bodyH : Code := loopBody 0 (bodyOf Try.f4)
def nextH (a b k t : Nat) : List (Nat × Nat) := match k with
 | 0 => cond (hasH b t) [(a, b), (a, b - 2 ^ t)] [(a, b + 2 ^ t)]
 | _ => cond (hasH a t) [(a, b), (a - 2 ^ t, b)] [(a, b), (a + 2 ^ t, b)]
noncomputable def okH (a b k t j : Nat) : Bool := headOkT (tabJ []) cxG (fun _ => none) none 400 0 bodyH 100 grpsH ((nextH a b k t).map fun p => headH p.1 p.2) [leaveH] (headH a b) (caseH a b k t) j
end Go.Proofs.Ytjbhcmppjmmmiaa
