/- Epochs: enters, an advance of the program's and of the document's, side by side: a round's heads, the groups. -/
import Derived.Test.YtjbhcmppjmmmiaaP
namespace Go.Proofs.Ytjbhcmppjmmmiaa
open Go.Sx Go
set_option maxRecDepth 100000
noncomputable def entE (s t : Nat) (c : SV) : Ent := ⟨s, 0, false, t, .lit 0, c⟩
noncomputable def pE (s : Nat) : SV := .ptr s 0 (.lit 0)
noncomputable def zE (n : Int) : IE := .lit n
noncomputable def epF (e : IE) : Fact := (e, 0, 1073741822)
noncomputable def advE : List Tem :=
 { k := 1, es := [.var 0, zE 0, zE 0, zE 0, zE 0], bs := [], facts := [(.var 0, 1, 4)] } ::
 [1, 2, 3, 4, 5].map fun j => { k := 2, es := [.var 1, zE (.ofNat j), .var 0, zE (.ofNat j), .var 0], bs := [], facts := [epF (.var 0), (.var 1, .ofNat (Nat.max 1 (j - 1)), 4)] }
noncomputable def entT : List Tem := [
 { k := 1, es := [zE 1, .var 0, zE 1, .var 0], bs := [.lit false], facts := [epF (.var 0)] },
 { k := 1, es := [zE 2, .var 0, zE 2, .var 0], bs := [.lit false], facts := [epF (.var 0)] },
 { k := 2, es := [zE 3, .var 0, .var 1, .var 0], bs := [.lit true] }]
noncomputable def entG (t : Nat) : Grp := ⟨[120 + 4 * t, 121 + 4 * t, 122 + 4 * t, 123 + 4 * t], [136 + t], entT⟩
noncomputable def grpsE : List Grp := [entG 0, entG 1, entG 2, entG 3, ⟨[150, 141, 142, 144, 145], [], advE⟩]
def hasE (m k : Nat) : Bool := Nat.beq (m / 2 ^ k % 2) 1
def theseE (m : Nat) : List Nat := (List.range 4).filter (hasE m)
noncomputable def ptrsE (m s : Nat) : SV := .cons (cond (hasE m 0) (pE s) .nilp) (.cons (cond (hasE m 1) (pE (s + 1)) .nilp) (.cons (cond (hasE m 2) (pE (s + 2)) .nilp) (.cons (cond (hasE m 3) (pE (s + 3)) .nilp) .nil)))
noncomputable def progE (t : Nat) : SV := .cons (.int .i64 (.lit (.ofNat t))) (.cons (vi (120 + 4 * t)) (.cons (vi (121 + 4 * t)) .nil))
noncomputable def docE (t : Nat) : SV := .cons (vi (122 + 4 * t)) (.cons (.int .i64 (.lit (.ofNat t))) (.cons (vi (123 + 4 * t)) (.cons (.bool (.var (136 + t))) .nil)))
noncomputable def iE : IE := .var 165
noncomputable def advEnts : List Ent := [
 entE 115 74 (.cons (vi 150) (.cons (vi 141) (.cons (vi 142) (.cons (.bool (.lit false)) .nil)))),
 entE 116 46 (.cons (vi 144) (.cons (vi 150) (.cons (vi 145) (.cons (.bool (.lit false)) (.cons (.bool (.lit false)) .nil)))))]
noncomputable def headEp (d : Bool) (m : Nat) : HeadP := {
 tm := slotsN 218 ([(3, slW 40), (8, .bool (.lit false)), (9, pE 101), (10, pE 102), (11, cond d (pE 115) .nilp), (13, cond d (pE 116) .nilp), (15, pE 113), (16, pE 114), (17, .int .i64 iE)] ++ cond d [(2, vi 150)] [])
 mem := { know := ⟨(iE, 0, 60) :: faW 40, []⟩, heap := arenas 101 103 104 ++ (entE 113 36 (ptrsE m 170) :: entE 114 38 (ptrsE m 174) :: ((theseE m).map (fun t => entE (170 + t) 84 (progE t)) ++ ((theseE m).map (fun t => entE (174 + t) 55 (docE t)) ++ (cond d advEnts [] ++ [enW 40])))), seg := 178, next := 0, nv := 180 }
 mu := .sub (.lit 60) iE }
noncomputable def headE (d : Bool) (m : Nat) : HeadT := ⟨headEp d m, theseE m ++ cond d [4] []⟩
noncomputable def leaveE : LeaveP := { e := .normal, tm := slotsN 218 [(8, .bool (.lit false))], mem := { know := ⟨[], []⟩, heap := [], seg := 178, next := 0, nv := 180 } }
noncomputable def kind : IE := .bit .and .i64 (.shr (.sel 44 iE) 2) (.lit 3)
noncomputable def whoE : IE := .bit .and .i64 (.sel 44 iE) (.lit 3)
noncomputable def caseE (d : Bool) (m : Nat) (k t : Nat) : CaseT := match k with
 | 0 => { fs := [(kind, 0, 0)], pick := cond d (some 4) none }
 | 1 => { fs := [(kind, 1, 1), (whoE, .ofNat t, .ofNat t)], pick := none }
 | _ => { fs := [(kind, 2, 3), (whoE, .ofNat t, .ofNat t)], pick := cond (hasE m t) (some t) none }
noncomputable def bodyE : Code := loopBody 0 (bodyOf Try.f3)
def nextE (m k t : Nat) : Nat := match k with
 | 0 => m
 | 1 => cond (hasE m t) (m - 2 ^ t) m
 | _ => cond (hasE m t) m (m + 2 ^ t)
noncomputable def okE (d : Bool) (m k t j : Nat) : Bool := headOkT (tabJ []) cxF (fun _ => none) none 400 0 bodyE 100 grpsE [headE d (nextE m k t)] [leaveE] (headE d m) (caseE d m k t) j
end Go.Proofs.Ytjbhcmppjmmmiaa
