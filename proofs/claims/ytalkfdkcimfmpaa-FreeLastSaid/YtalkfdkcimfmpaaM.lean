/- FreeLast: a round's heads, by how many are in the row. -/
import Derived.Test.YtalkfdkcimfmpaaL
import Derived.Test.YtalkfdkcimfmpaaP
namespace Go.Proofs.Ytalkfdkcimfmpaa
open Go.Sx Go
set_option maxRecDepth 100000
noncomputable def entL (s t : Nat) (c : SV) : Ent := ⟨s, 0, false, t, .lit 0, c⟩
noncomputable def rsV (n : Nat) : List IE := (List.range n).map fun j => .var (120 + j)
noncomputable def osV (n : Nat) : List IE := (List.range (12 - n)).map fun j => .var (140 + j)
noncomputable def wsL : List IE := idx13.map fun j => .sel 103 (.lit (.ofNat j))
noncomputable def ghostE (n : Nat) : IE := .app 760 (argsE (.lit (.ofNat n) :: (wsL ++ (rsV n ++ osV n))))
noncomputable def inF (l : List IE) : List Fact := l.map fun e => (e, 0, 11)
noncomputable def iL : IE := .var 165
noncomputable def slL (s c : Nat) (l : List IE) : SV := .sli s 0 (.lit 0) (.lit (.ofNat l.length)) (.var c)
noncomputable def enL (s c : Nat) (l : List IE) : Ent := entL s 3 (chainI l (tailI c (.ofNat l.length)))
inductive Sh | grown | made | none
noncomputable def slS (s c : Nat) (l : List IE) : Sh → SV
 | .grown => slL s c l
 | .made => .sli s 0 (.lit 0) (.lit (.ofNat l.length)) (.lit (.ofNat l.length))
 | .none => .nils
noncomputable def enS (s c : Nat) (l : List IE) : Sh → List Ent
 | .grown => [enL s c l]
 | .made => [entL s 3 (chainI l .nil)]
 | .none => []
noncomputable def capS (c : Nat) (l : List IE) : Sh → List Fact
 | .grown => [(.var c, .ofNat l.length, hi64), (.add (.var c) (.lit (-(.ofNat l.length))), 0, hi64)]
 | _ => []
noncomputable def headL (n : Nat) (a b : Sh) : HeadP := {
 tm := slotsN 182 [(0, slW 10), (2, .bool (.lit false)), (3, .ptr 101 0 (.lit 0)), (5, slS 113 114 (rsV n) a), (6, slS 115 116 (osV n) b), (7, .int .i64 iL)]
 mem := { know := ⟨(iL, 0, 60) :: (ghostE n, 1, 1) :: (inF (rsV n) ++ (inF (osV n) ++ (capS 114 (rsV n) a ++ (capS 116 (osV n) b ++ faW 10)))), []⟩, heap := entL 101 107 (arenaV 103 104) :: (enS 113 114 (rsV n) a ++ (enS 115 116 (osV n) b ++ [enW 10])), seg := 166, next := 0, nv := 170 }
 mu := .sub (.lit 60) iL }
noncomputable def leaveL : LeaveP := { e := .normal, tm := slotsN 182 [(2, .bool (.lit false))], mem := { know := ⟨[], []⟩, heap := [], seg := 166, next := 0, nv := 170 } }
noncomputable def bodyL : Code := loopBody 0 (bodyOf Try.f6)
noncomputable def headM (n : Nat) : HeadP := match n with
 | 14 => headL 1 .made .grown
 | 13 => headL 12 .made .none
 | 12 => headL 12 .grown .made
 | 0 => headL 0 .made .grown
 | n => headL n .grown .grown
noncomputable def okL (heads : List HeadP) (h : HeadP) (c : List Fact) : Bool := headOk (tabJ []) cxL (fun _ => none) none 400 0 bodyL 100 heads [leaveL] (h.more c)
noncomputable def bitF (b : Int) : Fact := (.bit .and .i64 (.sel 14 iL) (.lit 1), b, b)
noncomputable def kL (m k : Nat) : Fact := (.rem (.bit .and .i64 (.shr (.sel 14 iL) 1) (.lit 1023)) (.lit (.ofNat m)), .ofNat k, .ofNat k)
end Go.Proofs.Ytalkfdkcimfmpaa
