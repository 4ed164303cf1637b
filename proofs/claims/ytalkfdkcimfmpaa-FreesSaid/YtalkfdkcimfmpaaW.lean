/- two pops and two pushes of the program's and of the document's, side by side: a round's head, the groups. -/
import Derived.Test.YtalkfdkcimfmpaaP
namespace Go.Proofs.Ytalkfdkcimfmpaa
open Go.Sx Go
set_option maxRecDepth 100000
noncomputable def z (n : Int) : IE := .lit n
noncomputable def h720 : IE := f1 720 (.var 0)
noncomputable def h721 : IE := f1 721 (.var 0)
noncomputable def hFacts (lo : Int) : List Fact := [(f1 717 (.var 0), 1, 1), (h720, lo, 12), (h721, 0, 1073741823)]
noncomputable def popT : List Tem := [
 { k := 5, es := [z 0, .var 0, .var 1, .var 2, z 0, z 0, .var 3, .var 4, z (-1)], bs := [.lit false] },
 { k := 3, es := [z 1, h721, h720, .var 1, z 0, z 1, .var 0, .var 2, z (-1)], bs := [.lit false], facts := hFacts 1 },
 { k := 3, es := [z 2, h721, h720, .var 1, z 0, z 2, .var 0, .var 1, z (-1)], bs := [.lit false], facts := (.var 1, 0, 12) :: hFacts 1 },
 { k := 7, es := [z 3, .var 0, .var 1, .var 2, .var 3, .var 4, .var 5, .var 6, .add (.var 3) (z (-1))], bs := [.lit true], facts := [(.var 3, 0, 12)] }]
noncomputable def pushT : List Tem := [
 { k := 3, es := [z 0, .var 0, .var 1, z 0, .var 2], bs := [.lit false] },
 { k := 1, es := [z 1, h721, h720, z 1, .var 0], bs := [.lit false], facts := hFacts 0 },
 { k := 1, es := [z 2, h721, h720, z 2, .var 0], bs := [.lit false], facts := hFacts 0 },
 { k := 4, es := [z 3, .var 0, .var 1, .var 2, .var 3], bs := [.lit true] }]
noncomputable def grpsW : List Grp := [
 ⟨[120, 121, 122, 123, 124, 130, 131, 132, 133], [134], popT⟩,
 ⟨[125, 126, 127, 128, 129, 135, 136, 137, 138], [139], popT⟩,
 ⟨[150, 151, 152, 158, 159], [160], pushT⟩,
 ⟨[154, 155, 156, 161, 162], [163], pushT⟩]
noncomputable def ptrE (s t : Nat) (c : SV) : Ent := ⟨s, 0, false, t, .lit 0, c⟩
noncomputable def pV (s : Nat) : SV := .ptr s 0 (.lit 0)
noncomputable def intsV : List Nat → SV → SV
 | [], r => r
 | a :: l, r => .cons (vi a) (intsV l r)
noncomputable def popEnts : List Ent := [
 ptrE 113 27 (.cons (pV 114) (.cons (pV 115) .nil)), ptrE 116 30 (.cons (pV 117) (.cons (pV 118) .nil)),
 ptrE 114 77 (intsV [120, 121, 122, 123, 124] .nil), ptrE 115 77 (intsV [125, 126, 127, 128, 129] .nil),
 ptrE 117 49 (intsV [130, 131, 132, 133] (.cons (.bool (.var 134)) .nil)), ptrE 118 49 (intsV [135, 136, 137, 138] (.cons (.bool (.var 139)) .nil))]
noncomputable def restV (cap : Nat) (n : Int) : SV := .cons (.rep (.cons .nilp .nil) (.add (.var cap) (.lit (-n)))) .nil
noncomputable def push0 : List Ent := [ptrE 142 80 (intsV [150, 151, 152, 153] .nil), ptrE 146 82 (intsV [158, 153, 159] (.cons (.bool (.var 160)) .nil))]
noncomputable def push1 : List Ent := [ptrE 143 80 (intsV [154, 155, 156, 157] .nil), ptrE 147 82 (intsV [161, 157, 162] (.cons (.bool (.var 163)) .nil))]
noncomputable def pushEnts : Nat → List Ent
 | 0 => []
 | 1 => ptrE 140 35 (.cons (pV 142) (restV 141 1)) :: ptrE 144 39 (.cons (pV 146) (restV 145 1)) :: push0
 | _ => ptrE 140 35 (.cons (pV 142) (.cons (pV 143) (restV 141 2))) :: ptrE 144 39 (.cons (pV 146) (.cons (pV 147) (restV 145 2))) :: (push0 ++ push1)
noncomputable def slP (s cap : Nat) : Nat → SV
 | 0 => .nils
 | n + 1 => .sli s 0 (.lit 0) (.lit (.ofNat (n + 1))) (.var cap)
noncomputable def pushF : Nat → List Fact
 | 0 => []
 | 1 => [(.var 153, 0, 11), (.var 141, 1, hi64), (.var 145, 1, hi64)]
 | _ => [(.var 153, 0, 11), (.var 157, 0, 11), (.var 141, 2, hi64), (.var 145, 2, hi64)]
noncomputable def iW : IE := .var 165
noncomputable def headWp (u : Nat) : HeadP := {
 tm := slotsN 221 [(3, slW 40), (8, .bool (.lit false)), (9, pV 101), (10, pV 102), (11, .sli 113 0 (.lit 0) (.lit 2) (.lit 2)), (12, .sli 116 0 (.lit 0) (.lit 2) (.lit 2)), (13, slP 140 141 u), (14, slP 144 145 u), (20, .int .i64 iW)]
 mem := { know := ⟨(iW, 0, 60) :: (pushF u ++ faW 40), []⟩, heap := arenas 101 103 104 ++ (popEnts ++ (pushEnts u ++ [enW 40])), seg := 166, next := 0, nv := 170 }
 mu := .sub (.lit 60) iW }
noncomputable def gsW : Nat → List Nat
 | 0 => [0, 1]
 | 1 => [0, 1, 2]
 | _ => [0, 1, 2, 3]
noncomputable def headW (u : Nat) : HeadT := ⟨headWp u, gsW u⟩
noncomputable def leaveW : LeaveP := { e := .normal, tm := slotsN 221 [(8, .bool (.lit false))], mem := { know := ⟨[], []⟩, heap := [], seg := 166, next := 0, nv := 170 } }
noncomputable def kF (k : Int) : Fact := (.bit .and .i64 (.sel 44 iW) (.lit 3), k, k)
noncomputable def caseW (k : Int) (p : Option Nat) : CaseT := { fs := [kF k], pick := p }
noncomputable def bodyW : Code := loopBody 2 (bodyOf Try.f3)
noncomputable def okW (u : Nat) (c : CaseT) (t : Nat) : Bool := headOkT (tabJ []) cxF (fun _ => none) none 400 2 bodyW 100 grpsW [headW u] [leaveW] (headW u) c t
end Go.Proofs.Ytalkfdkcimfmpaa
