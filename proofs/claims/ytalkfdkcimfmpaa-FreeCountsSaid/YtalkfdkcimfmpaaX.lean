/- three pops: a round's heads, by the head's count; the groups. -/
import Derived.Test.YtalkfdkcimfmpaaP
namespace Go.Proofs.Ytalkfdkcimfmpaa
open Go.Sx Go
set_option maxRecDepth 100000
noncomputable def atNextT (c : Nat) : Tem := { k := 1, es := [.lit 1, .lit (.ofNat c), .lit (.ofNat (c + 1)), .var 0, .lit 0], bs := [] }
noncomputable def atSwapT (c : Nat) : Tem := { k := 0, es := [.lit 2, .lit (.ofNat c), .lit (.ofNat (c + 1)), .lit (.ofNat ((c + 2) % 13)), .lit 0], bs := [] }
noncomputable def popC : List Tem := { k := 3, es := [.lit 0, .var 0, .var 1, .var 2, .lit 0], bs := [] } :: ((List.range 12).map atNextT ++ (List.range 12).map atSwapT)
noncomputable def grpsX : List Grp := [⟨[120, 121, 122, 123, 124], [], popC⟩, ⟨[125, 126, 127, 128, 129], [], popC⟩, ⟨[130, 131, 132, 133, 134], [], popC⟩]
noncomputable def entP (s t : Nat) (c : SV) : Ent := ⟨s, 0, false, t, .lit 0, c⟩
noncomputable def ptrP (s : Nat) : SV := .ptr s 0 (.lit 0)
noncomputable def intsP : List Nat → SV → SV
 | [], r => r
 | a :: l, r => .cons (vi a) (intsP l r)
noncomputable def nextsW : Nat → SV
 | 0 => .nil
 | j + 1 => .wr (.lit (.ofNat (17 + j))) (.lit (.ofNat (4 * ((j + 2) % 13)))) (nextsW j)
noncomputable def arenaX (n : Nat) : SV := .cons (.arr .i64 0 (.lit 634) (.wr (.lit 16) (.lit (.ofNat (64 * n + 4 * ((n + 1) % 13)))) (nextsW 12))) (touchV 104)
noncomputable def iX : IE := .var 165
noncomputable def headXp (n : Nat) : HeadP := {
 tm := slotsN 115 [(0, slW 10), (2, .bool (.lit false)), (3, ptrP 101), (5, .sli 113 0 (.lit 0) (.lit 3) (.lit 3)), (6, .int .i64 (.lit (.ofNat n))), (7, .int .i64 iX)]
 mem := { know := ⟨(iX, 0, 60) :: faW 10, []⟩, heap := [entP 101 107 (arenaX n), entP 113 27 (.cons (ptrP 114) (.cons (ptrP 115) (.cons (ptrP 116) .nil))), entP 114 77 (intsP [120, 121, 122, 123, 124] .nil), entP 115 77 (intsP [125, 126, 127, 128, 129] .nil), entP 116 77 (intsP [130, 131, 132, 133, 134] .nil), enW 10], seg := 166, next := 0, nv := 170 }
 mu := .sub (.lit 60) iX }
noncomputable def headX (n : Nat) : HeadT := ⟨headXp n, [0, 1, 2]⟩
noncomputable def leaveX : LeaveP := { e := .normal, tm := slotsN 115 [(2, .bool (.lit false))], mem := { know := ⟨[], []⟩, heap := [], seg := 166, next := 0, nv := 170 } }
noncomputable def kX (k : Int) : Fact := (.rem (.bit .and .i64 (.sel 14 iX) (.lit 1023)) (.lit 3), k, k)
noncomputable def caseX (k : Nat) : CaseT := { fs := [kX k], pick := some k }
noncomputable def bodyX : Code := loopBody 0 (bodyOf Try.f7)
noncomputable def headsX (n : Nat) : List HeadT := cond (Nat.blt n 12) [headX n, headX (n + 1)] [headX n]
noncomputable def okX (n k t : Nat) : Bool := headOkT (tabJ []) cxF (fun _ => none) none 400 0 bodyX 100 grpsX (headsX n) [leaveX] (headX n) (caseX k) t
noncomputable def allX (n k : Nat) : Bool := (List.range 25).all (okX n k)
end Go.Proofs.Ytalkfdkcimfmpaa
