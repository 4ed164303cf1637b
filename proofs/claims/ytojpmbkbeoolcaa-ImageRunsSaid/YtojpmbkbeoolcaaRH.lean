/- ImageRuns: the heads of its loop, and its cases. -/
import Derived.Test.YtojpmbkbeoolcaaTT
namespace Go.Proofs.Ytojpmbkbeoolcaa
open Go.Sx Go
set_option maxRecDepth 100000
noncomputable def slotsN (n : Nat) (xs : List (Nat × SV)) : List SV := (List.range n).map fun i => match Sx.look i xs with | some v => v | none => .nil
noncomputable def bodyOf (f : Func) : Code := f.body.getD .skip
noncomputable def kindOut (kn : Know) (k : IE) : Bool := decide ((rng kn.facts k).2 < 0) || decide (10 < (rng kn.facts k).1)
noncomputable def mayY : List SV → X SV := fun args m => match opIn args with
 | some (k, _, _, _) => cond (kindOut m.know k) (fun0 37 args m) (may27X args m)
 | none => none
theorem mayY_ok : SpecOk G0 Try.prog 37 mayY := by
 intro F w0 E args m outs w hgf ho hm
 unfold mayY at ho
 split at ho
 ·rename_i k _ _ _ _
  cases hc : kindOut m.know k with
  | true =>
   rw [hc] at ho
   exact fun0_ok 37 F w0 E args m outs w hgf ho hm
  | false =>
   rw [hc] at ho
   exact may27X_ok F w0 E args m outs w hgf ho hm
 ·cases ho
noncomputable def e17 : List SV → X SV := canonX (capX 0 400 (gcR (funL ((37, mayY) :: spI) 17)))
theorem e17_ok : SpecOk G0 Try.prog 17 e17 := canonX_ok (capX_ok (gcR_ok (funL_ok (cons_ok (a := (37, mayY)) mayY_ok okSpI) 17)))
noncomputable def e18 : List SV → X SV := canonX (capX 0 400 (gcR (funL ((37, mayY) :: spP) 18)))
theorem e18_ok : SpecOk G0 Try.prog 18 e18 := canonX_ok (capX_ok (gcR_ok (funL_ok (cons_ok (a := (37, mayY)) mayY_ok okSpP) 18)))
noncomputable def spR : List (Nat × (List SV → X SV)) := (17, e17) :: (18, e18) :: (15, makeX aw) :: spD
theorem okSpR : ∀ x ∈ spR, SpecOk G0 Try.prog x.1 x.2 := cons_ok (a := (17, e17)) e17_ok (cons_ok (a := (18, e18)) e18_ok (cons_ok (a := (15, makeX aw)) aw_ok okSpD))
noncomputable def cxR : CX := callF (tabJ []) (spOf spR) (bxOf []) 400 12
noncomputable def iE : IE := .var 72
noncomputable def argsB : IE := mkArgs ((List.range 10).map fun j => .var (124 + j))
noncomputable def cellW (q : Nat → IE) : Nat → Nat → SV → SV | 0, _, r => r | n + 1, c, r => .wr (.lit (.ofNat c)) (q c) (cellW q n (c + 1) r)
noncomputable def cellWr (q : Nat → IE) : Nat → SV → SV | 0, r => r | n + 1, r => .wr (.lit (.ofNat n)) (q n) (cellWr q n r)
noncomputable def cellOf (c : Nat) : IE := cond (Nat.ble 4 c) (.app (430 + (c - 4)) argsB) (mkAdd (.var (120 + c)) (.lit 1))
noncomputable def roomE : SV := .arr .i64 0 (.add (.var 90) (.lit (-16))) .nil
noncomputable def stR : Ent := ⟨81, 0, false, 26, .lit 0, .cons (.arr .i64 0 (.lit 4) (cellW (fun c => .var (120 + c)) 4 0 .nil)) (.cons (.bool (.eq (.var 124) (.lit 1))) (.cons (.bool (.eq (.var 125) (.lit 1))) (.cons (.bool (.eq (.var 126) (.lit 1))) (.cons (.bool (.eq (.var 127) (.lit 1))) (.cons (.bool (.eq (.var 128) (.lit 1))) .nil)))))⟩
noncomputable def stN (ws : SV) : Ent := ⟨81, 0, false, 26, .lit 0, .cons (.arr .i64 0 (.lit 4) ws) (.cons (.bool (.lit false)) (.cons (.bool (.lit false)) (.cons (.bool (.lit false)) (.cons (.bool (.lit false)) (.cons (.bool (.lit false)) .nil)))))⟩
noncomputable def factsB : List Fact := (iE, 0, 60) :: slF 47 48 49 4398046510976
noncomputable def factsZ : List Fact := (.add (.var 90) (.lit (-16)), 0, hi64) :: (.var 90, 16, hi64) :: factsB
noncomputable def factsR : List Fact := ((List.range 12).map fun c => ((.app (430 + c) argsB, 0, 5) : Fact)) ++ ((List.range 4).map fun c => ((.var (120 + c), -1, 1048575) : Fact)) ++ ((List.range 10).map fun c => ((.var (124 + c), 0, 1) : Fact)) ++ factsZ
noncomputable def headG (st xe : Ent) (cap : IE) (fs : List Fact) : HeadP := {
 tm := slotsN 110 [(0, osW), (2, .bool (.lit false)), (3, .sli 80 0 (.lit 0) (.lit 16) cap), (4, .ptr 81 0 (.lit 0)), (5, .int .i64 iE)]
 mem := { know := ⟨fs, []⟩, heap := [st, xe, osF], seg := 110, next := 0, nv := 400 }
 mu := .sub (.lit 60) iE }
noncomputable def entX (c : SV) : Ent := ⟨80, 0, false, 3, .lit 0, c⟩
noncomputable def headR : HeadP := headG stR (entX (.cons (.arr .i64 0 (.lit 16) (cellW cellOf 16 0 .nil)) (.cons roomE .nil))) (.var 90) factsR
noncomputable def headQ : HeadP := headG stR (entX (.cons (.arr .i64 0 (.lit 16) (cellWr cellOf 16 .nil)) (.cons roomE .nil))) (.var 90) factsR
noncomputable def headI : HeadP := headG (stN (cellWr (fun _ => .lit (-1)) 4 .nil)) (entX (.cons (.arr .i64 0 (.lit 16) .nil) .nil)) (.lit 16) factsB
noncomputable def headZ : HeadP := headG (stN (cellWr (fun _ => .lit (-1)) 4 .nil)) (entX (.cons (.arr .i64 0 (.lit 16) (cellWr (fun _ => .lit 0) 16 .nil)) (.cons roomE .nil))) (.var 90) factsZ
noncomputable def heads : List HeadP := [headI, headZ, headR, headQ]
noncomputable def bit1 : IE := .bit .and .i64 iE (.lit 1)
noncomputable def evn (b : Int) : List Fact := [(bit1, b, b), (.sub (.var 48) iE, 2, 4398046510976), (mkSub (mkAdd iE bit1) (.var 49), -hi64, b - 2), (mkSub (.var 49) (mkAdd iE bit1), 2 - b, hi64), (.sub (.var 49) iE, 2, hi64), (.sub iE (.var 48), -4398046510976, -2), (.sub iE (.var 49), -hi64, -2), (mkSub (.mul (.var 48) (.lit 4)) (.mul iE (.lit 4)), 8, hi64)]
noncomputable def k1 (a b : Int) : Fact := (.sel 10 (.mul iE (.lit 4)), a, b)
noncomputable def k2 (a b : Int) : Fact := (.sel 10 (.add (.mul iE (.lit 4)) (.lit 4)), a, b)
noncomputable def finF : List Fact := [(.sub (.var 48) iE, -100, 1), (.sub iE (.var 48), -1, 100)]
noncomputable def leaveR : LeaveP := { e := .normal, tm := slotsN 110 [], mem := { know := ⟨[], []⟩, heap := [], seg := 110, next := 0, nv := 400 } }
noncomputable def runR (h : HeadP) (fs : List Fact) := runC (tabJ []) cxR (fun _ => none) none 400 (loopBody 0 (bodyOf Try.f5)) (Fr.ofL h.tm) { h.mem with know := ⟨fs ++ h.mem.know.facts, []⟩ }
noncomputable def okR (h : HeadP) (fs : List Fact) : Bool := headOk (tabJ []) cxR (fun _ => none) none 400 0 (loopBody 0 (bodyOf Try.f5)) 62 heads [leaveR] (h.more fs)
end Go.Proofs.Ytojpmbkbeoolcaa
