/- FreeRows: a round's heads, by what each thread does. -/
import Derived.Test.YtalkfdkcimfmpaaO
import Derived.Test.YtalkfdkcimfmpaaP
namespace Go.Proofs.Ytalkfdkcimfmpaa
open Go.Sx Go
set_option maxRecDepth 100000
inductive Do | none | has | pops | puts
noncomputable def entQ (s t : Nat) (c : SV) : Ent := ⟨s, 0, false, t, .lit 0, c⟩
noncomputable def ptrQ (s : Nat) : SV := .ptr s 0 (.lit 0)
noncomputable def vQ (t j : Nat) : IE := .var (200 + 10 * t + j)
noncomputable def hQ (t : Nat) : Do → IE
 | .none | .pops => .lit (-1)
 | .has | .puts => .var (170 + t)
noncomputable def popP (t : Nat) : Do → SV
 | .pops => ptrQ (150 + t)
 | _ => .nilp
noncomputable def pushP (t : Nat) : Do → SV
 | .puts => ptrQ (160 + t)
 | _ => .nilp
noncomputable def objE (t : Nat) : Do → List Ent
 | .pops => [entQ (150 + t) 77 (.cons (.int .i64 (vQ t 0)) (.cons (.int .i64 (vQ t 1)) (.cons (.int .i64 (vQ t 2)) (.cons (.int .i64 (vQ t 3)) (.cons (.int .i64 (.lit 0)) .nil)))))]
 | .puts => [entQ (160 + t) 80 (.cons (.int .i64 (vQ t 0)) (.cons (.int .i64 (vQ t 1)) (.cons (.int .i64 (vQ t 2)) (.cons (.int .i64 (.var (170 + t))) .nil))))]
 | _ => []
noncomputable def thQ (t : Nat) : Do → List IE
 | .none => [.lit (-1), .lit 0, .lit 0, .lit 0, .lit 0, .lit 0]
 | .has => [.var (170 + t), .lit 0, .lit 0, .lit 0, .lit 0, .lit 0]
 | .pops => [.lit (-1), .lit 1, vQ t 0, vQ t 1, vQ t 2, vQ t 3]
 | .puts => [.var (170 + t), .lit 2, vQ t 0, vQ t 1, vQ t 2, .lit 0]
noncomputable def faQ (t : Nat) : Do → List Fact
 | .none => []
 | .has => [(.var (170 + t), 0, 11)]
 | .pops => [(vQ t 0, 0, 2)]
 | .puts => [(.var (170 + t), 0, 11), (vQ t 0, 0, 2)]
noncomputable def iQ : IE := .var 165
noncomputable def wsQ : List IE := idx13.map fun j => .sel 103 (.lit (.ofNat j))
noncomputable def listQ (a b c : Do) : List IE := iQ :: (wsQ ++ (thQ 0 a ++ (thQ 1 b ++ thQ 2 c)))
noncomputable def headQ (a b c : Do) : HeadP := {
 tm := slotsN 132 [(0, slW 10), (2, .bool (.lit false)), (3, ptrQ 101), (5, ptrQ 113), (6, ptrQ 114), (7, .sli 115 0 (.lit 0) (.lit 3) (.lit 3)), (8, .int .i64 iQ)]
 mem := { know := ⟨(iQ, 0, 90) :: (.app 750 (argsE (listQ a b c)), 1, 1) :: (faQ 0 a ++ (faQ 1 b ++ (faQ 2 c ++ faW 10))), []⟩, heap := entQ 101 107 (arenaV 103 104) :: entQ 113 59 (.cons (popP 0 a) (.cons (popP 1 b) (.cons (popP 2 c) .nil))) :: entQ 114 60 (.cons (pushP 0 a) (.cons (pushP 1 b) (.cons (pushP 2 c) .nil))) :: entQ 115 3 (.cons (.int .i64 (hQ 0 a)) (.cons (.int .i64 (hQ 1 b)) (.cons (.int .i64 (hQ 2 c)) .nil))) :: (objE 0 a ++ (objE 1 b ++ (objE 2 c ++ [enW 10]))), seg := 166, next := 0, nv := 300 }
 mu := .sub (.lit 90) iQ }
noncomputable def leaveQ : LeaveP := { e := .normal, tm := slotsN 132 [(2, .bool (.lit false))], mem := { know := ⟨[], []⟩, heap := [], seg := 166, next := 0, nv := 300 } }
noncomputable def bodyQ : Code := loopBody 0 (bodyOf Try.f4)
noncomputable def kQ (k : Int) : Fact := (.rem (.bit .and .i64 (.sel 14 iQ) (.lit 1023)) (.lit 3), k, k)
noncomputable def caseQ (t : Nat) : Do → List (List Fact)
 | .pops => [[(vQ t 0, 0, 0)], [(vQ t 0, 1, 1), (vQ t 1, 0, 1000), (vQ t 2, 1, 12)], [(vQ t 0, 2, 2), (vQ t 1, 0, 1000), (vQ t 2, 1, 12), (vQ t 3, 0, 12)]]
 | .puts => [[(vQ t 0, 0, 0)], [(vQ t 0, 1, 1), (vQ t 1, 0, 1000), (vQ t 2, 0, 12)], [(vQ t 0, 2, 2), (vQ t 1, 0, 1000), (vQ t 2, 0, 12)]]
 | _ => [[]]
noncomputable def putD (k : Nat) (d a b c : Do) : Do × Do × Do := match k with
 | 0 => (d, b, c)
 | 1 => (a, d, c)
 | _ => (a, b, d)
noncomputable def doAt (k : Nat) (a b c : Do) : Do := match k with
 | 0 => a
 | 1 => b
 | _ => c
noncomputable def headD (x : Do × Do × Do) : HeadP := headQ x.1 x.2.1 x.2.2
noncomputable def goals (k : Nat) (a b c : Do) : List HeadP := [Do.pops, .none, .has, .puts].map fun d => headD (putD k d a b c)
noncomputable def spN : List (Nat × (List SV → X SV)) := [(63, factX factsNx getX), (47, factX factsHd hdX), (60, wdX), (19, rowR), (25, onceX), (24, makeX aw)]
theorem okSpN : ∀ x ∈ spN, SpecOk G0 Try.prog x.1 x.2 := cons_ok (a := (63, factX factsNx getX)) (factX_ok getX_ok factsNx_ok) (cons_ok (a := (47, factX factsHd hdX)) (factX_ok hdX_ok factsHd_ok) (cons_ok (a := (60, wdX)) wdX_ok (cons_ok (a := (19, rowR)) rowR_ok (cons_ok (a := (25, onceX)) onceX_ok (one_ok (a := (24, makeX aw)) aw_ok)))))
noncomputable def cxN : CX := callF (tabJ []) (spOf spN) (bxOf []) 400 12
theorem cxN_ok : CallsOk G0 Try.prog cxN := by
 unfold cxN
 rw [callF_eq]
 exact callD_ok (spOf_ok okSpN) noBx 400 12
noncomputable def okQ (k : Nat) (a b c : Do) : Bool := (caseQ k (doAt k a b c)).all fun f => headOk (tabJ []) cxN (fun _ => none) none 400 0 bodyQ 100 (goals k a b c) [leaveQ] ((headQ a b c).more (kQ (.ofNat k) :: f))
end Go.Proofs.Ytalkfdkcimfmpaa
