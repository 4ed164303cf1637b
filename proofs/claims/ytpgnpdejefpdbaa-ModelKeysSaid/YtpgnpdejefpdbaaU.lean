/- ModelSums: what is run; the heads of its loop. -/
import Derived.Test.YtpgnpdejefpdbaaM
namespace Go.Proofs.Ytpgnpdejefpdbaa
open Go.Sx Go
set_option maxRecDepth 100000
noncomputable def l0 (f : Nat) : List SV → X SV := litArgX 1 (fun0 f)
theorem l0_ok (f : Nat) : SpecOk G0 Try.prog f (l0 f) := litArgX_ok (fun0_ok f) 1
noncomputable def spU : List (Nat × (List SV → X SV)) := [(28, l0 28), (29, l0 29), (30, l0 30), (32, l0 32), (34, l0 34), (35, l0 35), (38, l0 38), (17, makeX awakeP)]
theorem okSpU : ∀ x ∈ spU, SpecOk G0 Try.prog x.1 x.2 := cons_ok (a := (28, l0 28)) (l0_ok 28) (cons_ok (a := (29, l0 29)) (l0_ok 29) (cons_ok (a := (30, l0 30)) (l0_ok 30) (cons_ok (a := (32, l0 32)) (l0_ok 32) (cons_ok (a := (34, l0 34)) (l0_ok 34) (cons_ok (a := (35, l0 35)) (l0_ok 35) (cons_ok (a := (38, l0 38)) (l0_ok 38) (one_ok (a := (17, makeX awakeP)) awake_ok)))))))
noncomputable def cxU : CX := callF (tabJ []) (spOf spU) (bxOf []) 400 12
theorem cxU_ok : CallsOk G0 Try.prog cxU := by
 unfold cxU
 rw [callF_eq]
 exact callD_ok (spOf_ok okSpU) noBx 400 12
noncomputable def xsV : SV := slV 1 2 3 4
noncomputable def xsE : Ent := slE 1 2 3 5 1
noncomputable def falses : SV := .cons (.bool (.lit false)) (.cons (.bool (.lit false)) (.cons (.bool (.lit false)) (.cons (.bool (.lit false)) (.cons (.bool (.lit false)) .nil))))
noncomputable def balE (i : Nat) : IE := .sel 60 (.lit i)
noncomputable def sumOf : List Bool → Nat → IE
 | [], _ => .lit 0
 | true :: r, i => mkAdd (balE i) (sumOf r (i + 1))
 | false :: r, i => sumOf r (i + 1)
noncomputable def balF : List Bool → Nat → List Fact
 | [], _ => []
 | true :: r, i => (balE i, 0, 1048575) :: balF r (i + 1)
 | false :: r, i => (balE i, -1, -1) :: balF r (i + 1)
noncomputable def lessF (w : List Bool) : List (Nat × List Bool) → List Fact
 | [] => []
 | (j, v) :: r => cond ((w[j]?).getD false) ((mkSub (sumOf v 0) (mkSub (.var 30) (balE j)), 0, 0) :: (mkSub (mkSub (.var 30) (balE j)) (sumOf v 0), 0, 0) :: (mkSub (.var 30) (balE j), 0, 2520) :: lessF w r) (lessF w r)
noncomputable def lessW (w : List Bool) : List Fact := lessF w ([0, 1, 2, 3].map fun j => (j, w.set j false))
noncomputable def headU (w : List Bool) : HeadP := {
 tm := slotsN 140 [(0, xsV), (2, .bool (.lit false)), (3, .ptr 20 0 (.lit 0)), (4, vi 30), (5, vi 12)]
 mem := { know := ⟨balF w 0 ++ ((.var 12, 0, 40) :: (.var 30, 0, 2520) :: (.add (.var 30) (.mul (.var 12) (.lit (-63))), -4194304, 0) :: (mkSub (sumOf w 0) (.var 30), 0, 0) :: (mkSub (.var 30) (sumOf w 0), 0, 0) :: slF 2 3 4 hi64), []⟩, heap := [⟨20, 0, false, 25, .lit 0, .cons (.arr .i64 60 (.lit 4) .nil) falses⟩, xsE], seg := 30, next := 0, nv := 400 }
 mu := .sub (.lit 40) (.var 12) }
noncomputable def leaveU : LeaveP := { e := .normal, tm := slotsN 140 [], mem := { know := ⟨[], []⟩, heap := [], seg := 30, next := 0, nv := 400 } }
noncomputable def wsU : List (List Bool) := [[false, false, false, false], [false, false, false, true], [false, false, true, false], [false, false, true, true], [false, true, false, false], [false, true, false, true], [false, true, true, false], [false, true, true, true],
 [true, false, false, false], [true, false, false, true], [true, false, true, false], [true, false, true, true], [true, true, false, false], [true, true, false, true], [true, true, true, false], [true, true, true, true]]
noncomputable def headsU : List HeadP := wsU.map headU
noncomputable def eAct : IE := .sel 5 (.var 12)
noncomputable def eA : IE := .bit .and .i64 eAct (.lit 3)
noncomputable def eB : IE := .bit .and .i64 (.shr eAct 2) (.lit 3)
noncomputable def eK : IE := .bit .and .i64 (.shr eAct 10) (.lit 3)
noncomputable def eX : IE := .bit .and .i64 (.shr eAct 4) (.lit 63)
noncomputable def sumTr (a b : Nat) : List Bool → Nat → IE → IE
 | [], _, acc => acc
 | true :: r, i, acc => sumTr a b r (i + 1) (mkAdd acc (cond (Nat.beq i a) (mkSub (balE a) eX) (cond (Nat.beq i b) (mkAdd (balE b) eX) (balE i))))
 | false :: r, i, acc => sumTr a b r (i + 1) acc
noncomputable def trF (w : List Bool) (a b : Nat) : List Fact := [(mkSub (sumTr a b w 0 (.lit 0)) (.var 30), 0, 0), (mkSub (.var 30) (sumTr a b w 0 (.lit 0)), 0, 0)]
theorem anyS_sub {α : Type} {p : α → Bool} {l l' : List α} (hs : ∀ x ∈ l, x ∈ l') (h : anyS p l = true) : anyS p l' = true := by
 obtain ⟨x, hx, hp⟩ := anyS_ok h
 have hx := hs x hx
 clear h hs
 induction l' with
 | nil => cases hx
 | cons y r ih =>
  show cond (p y) true (anyS p r) = true
  cases hy : p y with
  | true => rfl
  | false =>
   rcases List.mem_cons.1 hx with rfl | hx
   ·rw [hp] at hy; cases hy
   ·exact ih hx
theorem headOk_sub {P : Program} {T : Tab P} {cx : CX} {bx : BX} {jm : Option Nat} {fuel id : Nat} {body : Code} {n : Nat} {hs hs' : List HeadP} {ls : List LeaveP} {h : HeadP} (hsub : ∀ x ∈ hs, x ∈ hs') (hk : headOk T cx bx jm fuel id body n hs ls h = true) : headOk T cx bx jm fuel id body n hs' ls h = true := by
 unfold headOk at hk ⊢
 split at hk
 ·cases hk
 ·rename_i outs hrun
  rw [List.all_eq_true] at hk ⊢
  intro q hq
  have := hk q hq
  split at this
  ·exact anyS_sub hsub this
  ·exact this
noncomputable def hOk (w w' : List Bool) (fs : List Fact) : Bool := headOk (tabJ []) cxU (fun _ => none) none 400 0 (loopBody 0 (bodyOf Try.f4)) 12 [headU w, headU w'] [leaveU] ((headU w).more (fs ++ lessW w))
end Go.Proofs.Ytpgnpdejefpdbaa
