/- the document's Get and Put, by unknown functions. -/
import Derived.Test.YtojpmbkbeoolcaaIa
import Derived.Test.YtojpmbkbeoolcaaIb
import Derived.Test.YtojpmbkbeoolcaaIc
import Derived.Test.YtojpmbkbeoolcaaId
import Derived.Test.YtojpmbkbeoolcaaIe
import Derived.Test.YtojpmbkbeoolcaaPI
import Derived.Test.YtojpmbkbeoolcaaLV
namespace Go.Proofs.Ytojpmbkbeoolcaa
open Go.Sx Go
set_option maxRecDepth 100000
theorem i9All : ∀ k, k < 27 → (((cfgs.drop (9 * k)).take 9).all fun xs => runI9 xs) = true
 | 0, _ => i9_0
 | 1, _ => i9_1
 | 2, _ => i9_2
 | 3, _ => i9_3
 | 4, _ => i9_4
 | 5, _ => i9_5
 | 6, _ => i9_6
 | 7, _ => i9_7
 | 8, _ => i9_8
 | 9, _ => i9_9
 | 10, _ => i9_10
 | 11, _ => i9_11
 | 12, _ => i9_12
 | 13, _ => i9_13
 | 14, _ => i9_14
 | 15, _ => i9_15
 | 16, _ => i9_16
 | 17, _ => i9_17
 | 18, _ => i9_18
 | 19, _ => i9_19
 | 20, _ => i9_20
 | 21, _ => i9_21
 | 22, _ => i9_22
 | 23, _ => i9_23
 | 24, _ => i9_24
 | 25, _ => i9_25
 | 26, _ => i9_26
 | n + 27, h => absurd h (by omega)
theorem c9All : ∀ k, k < 32 → (((good9.drop k).take 1).all runC9) = true
 | 0, _ => c9_0
 | 1, _ => c9_1
 | 2, _ => c9_2
 | 3, _ => c9_3
 | 4, _ => c9_4
 | 5, _ => c9_5
 | 6, _ => c9_6
 | 7, _ => c9_7
 | 8, _ => c9_8
 | 9, _ => c9_9
 | 10, _ => c9_10
 | 11, _ => c9_11
 | 12, _ => c9_12
 | 13, _ => c9_13
 | 14, _ => c9_14
 | 15, _ => c9_15
 | 16, _ => c9_16
 | 17, _ => c9_17
 | 18, _ => c9_18
 | 19, _ => c9_19
 | 20, _ => c9_20
 | 21, _ => c9_21
 | 22, _ => c9_22
 | 23, _ => c9_23
 | 24, _ => c9_24
 | 25, _ => c9_25
 | 26, _ => c9_26
 | 27, _ => c9_27
 | 28, _ => c9_28
 | 29, _ => c9_29
 | 30, _ => c9_30
 | 31, _ => c9_31
 | n + 32, h => absurd h (by omega)
theorem each9 : ∀ c ∈ cases9, runC9 c = true := by
 intro c hc
 by_cases hg : c.fs.isEmpty = true
 ·have hm : c ∈ good9 := List.mem_filter.2 ⟨hc, hg⟩
  have hl : good9.length = 32 := by kernel_rfl
  obtain ⟨i, hi, rfl⟩ := List.getElem_of_mem hm
  refine List.all_eq_true.1 (c9All i (by omega)) _ (List.mem_of_getElem? (i := 0) ?_)
  rw [List.getElem?_take_of_lt (by omega), List.getElem?_drop, Nat.add_zero, List.getElem?_eq_getElem hi]
 ·refine List.all_eq_true.1 c9_bad c (List.mem_filter.2 ⟨hc, ?_⟩)
  cases hq : c.fs.isEmpty with
  | true => exact absurd hq hg
  | false => rfl
noncomputable def runIL : List Bool → Bool
 | [e0, e1, e2, e3, e4] => runI e0 e1 e2 e3 e4
 | _ => false
theorem puts_all : (bools5.all runIL) = true := by kernel_rfl
theorem puts_each (e0 e1 e2 e3 e4 : Bool) : runI e0 e1 e2 e3 e4 = true := by
 have h : runIL [e0, e1, e2, e3, e4] = true := List.all_eq_true.1 puts_all _ (mem_bools5 e0 e1 e2 e3 e4)
 unfold runIL at h
 exact h
theorem geti_ok : SpecOk G0 Try.prog 9 getX := getX_ok (semGetI (nine i9All) each9)
theorem puti_ok : SpecOk G0 Try.prog 11 (putX 3) := putX_ok (semPutI puts_each)
theorem getG_ok : SpecOk G0 Try.prog 8 getX := getX_ok semGet
theorem putG_ok : SpecOk G0 Try.prog 10 (putX 62) := putX_ok semPut
theorem sameG_ok : SpecOk G0 Try.prog 13 sameX := sameX_ok semSame
noncomputable def spA : List (Nat × (List SV → X SV)) := [(15, makeX aw)]
theorem okSpA : ∀ x ∈ spA, SpecOk G0 Try.prog x.1 x.2 := one_ok (a := (15, makeX aw)) aw_ok
noncomputable def spP1 (l : List (Nat × (List SV → X SV))) : List (Nat × (List SV → X SV)) := (10, putX 62) :: (11, putX 3) :: (13, sameX) :: l
theorem okSpP1 {l : List (Nat × (List SV → X SV))} (h : ∀ x ∈ l, SpecOk G0 Try.prog x.1 x.2) : ∀ x ∈ spP1 l, SpecOk G0 Try.prog x.1 x.2 := cons_ok (a := (10, putX 62)) putG_ok (cons_ok (a := (11, putX 3)) puti_ok (cons_ok (a := (13, sameX)) sameG_ok h))
noncomputable def spG1 (l : List (Nat × (List SV → X SV))) : List (Nat × (List SV → X SV)) := (8, getX) :: (9, getX) :: l
theorem okSpG1 {l : List (Nat × (List SV → X SV))} (h : ∀ x ∈ l, SpecOk G0 Try.prog x.1 x.2) : ∀ x ∈ spG1 l, SpecOk G0 Try.prog x.1 x.2 := cons_ok (a := (8, getX)) getG_ok (cons_ok (a := (9, getX)) geti_ok h)
noncomputable def xs16 : SV := .sli 46 0 (.lit 0) (.lit 16) (.var 49)
noncomputable def ent16 : Ent := ⟨46, 0, true, 3, .lit 0, .cons (.arr .i64 10 (.lit 16) .nil) .nil⟩
noncomputable def xsO : SV := slV 46 47 48 49
noncomputable def entO : Ent := slE 46 47 48 10 1
noncomputable def ok16 (sp : List (Nat × (List SV → X SV))) (fs : List Fact) : Bool := allOf (funL (spG1 sp) 3 [xs16, stV 1 20, vi 5] (slMem [ent16] ((.var 49, 0, hi64) :: fs) 60)) isTrue
noncomputable def okO (sp : List (Nat × (List SV → X SV))) (lo hi : Int) (fs : List Fact) : Bool := allOf (funL sp 3 [xsO, stV 1 20, vi 5] (slMem [entO] ((.var 48, lo, hi) :: slF 47 48 49 9223372036854775807 ++ fs) 60)) isTrue
noncomputable def okN (sp : List (Nat × (List SV → X SV))) (fs : List Fact) : Bool := allOf (funL sp 3 [.nils, stV 1 20, vi 5] (slMem [] fs 60)) isTrue
noncomputable def mayF : List Fact := (.var 5, 0, 31) :: rngB 1
noncomputable def badF (n : Nat) : List Fact := if n = 8 then [(.var 5, lo64, -1)] else if n = 9 then [(.var 5, 32, hi64)] else if n % 2 = 0 then [(.sel 1 (.lit (.ofNat (n / 2))), lo64, -2)] else [(.sel 1 (.lit (.ofNat (n / 2))), 1048576, hi64)]
end Go.Proofs.Ytojpmbkbeoolcaa
