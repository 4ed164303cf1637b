/- what SkipRaw is run with: a head of its loop, by the operation. -/
import Derived.Test.YtdngeccbmalbnaaA
import Derived.Test.YtdngeccbmalbnaaE4
namespace Go.Proofs.Ytdngeccbmalbnaa
open Go.Sx Go
set_option maxRecDepth 100000
def bodyOf (f : Func) : Code := f.body.getD .skip
theorem okW : ∀ x ∈ [(38, s38), (48, g48)], SpecOk G0 Try.prog x.1 x.2 := cons_ok (a := (38, s38)) s38_ok (one_ok (a := (48, g48)) g48_ok)
/-- a walk at one level: ways that come to the same key are one -/
noncomputable def s47 : List SV → X SV := uniZ (litOutX (funL [(38, s38), (48, g48)] 47))
theorem s47_ok : SpecOk G0 Try.prog 47 s47 := uniZ_ok (litOutX_ok (funL_ok okW 47))
theorem okW7 : ∀ x ∈ [(38, s38), (48, g48), (47, s47)], SpecOk G0 Try.prog x.1 x.2 := cons_ok (a := (38, s38)) s38_ok (cons_ok (a := (48, g48)) g48_ok (one_ok (a := (47, s47)) s47_ok))
noncomputable def r8 : List SV → X SV := uniZ (gcR (pruneX (funL [(38, s38), (48, g48), (47, s47)] 8)))
theorem r8_ok : SpecOk G0 Try.prog 8 r8 := uniZ_ok (gcR_ok (pruneX_ok (funL_ok okW7 8)))
theorem okR8 : ∀ x ∈ [(8, r8)], SpecOk G0 Try.prog x.1 x.2 := one_ok (a := (8, r8)) r8_ok
noncomputable def cxR : CX := callF (tabJ []) (spOf ([(8, r8)] ++ spL)) (bxOf []) 400 12
theorem cxR_ok : CallsOk G0 Try.prog cxR := by
  unfold cxR
  rw [callF_eq]
  exact callD_ok (spC_ok okR8) noBx 400 12
noncomputable def slotsN (n : Nat) (xs : List (Nat × SV)) : List SV := (List.range n).map fun i => match Sx.look i xs with | some v => v | none => .nil
noncomputable def seven (r : Nat) : Nat → List Fact → List Fact | 0, l => l | n+1, l => seven r n ((.sel r (.lit n), 0, 7) :: l)
noncomputable def knownL : Nat → SV → SV | 0, r => r | n+1, r => knownL n (.cons (.bool (.lit true)) r)
noncomputable def viewC (r1 r2 : Nat) : SV := knownL 16 (.cons (.arr .i64 r1 (.lit 16) .nil) (.cons (.arr .i64 r2 (.lit 16) .nil) .nil))
/-- a round's head: how many rounds were; the view's numbers are below 8 -/
noncomputable def headR (oc : SV) (fs : List Fact) : HeadP := {
  tm := slotsN 110 [(0, slV 1 2 3 4), (3, .ptr 20 0 (.lit 0)), (5, .ptr 21 0 (.lit 0)), (6, vi 12)]
  mem := { know := ⟨(.var 12, 0, 16) :: fs ++ seven 40 16 (seven 41 16 (slF 2 3 4 hi64)), []⟩, heap := [⟨20, 0, false, 27, .lit 0, oc⟩, ⟨21, 0, false, 25, .lit 0, viewC 40 41⟩, slE 1 2 3 5 1], seg := 30, next := 0, nv := 400 }
  mu := .sub (.lit 16) (.var 12) }
noncomputable def leaveR (oc : SV) (fs : List Fact) : LeaveP := { e := .normal, tm := slotsN 110 [(3, .ptr 20 0 (.lit 0)), (5, .ptr 21 0 (.lit 0))],
                                                                  mem := { know := ⟨fs ++ seven 40 16 (seven 41 16 []), []⟩, heap := [⟨20, 0, false, 27, .lit 0, oc⟩, ⟨21, 0, false, 25, .lit 0, viewC 40 41⟩], seg := 30, next := 0, nv := 400 } }
noncomputable def hR (oc : SV) (fs : List Fact) : Bool := headOk (tabJ []) cxR (fun _ => none) none 400 0 (loopBody 0 (bodyOf Try.f6)) 12 [headR oc fs] [leaveR oc fs] (headR oc fs)
noncomputable def loopR (oc : SV) (fs : List Fact) : Fr → X (SX × Fr) := loopP 12 [headR oc fs] [leaveR oc fs]
theorem loopR_ok {oc : SV} {fs : List Fact} (h : hR oc fs = true) : LxOk G0 Try.prog (6, 0, loopR oc fs) :=
  lx_ok Try.func6 (c := bodyOf Try.f6) rfl (b := loopBody 0 (bodyOf Try.f6)) (by kernel_rfl) (loopP_ok (T := tabJ []) cxR_ok (jm := none) (fuel := 400) (noBlocks_ok _ _) (fun x hx => by
    rcases List.mem_singleton.1 hx with rfl
    exact h))
theorem bxR_ok {oc : SV} {fs : List Fact} (h : hR oc fs = true) : BxOk G0 Try.prog (bxOf [(6, 0, loopR oc fs)]) := bxOf_ok (by intro x hx; simp only [List.mem_cons, List.not_mem_nil, or_false] at hx; subst hx; exact loopR_ok h)
noncomputable def runR (oc : SV) (fs : List Fact) : List SV → X SV := callF (tabJ []) (spOf ([(8, r8)] ++ spL)) (bxOf [(6, 0, loopR oc fs)]) 400 12 6
theorem runR_ok {oc : SV} {fs : List Fact} (h : hR oc fs = true) : SpecOk G0 Try.prog 6 (runR oc fs) := callF_ok (spC_ok okR8) (bxR_ok h) 400 12 6
/-- the slice came in; it is nil -/
noncomputable def okRs (oc : SV) (fs : List Fact) : Bool := allOf (runR oc fs [slV 1 2 3 4, .agg oc] (slMem [slE 1 2 3 5 1] (fs ++ slF 2 3 4 hi64) 10)) isTrue
noncomputable def okRn (oc : SV) (fs : List Fact) : Bool := allOf (funL [(8, r8)] 6 [.nils, .agg oc] (slMem [] fs 10)) isTrue
noncomputable def okR (oc : SV) (fs : List Fact) : Bool := hR oc fs && okRs oc fs && okRn oc fs
noncomputable def ocL (k a b x : Int) : SV := .cons (.int .i64 (.lit k)) (.cons (.int .i64 (.lit a)) (.cons (.int .i64 (.lit b)) (.cons (.int .i64 (.lit x)) .nil)))
noncomputable def ocV : SV := .cons (vi 6) (.cons (vi 7) (.cons (vi 8) (.cons (vi 9) .nil)))
noncomputable def ocK (k : Int) : SV := .cons (.int .i64 (.lit k)) (.cons (vi 7) (.cons (vi 8) (.cons (vi 9) .nil)))
end Go.Proofs.Ytdngeccbmalbnaa
