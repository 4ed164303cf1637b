/- SkipNeeds: what is run; a head of its loop, by the operation. -/
import Derived.Test.YtdngeccbmalbnaaS
import Derived.Test.YtdngeccbmalbnaaXf
import Derived.Test.YtdngeccbmalbnaaV2
namespace Go.Proofs.Ytdngeccbmalbnaa
open Go.Sx Go
set_option maxRecDepth 100000
noncomputable def d8 (k a b x : Int) : List SV → X SV := letX (guardX (yX (form8 k a b x)))
theorem d8_ok {k a b x : Int} (h : SpecOk G0 Try.prog 8 (yX (form8 k a b x))) : SpecOk G0 Try.prog 8 (d8 k a b x) := letX_ok (guardX_ok h)
noncomputable def spU (k a b x : Int) : List (Nat × (List SV → X SV)) := [(8, d8 k a b x)]
theorem okSpU {k a b x : Int} (h : SpecOk G0 Try.prog 8 (yX (form8 k a b x))) : ∀ y ∈ spU k a b x, SpecOk G0 Try.prog y.1 y.2 := one_ok (a := (8, d8 k a b x)) (d8_ok h)
noncomputable def cxU (k a b x : Int) : CX := callF (tabJ [4]) (spOf (spU k a b x ++ spL)) (bxOf []) 400 12
theorem cxU_ok {k a b x : Int} (h : SpecOk G0 Try.prog 8 (yX (form8 k a b x))) : CallsOk G0 Try.prog (cxU k a b x) := by
  unfold cxU
  rw [callF_eq]
  exact callD_ok (spC_ok (okSpU h)) noBx 400 12
/-- what is put where a cell is not known -/
noncomputable def eY : IE := .bit .and .i64 (.var 9) (.lit 1023)
/-- how many cells are known, less than none -/
noncomputable def sumB (a : Nat) : Nat → IE | 0 => .lit 0 | n + 1 => .add (sumB a n) (.mul (.lit (-1)) (.bv (a + n)))
noncomputable def headU (k a b x : Int) : HeadP := {
  tm := slotsN 157 [(3, .ptr 90 0 (.lit 0)), (4, .ptr 91 0 (.lit 0)), (6, .bool (.lit false)), (7, .int .i64 eY), (8, vi 52)]
  mem := { know := ⟨(.var 52, 0, 16) :: (norm (.add (.var 52) (sumB 60 16)), -16, 0) :: rngs 6 16 (rngs 7 16 []), []⟩, heap := [⟨90, 0, false, 25, .lit 0, boolV 60 16 (.cons (.arr .i64 6 (.lit 16) .nil) (.cons (.arr .i64 7 (.lit 16) .nil) .nil))⟩, ⟨91, 0, false, 27, .lit 0, ocL k a b x⟩], seg := 100, next := 0, nv := 400 }
  mu := .sub (.lit 17) (.var 52) }
noncomputable def leaveU : LeaveP := { e := .ret, tm := slotsN 157 [(6, .bool (.lit true))], mem := { know := ⟨[], []⟩, heap := [], seg := 100, next := 0, nv := 400 } }
/-- a round, by facts -/
noncomputable def okU (k a b x : Int) (fs : List Fact) : Bool := headOk (tabJ [4]) (cxU k a b x) (fun _ => none) (some 4) 400 0 (loopBody 0 (bodyOf Try.f4)) 52 [headU k a b x] [leaveU] ((headU k a b x).moreC (fs, []))
noncomputable def loopU (k a b x : Int) : Fr → X (SX × Fr) := loopP 52 [headU k a b x] [leaveU]
theorem loopU_ok {k a b x : Int} (h8 : SpecOk G0 Try.prog 8 (yX (form8 k a b x))) {fss : List (List Fact)} (hcov : ∀ E : Env, E.f = G0 → E.Ok → ∃ fs ∈ fss, ∀ y ∈ fs, FactOk E y) (h : ∀ fs ∈ fss, okU k a b x fs = true) : LxOk G0 Try.prog (4, 0, loopU k a b x) :=
  lx_ok Try.func4 (c := bodyOf Try.f4) rfl (b := loopBody 0 (bodyOf Try.f4)) (by kernel_rfl) (loopPe_ok (T := tabJ [4]) (cxU_ok h8) (jm := some 4) (fuel := 400) (noBlocks_ok _ _) (fun y hy => by
    rcases List.mem_singleton.1 hy with rfl
    refine ⟨fss.map fun fs => (fs, []), fun E hf hE _ => ?_, fun c hc => ?_⟩
    · obtain ⟨fs, h1, h2⟩ := hcov E hf hE
      exact ⟨(fs, []), List.mem_map_of_mem h1, h2, fun _ h => by cases h⟩
    · obtain ⟨fs, h1, rfl⟩ := List.mem_map.1 hc
      exact h fs h1))
noncomputable def runU (k a b x : Int) : List SV → X SV := callF (tabJ [4]) (spOf (spU k a b x ++ spL)) (bxOf [(4, 0, loopU k a b x)]) 400 12 4
theorem runU_ok {k a b x : Int} (h8 : SpecOk G0 Try.prog 8 (yX (form8 k a b x))) (hl : LxOk G0 Try.prog (4, 0, loopU k a b x)) : SpecOk G0 Try.prog 4 (runU k a b x) :=
  callF_ok (spC_ok (okSpU h8)) (bxOf_ok (by intro y hy; simp only [List.mem_cons, List.not_mem_nil, or_false] at hy; subst hy; exact hl)) 400 12 4
noncomputable def okUs (k a b x : Int) : Bool := allOf (runU k a b x [viewV 20 6 7, .agg (ocL k a b x), vi 9] (memC ([] ++ rngs 6 16 (rngs 7 16 [])) [])) isTrue
/-- of an operation that may not be -/
noncomputable def okUi (oa : SV) (fs : List Fact) : Bool := allOf (fun2 4 [viewV 20 6 7, oa, vi 9] (memC (fs ++ rngs 6 16 (rngs 7 16 [])) [])) isTrue
/-- of a view that may not be -/
noncomputable def okUb (oa : SV) (fs : List Fact) : Bool := allOf (withB fs fun m => fun2 4 [viewV 20 6 7, oa, vi 9] m) isTrue
end Go.Proofs.Ytdngeccbmalbnaa
