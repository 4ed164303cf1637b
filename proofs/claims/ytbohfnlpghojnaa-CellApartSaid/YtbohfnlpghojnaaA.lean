/- the base. -/
import Derived.Test.YtbohfnlpghojnaaTab
namespace Go.Proofs.Ytbohfnlpghojnaa
open Go.Sx Go
set_option maxRecDepth 100000
abbrev vi (k : Nat) : SV := .int .i64 (.var k)
theorem noSpecs : SpecsOk Try.prog (spOf []) := spOf_ok (by intro x hx; cases hx)
theorem noBx : BxOk Try.prog (bxOf []) := bxOf_ok (by intro x hx; cases hx)
noncomputable def run0 (f : Nat) : List SV → X SV := callD tab (spOf []) (bxOf []) 400 12 f
theorem run0_ok (f : Nat) : SpecOk Try.prog f (run0 f) := call_ok noSpecs noBx 400 12 f
noncomputable def sp1 : Specs := spOf [(6, mergeX (run0 6)), (7, mergeX (run0 7)), (8, mergeX (run0 8)), (9, mergeX (run0 9)), (10, mergeX (run0 10)), (11, mergeX (run0 11))]
theorem sp1_ok : SpecsOk Try.prog sp1 := spOf_ok (by
  intro x hx
  simp only [List.mem_cons, List.not_mem_nil, or_false] at hx
  rcases hx with rfl | rfl | rfl | rfl | rfl | rfl <;> exact mergeX_ok (run0_ok _))
noncomputable def run1 (f : Nat) : List SV → X SV := callD tab sp1 (bxOf []) 400 12 f
theorem run1_ok (f : Nat) : SpecOk Try.prog f (run1 f) := call_ok sp1_ok noBx 400 12 f
def awakeP : Sx.Make := { args := [], mem := mem0 1, val := .bool (.lit true), out := none }
theorem awake_make : makeRun (run1 13) awakeP = true := by kernel_rfl
noncomputable def sp2 : Specs := spOf [(6, mergeX (run0 6)), (7, mergeX (run0 7)), (8, mergeX (run0 8)), (9, mergeX (run0 9)), (10, mergeX (run0 10)), (11, mergeX (run0 11)), (13, makeX awakeP)]
theorem sp2_ok : SpecsOk Try.prog sp2 := spOf_ok (by
  intro x hx
  simp only [List.mem_cons, List.not_mem_nil, or_false] at hx
  rcases hx with rfl | rfl | rfl | rfl | rfl | rfl | rfl
  iterate 6 exact mergeX_ok (run0_ok _)
  exact makeX_ok (run1_ok 13) awakeP awake_make)
noncomputable def run2 (f : Nat) : List SV → X SV := callD tab sp2 (bxOf []) 400 12 f
theorem run2_ok (f : Nat) : SpecOk Try.prog f (run2 f) := call_ok sp2_ok noBx 400 12 f
theorem rows_run : allOf (run2 3 [vi 6, vi 7, vi 8, slV 1 2 3 4] (slMem [slE 1 2 3 5 1] (slF 2 3 4 hi64) 10)) isTrue = true := by kernel_rfl
theorem rows_nil : allOf (run2 3 [vi 6, vi 7, vi 8, .nils] (mem0 10)) isTrue = true := by kernel_rfl
theorem apart_run : allOf (run2 4 [vi 6] (mem0 10)) isTrue = true := by kernel_rfl
end Go.Proofs.Ytbohfnlpghojnaa
