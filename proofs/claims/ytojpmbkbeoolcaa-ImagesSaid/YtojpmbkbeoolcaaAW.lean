/- awake, run once. -/
import Derived.Test.YtojpmbkbeoolcaaA
namespace Go.Proofs.Ytojpmbkbeoolcaa
open Go.Sx Go
set_option maxRecDepth 100000
noncomputable def aw : Sx.Make := { args := [], mem := mem0 1, val := .bool (.lit true), out := none }
theorem awRun : makeRun (fun0 15) aw = true := by kernel_rfl
theorem aw_ok : SpecOk G0 Try.prog 15 (makeX aw) := makeX_ok (fun0_ok 15) aw awRun
end Go.Proofs.Ytojpmbkbeoolcaa
