/- awake. -/
import Derived.Test.YtofmndcdcchflaaF
namespace Go.Proofs.Ytofmndcdcchflaa
open Go.Sx Go
set_option maxRecDepth 100000
noncomputable def aw : Sx.Make := { args := [], mem := mem0 1, val := .bool (.lit true), out := none }
theorem awRun : makeRun (fun0 23) aw = true := by kernel_rfl
theorem aw_ok {G : Gf} : SpecOk G Try.prog 23 (makeX aw) := makeX_ok (fun0_ok 23) aw awRun
end Go.Proofs.Ytofmndcdcchflaa
