/- awake, by its own calls. -/
import Derived.Test.YtnfmmiomomgabaaB
import Derived.Test.YtnfmmiomomgabaaYL
namespace Go.Proofs.Ytnfmmiomomgabaa
open Go.Sx Go
set_option maxRecDepth 100000
noncomputable def spU : List (Nat × (List SV → X SV)) := [(28, m28), (29, m29), (25, mayX)]
theorem okSpU : ∀ x ∈ spU, SpecOk G0 Try.prog x.1 x.2 := cons_ok (a := (28, m28)) m28_ok (cons_ok (a := (29, m29)) m29_ok (one_ok (a := (25, mayX)) x25_ok))
noncomputable def u9 : List SV → X SV := gcR (funL spU 9)
theorem u9_ok : SpecOk G0 Try.prog 9 u9 := gcR_ok (funL_ok okSpU 9)
noncomputable def spW : List (Nat × (List SV → X SV)) := [(9, u9), (13, mayX)]
theorem okSpW : ∀ x ∈ spW, SpecOk G0 Try.prog x.1 x.2 := cons_ok (a := (9, u9)) u9_ok (one_ok (a := (13, mayX)) x13_ok)
noncomputable def awakeP : Sx.Make := { args := [], mem := mem0 1, val := .bool (.lit true), out := none }
theorem awake_run : makeRun (funL spW 17) awakeP = true := by kernel_rfl
theorem awake_ok : SpecOk G0 Try.prog 17 (makeX awakeP) := makeX_ok (funL_ok okSpW 17) awakeP awake_run
end Go.Proofs.Ytnfmmiomomgabaa
