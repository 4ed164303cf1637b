/- what Skips is run with: next by the program and by the reference, over a view of which anything may be known. -/
import Derived.Test.YtnfmmiomomgabaaA
namespace Go.Proofs.Ytnfmmiomomgabaa
open Go.Sx Go
set_option maxRecDepth 100000
noncomputable def walkQ (n : IE) (fs : List Fact) (cs : List BE) : Mem := { know := ⟨fs, cs⟩, heap := [⟨1, 0, false, 64, .lit 0, walkC n⟩], seg := 0, next := 0, nv := 50 }
noncomputable def nextQ (x lv : Int) : IE := cond (decide (x = 4)) (.lit (-1)) (.ite false (appN (x + 1).toNat (linkE x lv)) (.lit 5) (.lit (-1)) (appN (x + 1).toNat (linkE x lv)))
noncomputable def formQ (x lv : Int) : Sx.Form := { args := walkA x lv, mem := walkQ (.lit (-1)) (factL (cellN x lv)) [.var (20 + cellN x lv)], val := .int .i64 (nextQ x lv), out := [⟨1, 0, 64, walkC (.lit (-1))⟩], n := 0 }
noncomputable def formQu (x lv : Int) : Sx.Form := { args := walkA x lv, mem := walkQ (.lit (-1)) [] [.not (.var (20 + cellN x lv))], val := .int .i64 (.lit (-1)), out := [⟨1, 0, 64, walkC (.lit (cellN x lv))⟩], n := 0 }
noncomputable def formQn (x lv : Int) : Sx.Form := { args := walkA x lv, mem := walkQ (.var 9) [(.var 9, 0, 15)] [], val := .int .i64 (.lit (-1)), out := [⟨1, 0, 64, walkC (.var 9)⟩], n := 0 }
theorem formsQ_ok : ((at12 formQ).all (formRun k43)) = true := by kernel_rfl
theorem formsQu_ok : ((at12 formQu).all (formRun k43)) = true := by kernel_rfl
theorem formsQn_ok : ((at12 formQn).all (formRun k43)) = true := by kernel_rfl
noncomputable def q43 : List SV → X SV := splitX 1 (preX ask43 (postX fin (pickX (g12 formQ) (pickX (g12 formQu) (pickX (g12 formQn) k43)))))
theorem q43_ok : SpecOk G0 Try.prog 44 q43 := splitX_ok (preX_ok (postX_ok (pickX_ok (pickX_ok (pickX_ok k43_ok (g12_ok k43_ok formsQn_ok)) (g12_ok k43_ok formsQu_ok)) (g12_ok k43_ok formsQ_ok)) fin_ok) ask43) 1
end Go.Proofs.Ytnfmmiomomgabaa
