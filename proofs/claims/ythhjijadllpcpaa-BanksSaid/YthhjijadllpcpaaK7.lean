/- the law Banks over views that may be: sums whose cells are known. -/
import Derived.Test.YthhjijadllpcpaaV2
namespace Go.Proofs.Ythhjijadllpcpaa
open Go.Sx Go
set_option maxRecDepth 100000
theorem K_5s1000 : allOf (fun1 3 [viewV 20 6 7, opS] (memC ([(.sel 7 (.lit 0), 1, 1099511627775), (.sel 7 (.lit 1), 0, 0), (.sel 7 (.lit 2), 0, 0), (.sel 7 (.lit 3), 0, 0)] ++ rngs 6 16 (rngs 7 16 [])) (kn 4 true))) isTrue = true := by kernel_rfl
theorem K_5s1001 : allOf (fun1 3 [viewV 20 6 7, opS] (memC ([(.sel 7 (.lit 0), 1, 1099511627775), (.sel 7 (.lit 1), 0, 0), (.sel 7 (.lit 2), 0, 0), (.sel 7 (.lit 3), 1, 1099511627775)] ++ rngs 6 16 (rngs 7 16 [])) (kn 4 true))) isTrue = true := by kernel_rfl
theorem K_5s1010 : allOf (fun1 3 [viewV 20 6 7, opS] (memC ([(.sel 7 (.lit 0), 1, 1099511627775), (.sel 7 (.lit 1), 0, 0), (.sel 7 (.lit 2), 1, 1099511627775), (.sel 7 (.lit 3), 0, 0)] ++ rngs 6 16 (rngs 7 16 [])) (kn 4 true))) isTrue = true := by kernel_rfl
theorem K_5s1011 : allOf (fun1 3 [viewV 20 6 7, opS] (memC ([(.sel 7 (.lit 0), 1, 1099511627775), (.sel 7 (.lit 1), 0, 0), (.sel 7 (.lit 2), 1, 1099511627775), (.sel 7 (.lit 3), 1, 1099511627775)] ++ rngs 6 16 (rngs 7 16 [])) (kn 4 true))) isTrue = true := by kernel_rfl
end Go.Proofs.Ythhjijadllpcpaa
