/- the law Banks over views that may be: sums. -/
import Derived.Test.YthhjijadllpcpaaV2
namespace Go.Proofs.Ythhjijadllpcpaa
open Go.Sx Go
set_option maxRecDepth 100000
theorem K_5al : allOf (fun1 3 [viewV 20 6 7, opK 5] (memC ([(.var 11, lo64, -1)] ++ rngs 6 16 (rngs 7 16 [])) [])) isTrue = true := by kernel_rfl
theorem K_5ah : allOf (fun1 3 [viewV 20 6 7, opK 5] (memC ([(.var 11, 1, hi64)] ++ rngs 6 16 (rngs 7 16 [])) [])) isTrue = true := by kernel_rfl
theorem K_5bl : allOf (fun1 3 [viewV 20 6 7, opK 5] (memC ([(.var 12, lo64, -1)] ++ rngs 6 16 (rngs 7 16 [])) [])) isTrue = true := by kernel_rfl
theorem K_5bh : allOf (fun1 3 [viewV 20 6 7, opK 5] (memC ([(.var 12, 1, hi64)] ++ rngs 6 16 (rngs 7 16 [])) [])) isTrue = true := by kernel_rfl
theorem K_5xl : allOf (fun1 3 [viewV 20 6 7, opK 5] (memC ([(.var 13, lo64, -1)] ++ rngs 6 16 (rngs 7 16 [])) [])) isTrue = true := by kernel_rfl
theorem K_5xh : allOf (fun1 3 [viewV 20 6 7, opK 5] (memC ([(.var 13, 1, hi64)] ++ rngs 6 16 (rngs 7 16 [])) [])) isTrue = true := by kernel_rfl
theorem K_5u0 : allOf (fun1 3 [viewV 20 6 7, opS] (memC (rngs 6 16 (rngs 7 16 [])) (kn 0 false))) isTrue = true := by kernel_rfl
theorem K_5u1 : allOf (fun1 3 [viewV 20 6 7, opS] (memC (rngs 6 16 (rngs 7 16 [])) (kn 1 false))) isTrue = true := by kernel_rfl
theorem K_5u2 : allOf (fun1 3 [viewV 20 6 7, opS] (memC (rngs 6 16 (rngs 7 16 [])) (kn 2 false))) isTrue = true := by kernel_rfl
theorem K_5u3 : allOf (fun1 3 [viewV 20 6 7, opS] (memC (rngs 6 16 (rngs 7 16 [])) (kn 3 false))) isTrue = true := by kernel_rfl
end Go.Proofs.Ythhjijadllpcpaa
