/- FreeRows: rounds, part 1. -/
import Derived.Test.YtalkfdkcimfmpaaQ
namespace Go.Proofs.Ytalkfdkcimfmpaa
open Go.Sx Go
set_option maxRecDepth 100000
theorem q0_nonono : okQ 0 .none .none .none = true := by kernel_rfl
theorem q2_nonopo : okQ 2 .none .none .pops = true := by kernel_rfl
theorem q1_nohaha : okQ 1 .none .has .has = true := by kernel_rfl
theorem q0_nopono : okQ 0 .none .pops .none = true := by kernel_rfl
theorem q2_nopopo : okQ 2 .none .pops .pops = true := by kernel_rfl
theorem q1_nopuha : okQ 1 .none .puts .has = true := by kernel_rfl
theorem q0_hanono : okQ 0 .has .none .none = true := by kernel_rfl
theorem q2_hanopo : okQ 2 .has .none .pops = true := by kernel_rfl
theorem q1_hahaha : okQ 1 .has .has .has = true := by kernel_rfl
theorem q0_hapono : okQ 0 .has .pops .none = true := by kernel_rfl
theorem q2_hapopo : okQ 2 .has .pops .pops = true := by kernel_rfl
theorem q1_hapuha : okQ 1 .has .puts .has = true := by kernel_rfl
theorem q0_ponono : okQ 0 .pops .none .none = true := by kernel_rfl
theorem q2_ponopo : okQ 2 .pops .none .pops = true := by kernel_rfl
theorem q1_pohaha : okQ 1 .pops .has .has = true := by kernel_rfl
theorem q0_popono : okQ 0 .pops .pops .none = true := by kernel_rfl
theorem q2_popopo : okQ 2 .pops .pops .pops = true := by kernel_rfl
theorem q1_popuha : okQ 1 .pops .puts .has = true := by kernel_rfl
theorem q0_punono : okQ 0 .puts .none .none = true := by kernel_rfl
theorem q2_punopo : okQ 2 .puts .none .pops = true := by kernel_rfl
theorem q1_puhaha : okQ 1 .puts .has .has = true := by kernel_rfl
theorem q0_pupono : okQ 0 .puts .pops .none = true := by kernel_rfl
theorem q2_pupopo : okQ 2 .puts .pops .pops = true := by kernel_rfl
theorem q1_pupuha : okQ 1 .puts .puts .has = true := by kernel_rfl
end Go.Proofs.Ytalkfdkcimfmpaa
