/- FreeRows: rounds, part 2. -/
import Derived.Test.YtalkfdkcimfmpaaQ
namespace Go.Proofs.Ytalkfdkcimfmpaa
open Go.Sx Go
set_option maxRecDepth 100000
theorem q1_nonono : okQ 1 .none .none .none = true := by kernel_rfl
theorem q0_nonopu : okQ 0 .none .none .puts = true := by kernel_rfl
theorem q2_nohaha : okQ 2 .none .has .has = true := by kernel_rfl
theorem q1_nopono : okQ 1 .none .pops .none = true := by kernel_rfl
theorem q0_nopopu : okQ 0 .none .pops .puts = true := by kernel_rfl
theorem q2_nopuha : okQ 2 .none .puts .has = true := by kernel_rfl
theorem q1_hanono : okQ 1 .has .none .none = true := by kernel_rfl
theorem q0_hanopu : okQ 0 .has .none .puts = true := by kernel_rfl
theorem q2_hahaha : okQ 2 .has .has .has = true := by kernel_rfl
theorem q1_hapono : okQ 1 .has .pops .none = true := by kernel_rfl
theorem q0_hapopu : okQ 0 .has .pops .puts = true := by kernel_rfl
theorem q2_hapuha : okQ 2 .has .puts .has = true := by kernel_rfl
theorem q1_ponono : okQ 1 .pops .none .none = true := by kernel_rfl
theorem q0_ponopu : okQ 0 .pops .none .puts = true := by kernel_rfl
theorem q2_pohaha : okQ 2 .pops .has .has = true := by kernel_rfl
theorem q1_popono : okQ 1 .pops .pops .none = true := by kernel_rfl
theorem q0_popopu : okQ 0 .pops .pops .puts = true := by kernel_rfl
theorem q2_popuha : okQ 2 .pops .puts .has = true := by kernel_rfl
theorem q1_punono : okQ 1 .puts .none .none = true := by kernel_rfl
theorem q0_punopu : okQ 0 .puts .none .puts = true := by kernel_rfl
theorem q2_puhaha : okQ 2 .puts .has .has = true := by kernel_rfl
theorem q1_pupono : okQ 1 .puts .pops .none = true := by kernel_rfl
theorem q0_pupopu : okQ 0 .puts .pops .puts = true := by kernel_rfl
theorem q2_pupuha : okQ 2 .puts .puts .has = true := by kernel_rfl
end Go.Proofs.Ytalkfdkcimfmpaa
