/- FreeRows: rounds, part 3. -/
import Derived.Test.YtalkfdkcimfmpaaQ
namespace Go.Proofs.Ytalkfdkcimfmpaa
open Go.Sx Go
set_option maxRecDepth 100000
theorem q2_nonono : okQ 2 .none .none .none = true := by kernel_rfl
theorem q1_nonopu : okQ 1 .none .none .puts = true := by kernel_rfl
theorem q0_nohapo : okQ 0 .none .has .pops = true := by kernel_rfl
theorem q2_nopono : okQ 2 .none .pops .none = true := by kernel_rfl
theorem q1_nopopu : okQ 1 .none .pops .puts = true := by kernel_rfl
theorem q0_nopupo : okQ 0 .none .puts .pops = true := by kernel_rfl
theorem q2_hanono : okQ 2 .has .none .none = true := by kernel_rfl
theorem q1_hanopu : okQ 1 .has .none .puts = true := by kernel_rfl
theorem q0_hahapo : okQ 0 .has .has .pops = true := by kernel_rfl
theorem q2_hapono : okQ 2 .has .pops .none = true := by kernel_rfl
theorem q1_hapopu : okQ 1 .has .pops .puts = true := by kernel_rfl
theorem q0_hapupo : okQ 0 .has .puts .pops = true := by kernel_rfl
theorem q2_ponono : okQ 2 .pops .none .none = true := by kernel_rfl
theorem q1_ponopu : okQ 1 .pops .none .puts = true := by kernel_rfl
theorem q0_pohapo : okQ 0 .pops .has .pops = true := by kernel_rfl
theorem q2_popono : okQ 2 .pops .pops .none = true := by kernel_rfl
theorem q1_popopu : okQ 1 .pops .pops .puts = true := by kernel_rfl
theorem q0_popupo : okQ 0 .pops .puts .pops = true := by kernel_rfl
theorem q2_punono : okQ 2 .puts .none .none = true := by kernel_rfl
theorem q1_punopu : okQ 1 .puts .none .puts = true := by kernel_rfl
theorem q0_puhapo : okQ 0 .puts .has .pops = true := by kernel_rfl
theorem q2_pupono : okQ 2 .puts .pops .none = true := by kernel_rfl
theorem q1_pupopu : okQ 1 .puts .pops .puts = true := by kernel_rfl
theorem q0_pupupo : okQ 0 .puts .puts .pops = true := by kernel_rfl
end Go.Proofs.Ytalkfdkcimfmpaa
