/- FreeRows: rounds, part 4. -/
import Derived.Test.YtalkfdkcimfmpaaQ
namespace Go.Proofs.Ytalkfdkcimfmpaa
open Go.Sx Go
set_option maxRecDepth 100000
theorem q0_nonoha : okQ 0 .none .none .has = true := by kernel_rfl
theorem q2_nonopu : okQ 2 .none .none .puts = true := by kernel_rfl
theorem q1_nohapo : okQ 1 .none .has .pops = true := by kernel_rfl
theorem q0_nopoha : okQ 0 .none .pops .has = true := by kernel_rfl
theorem q2_nopopu : okQ 2 .none .pops .puts = true := by kernel_rfl
theorem q1_nopupo : okQ 1 .none .puts .pops = true := by kernel_rfl
theorem q0_hanoha : okQ 0 .has .none .has = true := by kernel_rfl
theorem q2_hanopu : okQ 2 .has .none .puts = true := by kernel_rfl
theorem q1_hahapo : okQ 1 .has .has .pops = true := by kernel_rfl
theorem q0_hapoha : okQ 0 .has .pops .has = true := by kernel_rfl
theorem q2_hapopu : okQ 2 .has .pops .puts = true := by kernel_rfl
theorem q1_hapupo : okQ 1 .has .puts .pops = true := by kernel_rfl
theorem q0_ponoha : okQ 0 .pops .none .has = true := by kernel_rfl
theorem q2_ponopu : okQ 2 .pops .none .puts = true := by kernel_rfl
theorem q1_pohapo : okQ 1 .pops .has .pops = true := by kernel_rfl
theorem q0_popoha : okQ 0 .pops .pops .has = true := by kernel_rfl
theorem q2_popopu : okQ 2 .pops .pops .puts = true := by kernel_rfl
theorem q1_popupo : okQ 1 .pops .puts .pops = true := by kernel_rfl
theorem q0_punoha : okQ 0 .puts .none .has = true := by kernel_rfl
theorem q2_punopu : okQ 2 .puts .none .puts = true := by kernel_rfl
theorem q1_puhapo : okQ 1 .puts .has .pops = true := by kernel_rfl
theorem q0_pupoha : okQ 0 .puts .pops .has = true := by kernel_rfl
theorem q2_pupopu : okQ 2 .puts .pops .puts = true := by kernel_rfl
theorem q1_pupupo : okQ 1 .puts .puts .pops = true := by kernel_rfl
end Go.Proofs.Ytalkfdkcimfmpaa
