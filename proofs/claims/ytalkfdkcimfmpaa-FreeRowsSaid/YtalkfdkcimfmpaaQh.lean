/- FreeRows: rounds, part 8. -/
import Derived.Test.YtalkfdkcimfmpaaQ
namespace Go.Proofs.Ytalkfdkcimfmpaa
open Go.Sx Go
set_option maxRecDepth 100000
theorem q1_nonopo : okQ 1 .none .none .pops = true := by kernel_rfl
theorem q0_nohaha : okQ 0 .none .has .has = true := by kernel_rfl
theorem q2_nohapu : okQ 2 .none .has .puts = true := by kernel_rfl
theorem q1_nopopo : okQ 1 .none .pops .pops = true := by kernel_rfl
theorem q0_nopuha : okQ 0 .none .puts .has = true := by kernel_rfl
theorem q2_nopupu : okQ 2 .none .puts .puts = true := by kernel_rfl
theorem q1_hanopo : okQ 1 .has .none .pops = true := by kernel_rfl
theorem q0_hahaha : okQ 0 .has .has .has = true := by kernel_rfl
theorem q2_hahapu : okQ 2 .has .has .puts = true := by kernel_rfl
theorem q1_hapopo : okQ 1 .has .pops .pops = true := by kernel_rfl
theorem q0_hapuha : okQ 0 .has .puts .has = true := by kernel_rfl
theorem q2_hapupu : okQ 2 .has .puts .puts = true := by kernel_rfl
theorem q1_ponopo : okQ 1 .pops .none .pops = true := by kernel_rfl
theorem q0_pohaha : okQ 0 .pops .has .has = true := by kernel_rfl
theorem q2_pohapu : okQ 2 .pops .has .puts = true := by kernel_rfl
theorem q1_popopo : okQ 1 .pops .pops .pops = true := by kernel_rfl
theorem q0_popuha : okQ 0 .pops .puts .has = true := by kernel_rfl
theorem q2_popupu : okQ 2 .pops .puts .puts = true := by kernel_rfl
theorem q1_punopo : okQ 1 .puts .none .pops = true := by kernel_rfl
theorem q0_puhaha : okQ 0 .puts .has .has = true := by kernel_rfl
theorem q2_puhapu : okQ 2 .puts .has .puts = true := by kernel_rfl
theorem q1_pupopo : okQ 1 .puts .pops .pops = true := by kernel_rfl
theorem q0_pupuha : okQ 0 .puts .puts .has = true := by kernel_rfl
theorem q2_pupupu : okQ 2 .puts .puts .puts = true := by kernel_rfl
end Go.Proofs.Ytalkfdkcimfmpaa
