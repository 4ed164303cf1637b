/- FreeRows: rounds, part 7. -/
import Derived.Test.YtalkfdkcimfmpaaQ
namespace Go.Proofs.Ytalkfdkcimfmpaa
open Go.Sx Go
set_option maxRecDepth 100000
theorem q0_nonopo : okQ 0 .none .none .pops = true := by kernel_rfl
theorem q2_nohano : okQ 2 .none .has .none = true := by kernel_rfl
theorem q1_nohapu : okQ 1 .none .has .puts = true := by kernel_rfl
theorem q0_nopopo : okQ 0 .none .pops .pops = true := by kernel_rfl
theorem q2_nopuno : okQ 2 .none .puts .none = true := by kernel_rfl
theorem q1_nopupu : okQ 1 .none .puts .puts = true := by kernel_rfl
theorem q0_hanopo : okQ 0 .has .none .pops = true := by kernel_rfl
theorem q2_hahano : okQ 2 .has .has .none = true := by kernel_rfl
theorem q1_hahapu : okQ 1 .has .has .puts = true := by kernel_rfl
theorem q0_hapopo : okQ 0 .has .pops .pops = true := by kernel_rfl
theorem q2_hapuno : okQ 2 .has .puts .none = true := by kernel_rfl
theorem q1_hapupu : okQ 1 .has .puts .puts = true := by kernel_rfl
theorem q0_ponopo : okQ 0 .pops .none .pops = true := by kernel_rfl
theorem q2_pohano : okQ 2 .pops .has .none = true := by kernel_rfl
theorem q1_pohapu : okQ 1 .pops .has .puts = true := by kernel_rfl
theorem q0_popopo : okQ 0 .pops .pops .pops = true := by kernel_rfl
theorem q2_popuno : okQ 2 .pops .puts .none = true := by kernel_rfl
theorem q1_popupu : okQ 1 .pops .puts .puts = true := by kernel_rfl
theorem q0_punopo : okQ 0 .puts .none .pops = true := by kernel_rfl
theorem q2_puhano : okQ 2 .puts .has .none = true := by kernel_rfl
theorem q1_puhapu : okQ 1 .puts .has .puts = true := by kernel_rfl
theorem q0_pupopo : okQ 0 .puts .pops .pops = true := by kernel_rfl
theorem q2_pupuno : okQ 2 .puts .puts .none = true := by kernel_rfl
theorem q1_pupupu : okQ 1 .puts .puts .puts = true := by kernel_rfl
end Go.Proofs.Ytalkfdkcimfmpaa
