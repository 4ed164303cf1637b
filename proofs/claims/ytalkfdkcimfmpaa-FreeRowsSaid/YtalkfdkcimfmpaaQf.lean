/- FreeRows: rounds, part 6. -/
import Derived.Test.YtalkfdkcimfmpaaQ
namespace Go.Proofs.Ytalkfdkcimfmpaa
open Go.Sx Go
set_option maxRecDepth 100000
theorem q2_nonoha : okQ 2 .none .none .has = true := by kernel_rfl
theorem q1_nohano : okQ 1 .none .has .none = true := by kernel_rfl
theorem q0_nohapu : okQ 0 .none .has .puts = true := by kernel_rfl
theorem q2_nopoha : okQ 2 .none .pops .has = true := by kernel_rfl
theorem q1_nopuno : okQ 1 .none .puts .none = true := by kernel_rfl
theorem q0_nopupu : okQ 0 .none .puts .puts = true := by kernel_rfl
theorem q2_hanoha : okQ 2 .has .none .has = true := by kernel_rfl
theorem q1_hahano : okQ 1 .has .has .none = true := by kernel_rfl
theorem q0_hahapu : okQ 0 .has .has .puts = true := by kernel_rfl
theorem q2_hapoha : okQ 2 .has .pops .has = true := by kernel_rfl
theorem q1_hapuno : okQ 1 .has .puts .none = true := by kernel_rfl
theorem q0_hapupu : okQ 0 .has .puts .puts = true := by kernel_rfl
theorem q2_ponoha : okQ 2 .pops .none .has = true := by kernel_rfl
theorem q1_pohano : okQ 1 .pops .has .none = true := by kernel_rfl
theorem q0_pohapu : okQ 0 .pops .has .puts = true := by kernel_rfl
theorem q2_popoha : okQ 2 .pops .pops .has = true := by kernel_rfl
theorem q1_popuno : okQ 1 .pops .puts .none = true := by kernel_rfl
theorem q0_popupu : okQ 0 .pops .puts .puts = true := by kernel_rfl
theorem q2_punoha : okQ 2 .puts .none .has = true := by kernel_rfl
theorem q1_puhano : okQ 1 .puts .has .none = true := by kernel_rfl
theorem q0_puhapu : okQ 0 .puts .has .puts = true := by kernel_rfl
theorem q2_pupoha : okQ 2 .puts .pops .has = true := by kernel_rfl
theorem q1_pupuno : okQ 1 .puts .puts .none = true := by kernel_rfl
theorem q0_pupupu : okQ 0 .puts .puts .puts = true := by kernel_rfl
end Go.Proofs.Ytalkfdkcimfmpaa
