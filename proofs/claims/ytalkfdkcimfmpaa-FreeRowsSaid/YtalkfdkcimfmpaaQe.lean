/- FreeRows: rounds, part 5. -/
import Derived.Test.YtalkfdkcimfmpaaQ
namespace Go.Proofs.Ytalkfdkcimfmpaa
open Go.Sx Go
set_option maxRecDepth 100000
theorem q1_nonoha : okQ 1 .none .none .has = true := by kernel_rfl
theorem q0_nohano : okQ 0 .none .has .none = true := by kernel_rfl
theorem q2_nohapo : okQ 2 .none .has .pops = true := by kernel_rfl
theorem q1_nopoha : okQ 1 .none .pops .has = true := by kernel_rfl
theorem q0_nopuno : okQ 0 .none .puts .none = true := by kernel_rfl
theorem q2_nopupo : okQ 2 .none .puts .pops = true := by kernel_rfl
theorem q1_hanoha : okQ 1 .has .none .has = true := by kernel_rfl
theorem q0_hahano : okQ 0 .has .has .none = true := by kernel_rfl
theorem q2_hahapo : okQ 2 .has .has .pops = true := by kernel_rfl
theorem q1_hapoha : okQ 1 .has .pops .has = true := by kernel_rfl
theorem q0_hapuno : okQ 0 .has .puts .none = true := by kernel_rfl
theorem q2_hapupo : okQ 2 .has .puts .pops = true := by kernel_rfl
theorem q1_ponoha : okQ 1 .pops .none .has = true := by kernel_rfl
theorem q0_pohano : okQ 0 .pops .has .none = true := by kernel_rfl
theorem q2_pohapo : okQ 2 .pops .has .pops = true := by kernel_rfl
theorem q1_popoha : okQ 1 .pops .pops .has = true := by kernel_rfl
theorem q0_popuno : okQ 0 .pops .puts .none = true := by kernel_rfl
theorem q2_popupo : okQ 2 .pops .puts .pops = true := by kernel_rfl
theorem q1_punoha : okQ 1 .puts .none .has = true := by kernel_rfl
theorem q0_puhano : okQ 0 .puts .has .none = true := by kernel_rfl
theorem q2_puhapo : okQ 2 .puts .has .pops = true := by kernel_rfl
theorem q1_pupoha : okQ 1 .puts .pops .has = true := by kernel_rfl
theorem q0_pupuno : okQ 0 .puts .puts .none = true := by kernel_rfl
theorem q2_pupupo : okQ 2 .puts .puts .pops = true := by kernel_rfl
end Go.Proofs.Ytalkfdkcimfmpaa
