/- ModelKeys, by what is asked at last. -/
import Derived.Test.YtpgnpdejefpdbaaW
namespace Go.Proofs.Ytpgnpdejefpdbaa
open Go.Sx Go
set_option maxRecDepth 100000
theorem ft_1_0 : okFT 1 0 = true := by kernel_rfl
theorem ft_1_1 : okFT 1 1 = true := by kernel_rfl
theorem ft_1_2 : okFT 1 2 = true := by kernel_rfl
theorem ft_1_3 : okFT 1 3 = true := by kernel_rfl
theorem ft_1_4 : okFT 1 4 = true := by kernel_rfl
end Go.Proofs.Ytpgnpdejefpdbaa
