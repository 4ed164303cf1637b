/- ModelKeys, by what is asked at last. -/
import Derived.Test.YtpgnpdejefpdbaaW
namespace Go.Proofs.Ytpgnpdejefpdbaa
open Go.Sx Go
set_option maxRecDepth 100000
theorem ft_2_0 : okFT 2 0 = true := by kernel_rfl
theorem ft_2_1 : okFT 2 1 = true := by kernel_rfl
theorem ft_2_2 : okFT 2 2 = true := by kernel_rfl
theorem ft_2_3 : okFT 2 3 = true := by kernel_rfl
theorem ft_2_4 : okFT 2 4 = true := by kernel_rfl
end Go.Proofs.Ytpgnpdejefpdbaa
