/- ModelKeys, by what is asked at last. -/
import Derived.Test.YtpgnpdejefpdbaaW
namespace Go.Proofs.Ytpgnpdejefpdbaa
open Go.Sx Go
set_option maxRecDepth 100000
theorem ft_3_0 : okFT 3 0 = true := by kernel_rfl
theorem ft_3_1 : okFT 3 1 = true := by kernel_rfl
theorem ft_3_2 : okFT 3 2 = true := by kernel_rfl
theorem ft_3_3 : okFT 3 3 = true := by kernel_rfl
theorem ft_3_4 : okFT 3 4 = true := by kernel_rfl
end Go.Proofs.Ytpgnpdejefpdbaa
