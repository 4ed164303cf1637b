/- ModelKeys, by what is asked at last. -/
import Derived.Test.YtpgnpdejefpdbaaW
namespace Go.Proofs.Ytpgnpdejefpdbaa
open Go.Sx Go
set_option maxRecDepth 100000
theorem ft_4_0 : okFT 4 0 = true := by kernel_rfl
theorem ft_4_1 : okFT 4 1 = true := by kernel_rfl
theorem ft_4_2 : okFT 4 2 = true := by kernel_rfl
theorem ft_4_3 : okFT 4 3 = true := by kernel_rfl
theorem ft_4_4 : okFT 4 4 = true := by kernel_rfl
end Go.Proofs.Ytpgnpdejefpdbaa
