/- ModelKeys, by what is asked at last. -/
import Derived.Test.YtpgnpdejefpdbaaW
namespace Go.Proofs.Ytpgnpdejefpdbaa
open Go.Sx Go
set_option maxRecDepth 100000
theorem ft_0_0 : okFT 0 0 = true := by kernel_rfl
theorem ft_0_1 : okFT 0 1 = true := by kernel_rfl
theorem ft_0_2 : okFT 0 2 = true := by kernel_rfl
theorem ft_0_3 : okFT 0 3 = true := by kernel_rfl
theorem ft_0_4 : okFT 0 4 = true := by kernel_rfl
theorem key_nil : okKeyN [] = true := by kernel_rfl
end Go.Proofs.Ytpgnpdejefpdbaa
