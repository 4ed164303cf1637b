/- a round of SkipWalks, by its operation. -/
import Derived.Test.YtdngeccbmalbnaaW
namespace Go.Proofs.Ytdngeccbmalbnaa
open Go.Sx Go
set_option maxRecDepth 100000
theorem w_0_p0x0_2 : wOk ([(eK, 0, 0), (eP, 0, 0), (eX, 0, 0)], [.not (.var 20), .var 24]) = true := by kernel_rfl
theorem w_0_p1_2 : wOk ([(eK, 0, 0), (eP, 1, 1)], [.not (.var 20), .var 24]) = true := by kernel_rfl
theorem w_1_p0x1_2 : wOk ([(eK, 1, 1), (eP, 0, 0), (eX, 1, 1)], [.not (.var 21), .var 24]) = true := by kernel_rfl
theorem w_2_p0x0_2 : wOk ([(eK, 2, 2), (eP, 0, 0), (eX, 0, 0)], [.not (.var 22), .var 24]) = true := by kernel_rfl
theorem w_2_p1_2 : wOk ([(eK, 2, 2), (eP, 1, 1)], [.not (.var 22), .var 24]) = true := by kernel_rfl
theorem w_3_p0x1_2 : wOk ([(eK, 3, 3), (eP, 0, 0), (eX, 1, 1)], [.not (.var 23), .var 24]) = true := by kernel_rfl
theorem w_4_p0x0_2 : wOk ([(eK, 4, 4), (eP, 0, 0), (eX, 0, 0)], [.not (.var 24), .var 23]) = true := by kernel_rfl
theorem w_4_p1_2 : wOk ([(eK, 4, 4), (eP, 1, 1)], [.not (.var 24), .var 23]) = true := by kernel_rfl
end Go.Proofs.Ytdngeccbmalbnaa
