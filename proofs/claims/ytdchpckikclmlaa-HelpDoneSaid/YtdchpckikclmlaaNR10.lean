/- HelpDone: runs, 10. -/
import Derived.Test.YtdchpckikclmlaaND
namespace Go.Proofs.Ytdchpckikclmlaa
open Go.Sx Go
set_option maxRecDepth 100000
theorem nd00101_000 : okD [0, 0, 1, 0, 1] false false false = true := by kernel_rfl
theorem nd01011_000 : okD [0, 1, 0, 1, 1] false false false = true := by kernel_rfl
theorem nd10001_000 : okD [1, 0, 0, 0, 1] false false false = true := by kernel_rfl
theorem nd10111_000 : okD [1, 0, 1, 1, 1] false false false = true := by kernel_rfl
theorem nd11101_000 : okD [1, 1, 1, 0, 1] false false false = true := by kernel_rfl
theorem nd00011_100 : okD [0, 0, 0, 1, 1] true false false = true := by kernel_rfl
theorem nd01001_100 : okD [0, 1, 0, 0, 1] true false false = true := by kernel_rfl
theorem nd01111_100 : okD [0, 1, 1, 1, 1] true false false = true := by kernel_rfl
theorem nd10101_100 : okD [1, 0, 1, 0, 1] true false false = true := by kernel_rfl
theorem nd11011_100 : okD [1, 1, 0, 1, 1] true false false = true := by kernel_rfl
theorem nd0001_000 : okD [0, 0, 0, 1] false false false = true := by kernel_rfl
theorem nd0111_000 : okD [0, 1, 1, 1] false false false = true := by kernel_rfl
theorem nd1101_000 : okD [1, 1, 0, 1] false false false = true := by kernel_rfl
theorem nd0011_100 : okD [0, 0, 1, 1] true false false = true := by kernel_rfl
theorem nd1001_100 : okD [1, 0, 0, 1] true false false = true := by kernel_rfl
theorem nd1111_100 : okD [1, 1, 1, 1] true false false = true := by kernel_rfl
theorem nd101_000 : okD [1, 0, 1] false false false = true := by kernel_rfl
theorem nd011_100 : okD [0, 1, 1] true false false = true := by kernel_rfl
theorem nd01_000 : okD [0, 1] false false false = true := by kernel_rfl
theorem nd11_100 : okD [1, 1] true false false = true := by kernel_rfl
theorem nd_010 : okD [] false true false = true := by kernel_rfl
end Go.Proofs.Ytdchpckikclmlaa
