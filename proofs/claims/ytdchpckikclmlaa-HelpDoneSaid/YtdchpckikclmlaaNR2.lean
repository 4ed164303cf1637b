/- HelpDone: runs, 2. -/
import Derived.Test.YtdchpckikclmlaaND
namespace Go.Proofs.Ytdchpckikclmlaa
open Go.Sx Go
set_option maxRecDepth 100000
theorem nd00001_000 : okD [0, 0, 0, 0, 1] false false false = true := by kernel_rfl
theorem nd00111_000 : okD [0, 0, 1, 1, 1] false false false = true := by kernel_rfl
theorem nd01101_000 : okD [0, 1, 1, 0, 1] false false false = true := by kernel_rfl
theorem nd10011_000 : okD [1, 0, 0, 1, 1] false false false = true := by kernel_rfl
theorem nd11001_000 : okD [1, 1, 0, 0, 1] false false false = true := by kernel_rfl
theorem nd11111_000 : okD [1, 1, 1, 1, 1] false false false = true := by kernel_rfl
theorem nd00101_100 : okD [0, 0, 1, 0, 1] true false false = true := by kernel_rfl
theorem nd01011_100 : okD [0, 1, 0, 1, 1] true false false = true := by kernel_rfl
theorem nd10001_100 : okD [1, 0, 0, 0, 1] true false false = true := by kernel_rfl
theorem nd10111_100 : okD [1, 0, 1, 1, 1] true false false = true := by kernel_rfl
theorem nd11101_100 : okD [1, 1, 1, 0, 1] true false false = true := by kernel_rfl
theorem nd0011_000 : okD [0, 0, 1, 1] false false false = true := by kernel_rfl
theorem nd1001_000 : okD [1, 0, 0, 1] false false false = true := by kernel_rfl
theorem nd1111_000 : okD [1, 1, 1, 1] false false false = true := by kernel_rfl
theorem nd0101_100 : okD [0, 1, 0, 1] true false false = true := by kernel_rfl
theorem nd1011_100 : okD [1, 0, 1, 1] true false false = true := by kernel_rfl
theorem nd001_000 : okD [0, 0, 1] false false false = true := by kernel_rfl
theorem nd111_000 : okD [1, 1, 1] false false false = true := by kernel_rfl
theorem nd101_100 : okD [1, 0, 1] true false false = true := by kernel_rfl
theorem nd11_000 : okD [1, 1] false false false = true := by kernel_rfl
theorem nd1_000 : okD [1] false false false = true := by kernel_rfl
theorem nd_110 : okD [] true true false = true := by kernel_rfl
end Go.Proofs.Ytdchpckikclmlaa
