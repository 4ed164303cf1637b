/- HelpDone: runs, 6. -/
import Derived.Test.YtdchpckikclmlaaND
namespace Go.Proofs.Ytdchpckikclmlaa
open Go.Sx Go
set_option maxRecDepth 100000
theorem nd00011_000 : okD [0, 0, 0, 1, 1] false false false = true := by kernel_rfl
theorem nd01001_000 : okD [0, 1, 0, 0, 1] false false false = true := by kernel_rfl
theorem nd01111_000 : okD [0, 1, 1, 1, 1] false false false = true := by kernel_rfl
theorem nd10101_000 : okD [1, 0, 1, 0, 1] false false false = true := by kernel_rfl
theorem nd11011_000 : okD [1, 1, 0, 1, 1] false false false = true := by kernel_rfl
theorem nd00001_100 : okD [0, 0, 0, 0, 1] true false false = true := by kernel_rfl
theorem nd00111_100 : okD [0, 0, 1, 1, 1] true false false = true := by kernel_rfl
theorem nd01101_100 : okD [0, 1, 1, 0, 1] true false false = true := by kernel_rfl
theorem nd10011_100 : okD [1, 0, 0, 1, 1] true false false = true := by kernel_rfl
theorem nd11001_100 : okD [1, 1, 0, 0, 1] true false false = true := by kernel_rfl
theorem nd11111_100 : okD [1, 1, 1, 1, 1] true false false = true := by kernel_rfl
theorem nd0101_000 : okD [0, 1, 0, 1] false false false = true := by kernel_rfl
theorem nd1011_000 : okD [1, 0, 1, 1] false false false = true := by kernel_rfl
theorem nd0001_100 : okD [0, 0, 0, 1] true false false = true := by kernel_rfl
theorem nd0111_100 : okD [0, 1, 1, 1] true false false = true := by kernel_rfl
theorem nd1101_100 : okD [1, 1, 0, 1] true false false = true := by kernel_rfl
theorem nd011_000 : okD [0, 1, 1] false false false = true := by kernel_rfl
theorem nd001_100 : okD [0, 0, 1] true false false = true := by kernel_rfl
theorem nd111_100 : okD [1, 1, 1] true false false = true := by kernel_rfl
theorem nd01_100 : okD [0, 1] true false false = true := by kernel_rfl
theorem nd1_100 : okD [1] true false false = true := by kernel_rfl
end Go.Proofs.Ytdchpckikclmlaa
