/- what is looked at, image by image, part 2. -/
import Derived.Test.YtojpmbkbeoolcaaQ
namespace Go.Proofs.Ytojpmbkbeoolcaa
open Go.Sx Go
set_option maxRecDepth 100000
theorem ly14 : (((cfgs.drop 126).take 9).all fun xs => runL xs) = true := by kernel_rfl
theorem ly15 : (((cfgs.drop 135).take 9).all fun xs => runL xs) = true := by kernel_rfl
theorem ly16 : (((cfgs.drop 144).take 9).all fun xs => runL xs) = true := by kernel_rfl
theorem ly17 : (((cfgs.drop 153).take 9).all fun xs => runL xs) = true := by kernel_rfl
theorem ly18 : (((cfgs.drop 162).take 9).all fun xs => runL xs) = true := by kernel_rfl
theorem ly19 : (((cfgs.drop 171).take 9).all fun xs => runL xs) = true := by kernel_rfl
theorem ly20 : (((cfgs.drop 180).take 9).all fun xs => runL xs) = true := by kernel_rfl
theorem ly21 : (((cfgs.drop 189).take 9).all fun xs => runL xs) = true := by kernel_rfl
theorem ly22 : (((cfgs.drop 198).take 9).all fun xs => runL xs) = true := by kernel_rfl
theorem ly23 : (((cfgs.drop 207).take 9).all fun xs => runL xs) = true := by kernel_rfl
theorem ly24 : (((cfgs.drop 216).take 9).all fun xs => runL xs) = true := by kernel_rfl
theorem ly25 : (((cfgs.drop 225).take 9).all fun xs => runL xs) = true := by kernel_rfl
theorem ly26 : (((cfgs.drop 234).take 9).all fun xs => runL xs) = true := by kernel_rfl
end Go.Proofs.Ytojpmbkbeoolcaa
