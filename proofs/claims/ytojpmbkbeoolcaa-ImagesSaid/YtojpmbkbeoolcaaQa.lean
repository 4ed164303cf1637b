/- what is looked at, image by image, part 1. -/
import Derived.Test.YtojpmbkbeoolcaaQ
namespace Go.Proofs.Ytojpmbkbeoolcaa
open Go.Sx Go
set_option maxRecDepth 100000
theorem ly0 : (((cfgs.drop 0).take 9).all fun xs => runL xs) = true := by kernel_rfl
theorem ly1 : (((cfgs.drop 9).take 9).all fun xs => runL xs) = true := by kernel_rfl
theorem ly2 : (((cfgs.drop 18).take 9).all fun xs => runL xs) = true := by kernel_rfl
theorem ly3 : (((cfgs.drop 27).take 9).all fun xs => runL xs) = true := by kernel_rfl
theorem ly4 : (((cfgs.drop 36).take 9).all fun xs => runL xs) = true := by kernel_rfl
theorem ly5 : (((cfgs.drop 45).take 9).all fun xs => runL xs) = true := by kernel_rfl
theorem ly6 : (((cfgs.drop 54).take 9).all fun xs => runL xs) = true := by kernel_rfl
theorem ly7 : (((cfgs.drop 63).take 9).all fun xs => runL xs) = true := by kernel_rfl
theorem ly8 : (((cfgs.drop 72).take 9).all fun xs => runL xs) = true := by kernel_rfl
theorem ly9 : (((cfgs.drop 81).take 9).all fun xs => runL xs) = true := by kernel_rfl
theorem ly10 : (((cfgs.drop 90).take 9).all fun xs => runL xs) = true := by kernel_rfl
theorem ly11 : (((cfgs.drop 99).take 9).all fun xs => runL xs) = true := by kernel_rfl
theorem ly12 : (((cfgs.drop 108).take 9).all fun xs => runL xs) = true := by kernel_rfl
theorem ly13 : (((cfgs.drop 117).take 9).all fun xs => runL xs) = true := by kernel_rfl
end Go.Proofs.Ytojpmbkbeoolcaa
