/- the document's way: each image. -/
import Derived.Test.YtojpmbkbeoolcaaGJ
namespace Go.Proofs.Ytojpmbkbeoolcaa
open Go.Sx Go
set_option maxRecDepth 100000
theorem i9_0 : (((cfgs.drop 0).take 9).all fun xs => runI9 xs) = true := by kernel_rfl
theorem i9_1 : (((cfgs.drop 9).take 9).all fun xs => runI9 xs) = true := by kernel_rfl
theorem i9_2 : (((cfgs.drop 18).take 9).all fun xs => runI9 xs) = true := by kernel_rfl
theorem i9_3 : (((cfgs.drop 27).take 9).all fun xs => runI9 xs) = true := by kernel_rfl
theorem i9_4 : (((cfgs.drop 36).take 9).all fun xs => runI9 xs) = true := by kernel_rfl
theorem i9_5 : (((cfgs.drop 45).take 9).all fun xs => runI9 xs) = true := by kernel_rfl
theorem i9_6 : (((cfgs.drop 54).take 9).all fun xs => runI9 xs) = true := by kernel_rfl
theorem i9_7 : (((cfgs.drop 63).take 9).all fun xs => runI9 xs) = true := by kernel_rfl
theorem i9_8 : (((cfgs.drop 72).take 9).all fun xs => runI9 xs) = true := by kernel_rfl
theorem i9_9 : (((cfgs.drop 81).take 9).all fun xs => runI9 xs) = true := by kernel_rfl
theorem i9_10 : (((cfgs.drop 90).take 9).all fun xs => runI9 xs) = true := by kernel_rfl
theorem i9_11 : (((cfgs.drop 99).take 9).all fun xs => runI9 xs) = true := by kernel_rfl
theorem i9_12 : (((cfgs.drop 108).take 9).all fun xs => runI9 xs) = true := by kernel_rfl
theorem i9_13 : (((cfgs.drop 117).take 9).all fun xs => runI9 xs) = true := by kernel_rfl
theorem i9_14 : (((cfgs.drop 126).take 9).all fun xs => runI9 xs) = true := by kernel_rfl
theorem i9_15 : (((cfgs.drop 135).take 9).all fun xs => runI9 xs) = true := by kernel_rfl
theorem i9_16 : (((cfgs.drop 144).take 9).all fun xs => runI9 xs) = true := by kernel_rfl
theorem i9_17 : (((cfgs.drop 153).take 9).all fun xs => runI9 xs) = true := by kernel_rfl
theorem i9_18 : (((cfgs.drop 162).take 9).all fun xs => runI9 xs) = true := by kernel_rfl
theorem i9_19 : (((cfgs.drop 171).take 9).all fun xs => runI9 xs) = true := by kernel_rfl
theorem i9_20 : (((cfgs.drop 180).take 9).all fun xs => runI9 xs) = true := by kernel_rfl
theorem i9_21 : (((cfgs.drop 189).take 9).all fun xs => runI9 xs) = true := by kernel_rfl
theorem i9_22 : (((cfgs.drop 198).take 9).all fun xs => runI9 xs) = true := by kernel_rfl
theorem i9_23 : (((cfgs.drop 207).take 9).all fun xs => runI9 xs) = true := by kernel_rfl
theorem i9_24 : (((cfgs.drop 216).take 9).all fun xs => runI9 xs) = true := by kernel_rfl
theorem i9_25 : (((cfgs.drop 225).take 9).all fun xs => runI9 xs) = true := by kernel_rfl
theorem i9_26 : (((cfgs.drop 234).take 9).all fun xs => runI9 xs) = true := by kernel_rfl
end Go.Proofs.Ytojpmbkbeoolcaa
