/- FreeLast: rounds, part 1. -/
import Derived.Test.YtalkfdkcimfmpaaM
namespace Go.Proofs.Ytalkfdkcimfmpaa
open Go.Sx Go
set_option maxRecDepth 100000
theorem m0p : okL [headM 0] (headM 0) [bitF 0] = true := by kernel_rfl
theorem m0u3 : okL [headM 14] (headM 0) [bitF 1, kL 12 3] = true := by kernel_rfl
theorem m0u7 : okL [headM 14] (headM 0) [bitF 1, kL 12 7] = true := by kernel_rfl
theorem m0u11 : okL [headM 14] (headM 0) [bitF 1, kL 12 11] = true := by kernel_rfl
theorem m1u2 : okL [headM 2] (headM 1) [bitF 1, kL 11 2] = true := by kernel_rfl
theorem m1u6 : okL [headM 2] (headM 1) [bitF 1, kL 11 6] = true := by kernel_rfl
theorem m1u10 : okL [headM 2] (headM 1) [bitF 1, kL 11 10] = true := by kernel_rfl
theorem m2u2 : okL [headM 3] (headM 2) [bitF 1, kL 10 2] = true := by kernel_rfl
theorem m2u6 : okL [headM 3] (headM 2) [bitF 1, kL 10 6] = true := by kernel_rfl
theorem m3p : okL [headM 2] (headM 3) [bitF 0] = true := by kernel_rfl
theorem m3u3 : okL [headM 4] (headM 3) [bitF 1, kL 9 3] = true := by kernel_rfl
theorem m3u7 : okL [headM 4] (headM 3) [bitF 1, kL 9 7] = true := by kernel_rfl
theorem m4u1 : okL [headM 5] (headM 4) [bitF 1, kL 8 1] = true := by kernel_rfl
theorem m4u5 : okL [headM 5] (headM 4) [bitF 1, kL 8 5] = true := by kernel_rfl
theorem m5u0 : okL [headM 6] (headM 5) [bitF 1, kL 7 0] = true := by kernel_rfl
theorem m5u4 : okL [headM 6] (headM 5) [bitF 1, kL 7 4] = true := by kernel_rfl
theorem m6u0 : okL [headM 7] (headM 6) [bitF 1, kL 6 0] = true := by kernel_rfl
theorem m6u4 : okL [headM 7] (headM 6) [bitF 1, kL 6 4] = true := by kernel_rfl
theorem m7u1 : okL [headM 8] (headM 7) [bitF 1, kL 5 1] = true := by kernel_rfl
theorem m8p : okL [headM 7] (headM 8) [bitF 0] = true := by kernel_rfl
theorem m8u3 : okL [headM 9] (headM 8) [bitF 1, kL 4 3] = true := by kernel_rfl
theorem m9u2 : okL [headM 10] (headM 9) [bitF 1, kL 3 2] = true := by kernel_rfl
theorem m11p : okL [headM 10] (headM 11) [bitF 0] = true := by kernel_rfl
theorem m14p : okL [headM 0] (headM 14) [bitF 0] = true := by kernel_rfl
theorem m14u3 : okL [headM 2] (headM 14) [bitF 1, kL 11 3] = true := by kernel_rfl
theorem m14u7 : okL [headM 2] (headM 14) [bitF 1, kL 11 7] = true := by kernel_rfl
end Go.Proofs.Ytalkfdkcimfmpaa
