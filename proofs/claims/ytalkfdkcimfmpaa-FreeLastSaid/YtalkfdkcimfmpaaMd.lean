/- FreeLast: rounds, part 4. -/
import Derived.Test.YtalkfdkcimfmpaaM
namespace Go.Proofs.Ytalkfdkcimfmpaa
open Go.Sx Go
set_option maxRecDepth 100000
theorem m0u2 : okL [headM 14] (headM 0) [bitF 1, kL 12 2] = true := by kernel_rfl
theorem m0u6 : okL [headM 14] (headM 0) [bitF 1, kL 12 6] = true := by kernel_rfl
theorem m0u10 : okL [headM 14] (headM 0) [bitF 1, kL 12 10] = true := by kernel_rfl
theorem m1u1 : okL [headM 2] (headM 1) [bitF 1, kL 11 1] = true := by kernel_rfl
theorem m1u5 : okL [headM 2] (headM 1) [bitF 1, kL 11 5] = true := by kernel_rfl
theorem m1u9 : okL [headM 2] (headM 1) [bitF 1, kL 11 9] = true := by kernel_rfl
theorem m2u1 : okL [headM 3] (headM 2) [bitF 1, kL 10 1] = true := by kernel_rfl
theorem m2u5 : okL [headM 3] (headM 2) [bitF 1, kL 10 5] = true := by kernel_rfl
theorem m2u9 : okL [headM 3] (headM 2) [bitF 1, kL 10 9] = true := by kernel_rfl
theorem m3u2 : okL [headM 4] (headM 3) [bitF 1, kL 9 2] = true := by kernel_rfl
theorem m3u6 : okL [headM 4] (headM 3) [bitF 1, kL 9 6] = true := by kernel_rfl
theorem m4u0 : okL [headM 5] (headM 4) [bitF 1, kL 8 0] = true := by kernel_rfl
theorem m4u4 : okL [headM 5] (headM 4) [bitF 1, kL 8 4] = true := by kernel_rfl
theorem m5p : okL [headM 4] (headM 5) [bitF 0] = true := by kernel_rfl
theorem m5u3 : okL [headM 6] (headM 5) [bitF 1, kL 7 3] = true := by kernel_rfl
theorem m6p : okL [headM 5] (headM 6) [bitF 0] = true := by kernel_rfl
theorem m6u3 : okL [headM 7] (headM 6) [bitF 1, kL 6 3] = true := by kernel_rfl
theorem m7u0 : okL [headM 8] (headM 7) [bitF 1, kL 5 0] = true := by kernel_rfl
theorem m7u4 : okL [headM 8] (headM 7) [bitF 1, kL 5 4] = true := by kernel_rfl
theorem m8u2 : okL [headM 9] (headM 8) [bitF 1, kL 4 2] = true := by kernel_rfl
theorem m9u1 : okL [headM 10] (headM 9) [bitF 1, kL 3 1] = true := by kernel_rfl
theorem m10u1 : okL [headM 11] (headM 10) [bitF 1, kL 2 1] = true := by kernel_rfl
theorem m13p : okL [headM 11] (headM 13) [] = true := by kernel_rfl
theorem m14u2 : okL [headM 2] (headM 14) [bitF 1, kL 11 2] = true := by kernel_rfl
theorem m14u6 : okL [headM 2] (headM 14) [bitF 1, kL 11 6] = true := by kernel_rfl
theorem m14u10 : okL [headM 2] (headM 14) [bitF 1, kL 11 10] = true := by kernel_rfl
end Go.Proofs.Ytalkfdkcimfmpaa
