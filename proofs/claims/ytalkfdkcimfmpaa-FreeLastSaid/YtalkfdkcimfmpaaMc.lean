/- FreeLast: rounds, part 3. -/
import Derived.Test.YtalkfdkcimfmpaaM
namespace Go.Proofs.Ytalkfdkcimfmpaa
open Go.Sx Go
set_option maxRecDepth 100000
theorem m0u1 : okL [headM 14] (headM 0) [bitF 1, kL 12 1] = true := by kernel_rfl
theorem m0u5 : okL [headM 14] (headM 0) [bitF 1, kL 12 5] = true := by kernel_rfl
theorem m0u9 : okL [headM 14] (headM 0) [bitF 1, kL 12 9] = true := by kernel_rfl
theorem m1u0 : okL [headM 2] (headM 1) [bitF 1, kL 11 0] = true := by kernel_rfl
theorem m1u4 : okL [headM 2] (headM 1) [bitF 1, kL 11 4] = true := by kernel_rfl
theorem m1u8 : okL [headM 2] (headM 1) [bitF 1, kL 11 8] = true := by kernel_rfl
theorem m2u0 : okL [headM 3] (headM 2) [bitF 1, kL 10 0] = true := by kernel_rfl
theorem m2u4 : okL [headM 3] (headM 2) [bitF 1, kL 10 4] = true := by kernel_rfl
theorem m2u8 : okL [headM 3] (headM 2) [bitF 1, kL 10 8] = true := by kernel_rfl
theorem m3u1 : okL [headM 4] (headM 3) [bitF 1, kL 9 1] = true := by kernel_rfl
theorem m3u5 : okL [headM 4] (headM 3) [bitF 1, kL 9 5] = true := by kernel_rfl
theorem m4p : okL [headM 3] (headM 4) [bitF 0] = true := by kernel_rfl
theorem m4u3 : okL [headM 5] (headM 4) [bitF 1, kL 8 3] = true := by kernel_rfl
theorem m4u7 : okL [headM 5] (headM 4) [bitF 1, kL 8 7] = true := by kernel_rfl
theorem m5u2 : okL [headM 6] (headM 5) [bitF 1, kL 7 2] = true := by kernel_rfl
theorem m5u6 : okL [headM 6] (headM 5) [bitF 1, kL 7 6] = true := by kernel_rfl
theorem m6u2 : okL [headM 7] (headM 6) [bitF 1, kL 6 2] = true := by kernel_rfl
theorem m7p : okL [headM 6] (headM 7) [bitF 0] = true := by kernel_rfl
theorem m7u3 : okL [headM 8] (headM 7) [bitF 1, kL 5 3] = true := by kernel_rfl
theorem m8u1 : okL [headM 9] (headM 8) [bitF 1, kL 4 1] = true := by kernel_rfl
theorem m9u0 : okL [headM 10] (headM 9) [bitF 1, kL 3 0] = true := by kernel_rfl
theorem m10u0 : okL [headM 11] (headM 10) [bitF 1, kL 2 0] = true := by kernel_rfl
theorem m12p : okL [headM 11] (headM 12) [] = true := by kernel_rfl
theorem m14u1 : okL [headM 2] (headM 14) [bitF 1, kL 11 1] = true := by kernel_rfl
theorem m14u5 : okL [headM 2] (headM 14) [bitF 1, kL 11 5] = true := by kernel_rfl
theorem m14u9 : okL [headM 2] (headM 14) [bitF 1, kL 11 9] = true := by kernel_rfl
end Go.Proofs.Ytalkfdkcimfmpaa
