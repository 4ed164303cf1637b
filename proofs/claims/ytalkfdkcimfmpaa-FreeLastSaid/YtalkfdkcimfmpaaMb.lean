/- FreeLast: rounds, part 2. -/
import Derived.Test.YtalkfdkcimfmpaaM
namespace Go.Proofs.Ytalkfdkcimfmpaa
open Go.Sx Go
set_option maxRecDepth 100000
theorem m0u0 : okL [headM 14] (headM 0) [bitF 1, kL 12 0] = true := by kernel_rfl
theorem m0u4 : okL [headM 14] (headM 0) [bitF 1, kL 12 4] = true := by kernel_rfl
theorem m0u8 : okL [headM 14] (headM 0) [bitF 1, kL 12 8] = true := by kernel_rfl
theorem m1p : okL [headM 0] (headM 1) [bitF 0] = true := by kernel_rfl
theorem m1u3 : okL [headM 2] (headM 1) [bitF 1, kL 11 3] = true := by kernel_rfl
theorem m1u7 : okL [headM 2] (headM 1) [bitF 1, kL 11 7] = true := by kernel_rfl
theorem m2p : okL [headM 1] (headM 2) [bitF 0] = true := by kernel_rfl
theorem m2u3 : okL [headM 3] (headM 2) [bitF 1, kL 10 3] = true := by kernel_rfl
theorem m2u7 : okL [headM 3] (headM 2) [bitF 1, kL 10 7] = true := by kernel_rfl
theorem m3u0 : okL [headM 4] (headM 3) [bitF 1, kL 9 0] = true := by kernel_rfl
theorem m3u4 : okL [headM 4] (headM 3) [bitF 1, kL 9 4] = true := by kernel_rfl
theorem m3u8 : okL [headM 4] (headM 3) [bitF 1, kL 9 8] = true := by kernel_rfl
theorem m4u2 : okL [headM 5] (headM 4) [bitF 1, kL 8 2] = true := by kernel_rfl
theorem m4u6 : okL [headM 5] (headM 4) [bitF 1, kL 8 6] = true := by kernel_rfl
theorem m5u1 : okL [headM 6] (headM 5) [bitF 1, kL 7 1] = true := by kernel_rfl
theorem m5u5 : okL [headM 6] (headM 5) [bitF 1, kL 7 5] = true := by kernel_rfl
theorem m6u1 : okL [headM 7] (headM 6) [bitF 1, kL 6 1] = true := by kernel_rfl
theorem m6u5 : okL [headM 7] (headM 6) [bitF 1, kL 6 5] = true := by kernel_rfl
theorem m7u2 : okL [headM 8] (headM 7) [bitF 1, kL 5 2] = true := by kernel_rfl
theorem m8u0 : okL [headM 9] (headM 8) [bitF 1, kL 4 0] = true := by kernel_rfl
theorem m9p : okL [headM 8] (headM 9) [bitF 0] = true := by kernel_rfl
theorem m10p : okL [headM 9] (headM 10) [bitF 0] = true := by kernel_rfl
theorem m11u0 : okL [headM 12] (headM 11) [bitF 1, kL 1 0] = true := by kernel_rfl
theorem m14u0 : okL [headM 2] (headM 14) [bitF 1, kL 11 0] = true := by kernel_rfl
theorem m14u4 : okL [headM 2] (headM 14) [bitF 1, kL 11 4] = true := by kernel_rfl
theorem m14u8 : okL [headM 2] (headM 14) [bitF 1, kL 11 8] = true := by kernel_rfl
end Go.Proofs.Ytalkfdkcimfmpaa
