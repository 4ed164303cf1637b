/- Descs: runs, 12 10 2 3. -/
import Derived.Test.YtofmndcdcchflaaCN
namespace Go.Proofs.Ytofmndcdcchflaa
open Go.Sx Go Go.DescNum
set_option maxRecDepth 100000
theorem c12_fff : okC (manyC 12) false false false = true := by kernel_rfl
theorem c12_fft : okC (manyC 12) false false true = true := by kernel_rfl
theorem c12_ftf : okC (manyC 12) false true false = true := by kernel_rfl
theorem c12_ftt : okC (manyC 12) false true true = true := by kernel_rfl
theorem c12_tff : okC (manyC 12) true false false = true := by kernel_rfl
theorem c12_tft : okC (manyC 12) true false true = true := by kernel_rfl
theorem c12_ttf : okC (manyC 12) true true false = true := by kernel_rfl
theorem c12_ttt : okC (manyC 12) true true true = true := by kernel_rfl
theorem c12 : ∀ a b r, okC (manyC 12) a b r = true
 | false, false, false => c12_fff
 | false, false, true => c12_fft
 | false, true, false => c12_ftf
 | false, true, true => c12_ftt
 | true, false, false => c12_tff
 | true, false, true => c12_tft
 | true, true, false => c12_ttf
 | true, true, true => c12_ttt
theorem c10_fff : okC (manyC 10) false false false = true := by kernel_rfl
theorem c10_fft : okC (manyC 10) false false true = true := by kernel_rfl
theorem c10_ftf : okC (manyC 10) false true false = true := by kernel_rfl
theorem c10_ftt : okC (manyC 10) false true true = true := by kernel_rfl
theorem c10_tff : okC (manyC 10) true false false = true := by kernel_rfl
theorem c10_tft : okC (manyC 10) true false true = true := by kernel_rfl
theorem c10_ttf : okC (manyC 10) true true false = true := by kernel_rfl
theorem c10_ttt : okC (manyC 10) true true true = true := by kernel_rfl
theorem c10 : ∀ a b r, okC (manyC 10) a b r = true
 | false, false, false => c10_fff
 | false, false, true => c10_fft
 | false, true, false => c10_ftf
 | false, true, true => c10_ftt
 | true, false, false => c10_tff
 | true, false, true => c10_tft
 | true, true, false => c10_ttf
 | true, true, true => c10_ttt
theorem c2_fff : okC (manyC 2) false false false = true := by kernel_rfl
theorem c2_fft : okC (manyC 2) false false true = true := by kernel_rfl
theorem c2_ftf : okC (manyC 2) false true false = true := by kernel_rfl
theorem c2_ftt : okC (manyC 2) false true true = true := by kernel_rfl
theorem c2_tff : okC (manyC 2) true false false = true := by kernel_rfl
theorem c2_tft : okC (manyC 2) true false true = true := by kernel_rfl
theorem c2_ttf : okC (manyC 2) true true false = true := by kernel_rfl
theorem c2_ttt : okC (manyC 2) true true true = true := by kernel_rfl
theorem c2 : ∀ a b r, okC (manyC 2) a b r = true
 | false, false, false => c2_fff
 | false, false, true => c2_fft
 | false, true, false => c2_ftf
 | false, true, true => c2_ftt
 | true, false, false => c2_tff
 | true, false, true => c2_tft
 | true, true, false => c2_ttf
 | true, true, true => c2_ttt
theorem c3_fff : okC (manyC 3) false false false = true := by kernel_rfl
theorem c3_fft : okC (manyC 3) false false true = true := by kernel_rfl
theorem c3_ftf : okC (manyC 3) false true false = true := by kernel_rfl
theorem c3_ftt : okC (manyC 3) false true true = true := by kernel_rfl
theorem c3_tff : okC (manyC 3) true false false = true := by kernel_rfl
theorem c3_tft : okC (manyC 3) true false true = true := by kernel_rfl
theorem c3_ttf : okC (manyC 3) true true false = true := by kernel_rfl
theorem c3_ttt : okC (manyC 3) true true true = true := by kernel_rfl
theorem c3 : ∀ a b r, okC (manyC 3) a b r = true
 | false, false, false => c3_fff
 | false, false, true => c3_fft
 | false, true, false => c3_ftf
 | false, true, true => c3_ftt
 | true, false, false => c3_tff
 | true, false, true => c3_tft
 | true, true, false => c3_ttf
 | true, true, true => c3_ttt
end Go.Proofs.Ytofmndcdcchflaa
