/- Descs: runs, 11 5 4. -/
import Derived.Test.YtofmndcdcchflaaCN
namespace Go.Proofs.Ytofmndcdcchflaa
open Go.Sx Go Go.DescNum
set_option maxRecDepth 100000
theorem c11_fff : okC (manyC 11) false false false = true := by kernel_rfl
theorem c11_fft : okC (manyC 11) false false true = true := by kernel_rfl
theorem c11_ftf : okC (manyC 11) false true false = true := by kernel_rfl
theorem c11_ftt : okC (manyC 11) false true true = true := by kernel_rfl
theorem c11_tff : okC (manyC 11) true false false = true := by kernel_rfl
theorem c11_tft : okC (manyC 11) true false true = true := by kernel_rfl
theorem c11_ttf : okC (manyC 11) true true false = true := by kernel_rfl
theorem c11_ttt : okC (manyC 11) true true true = true := by kernel_rfl
theorem c11 : ∀ a b r, okC (manyC 11) a b r = true
 | false, false, false => c11_fff
 | false, false, true => c11_fft
 | false, true, false => c11_ftf
 | false, true, true => c11_ftt
 | true, false, false => c11_tff
 | true, false, true => c11_tft
 | true, true, false => c11_ttf
 | true, true, true => c11_ttt
theorem c5_fff : okC (manyC 5) false false false = true := by kernel_rfl
theorem c5_fft : okC (manyC 5) false false true = true := by kernel_rfl
theorem c5_ftf : okC (manyC 5) false true false = true := by kernel_rfl
theorem c5_ftt : okC (manyC 5) false true true = true := by kernel_rfl
theorem c5_tff : okC (manyC 5) true false false = true := by kernel_rfl
theorem c5_tft : okC (manyC 5) true false true = true := by kernel_rfl
theorem c5_ttf : okC (manyC 5) true true false = true := by kernel_rfl
theorem c5_ttt : okC (manyC 5) true true true = true := by kernel_rfl
theorem c5 : ∀ a b r, okC (manyC 5) a b r = true
 | false, false, false => c5_fff
 | false, false, true => c5_fft
 | false, true, false => c5_ftf
 | false, true, true => c5_ftt
 | true, false, false => c5_tff
 | true, false, true => c5_tft
 | true, true, false => c5_ttf
 | true, true, true => c5_ttt
theorem c4_fff : okC (manyC 4) false false false = true := by kernel_rfl
theorem c4_fft : okC (manyC 4) false false true = true := by kernel_rfl
theorem c4_ftf : okC (manyC 4) false true false = true := by kernel_rfl
theorem c4_ftt : okC (manyC 4) false true true = true := by kernel_rfl
theorem c4_tff : okC (manyC 4) true false false = true := by kernel_rfl
theorem c4_tft : okC (manyC 4) true false true = true := by kernel_rfl
theorem c4_ttf : okC (manyC 4) true true false = true := by kernel_rfl
theorem c4_ttt : okC (manyC 4) true true true = true := by kernel_rfl
theorem c4 : ∀ a b r, okC (manyC 4) a b r = true
 | false, false, false => c4_fff
 | false, false, true => c4_fft
 | false, true, false => c4_ftf
 | false, true, true => c4_ftt
 | true, false, false => c4_tff
 | true, false, true => c4_tft
 | true, true, false => c4_ttf
 | true, true, true => c4_ttt
end Go.Proofs.Ytofmndcdcchflaa
