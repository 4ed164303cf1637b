/- Descs: runs, 13 9 1. -/
import Derived.Test.YtofmndcdcchflaaCN
namespace Go.Proofs.Ytofmndcdcchflaa
open Go.Sx Go Go.DescNum
set_option maxRecDepth 100000
theorem c13_fff : okC (manyC 13) false false false = true := by kernel_rfl
theorem c13_fft : okC (manyC 13) false false true = true := by kernel_rfl
theorem c13_ftf : okC (manyC 13) false true false = true := by kernel_rfl
theorem c13_ftt : okC (manyC 13) false true true = true := by kernel_rfl
theorem c13_tff : okC (manyC 13) true false false = true := by kernel_rfl
theorem c13_tft : okC (manyC 13) true false true = true := by kernel_rfl
theorem c13_ttf : okC (manyC 13) true true false = true := by kernel_rfl
theorem c13_ttt : okC (manyC 13) true true true = true := by kernel_rfl
theorem c13 : ∀ a b r, okC (manyC 13) a b r = true
 | false, false, false => c13_fff
 | false, false, true => c13_fft
 | false, true, false => c13_ftf
 | false, true, true => c13_ftt
 | true, false, false => c13_tff
 | true, false, true => c13_tft
 | true, true, false => c13_ttf
 | true, true, true => c13_ttt
theorem c9_fff : okC (manyC 9) false false false = true := by kernel_rfl
theorem c9_fft : okC (manyC 9) false false true = true := by kernel_rfl
theorem c9_ftf : okC (manyC 9) false true false = true := by kernel_rfl
theorem c9_ftt : okC (manyC 9) false true true = true := by kernel_rfl
theorem c9_tff : okC (manyC 9) true false false = true := by kernel_rfl
theorem c9_tft : okC (manyC 9) true false true = true := by kernel_rfl
theorem c9_ttf : okC (manyC 9) true true false = true := by kernel_rfl
theorem c9_ttt : okC (manyC 9) true true true = true := by kernel_rfl
theorem c9 : ∀ a b r, okC (manyC 9) a b r = true
 | false, false, false => c9_fff
 | false, false, true => c9_fft
 | false, true, false => c9_ftf
 | false, true, true => c9_ftt
 | true, false, false => c9_tff
 | true, false, true => c9_tft
 | true, true, false => c9_ttf
 | true, true, true => c9_ttt
theorem c1_fff : okC (manyC 1) false false false = true := by kernel_rfl
theorem c1_fft : okC (manyC 1) false false true = true := by kernel_rfl
theorem c1_ftf : okC (manyC 1) false true false = true := by kernel_rfl
theorem c1_ftt : okC (manyC 1) false true true = true := by kernel_rfl
theorem c1_tff : okC (manyC 1) true false false = true := by kernel_rfl
theorem c1_tft : okC (manyC 1) true false true = true := by kernel_rfl
theorem c1_ttf : okC (manyC 1) true true false = true := by kernel_rfl
theorem c1_ttt : okC (manyC 1) true true true = true := by kernel_rfl
theorem c1 : ∀ a b r, okC (manyC 1) a b r = true
 | false, false, false => c1_fff
 | false, false, true => c1_fft
 | false, true, false => c1_ftf
 | false, true, true => c1_ftt
 | true, false, false => c1_tff
 | true, false, true => c1_tft
 | true, true, false => c1_ttf
 | true, true, true => c1_ttt
end Go.Proofs.Ytofmndcdcchflaa
