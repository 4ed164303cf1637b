/- Descs: runs, 16 6 n. -/
import Derived.Test.YtofmndcdcchflaaCN
namespace Go.Proofs.Ytofmndcdcchflaa
open Go.Sx Go Go.DescNum
set_option maxRecDepth 100000
theorem c16_fff : okC (manyC 16) false false false = true := by kernel_rfl
theorem c16_fft : okC (manyC 16) false false true = true := by kernel_rfl
theorem c16_ftf : okC (manyC 16) false true false = true := by kernel_rfl
theorem c16_ftt : okC (manyC 16) false true true = true := by kernel_rfl
theorem c16_tff : okC (manyC 16) true false false = true := by kernel_rfl
theorem c16_tft : okC (manyC 16) true false true = true := by kernel_rfl
theorem c16_ttf : okC (manyC 16) true true false = true := by kernel_rfl
theorem c16_ttt : okC (manyC 16) true true true = true := by kernel_rfl
theorem c16 : ∀ a b r, okC (manyC 16) a b r = true
 | false, false, false => c16_fff
 | false, false, true => c16_fft
 | false, true, false => c16_ftf
 | false, true, true => c16_ftt
 | true, false, false => c16_tff
 | true, false, true => c16_tft
 | true, true, false => c16_ttf
 | true, true, true => c16_ttt
theorem c6_fff : okC (manyC 6) false false false = true := by kernel_rfl
theorem c6_fft : okC (manyC 6) false false true = true := by kernel_rfl
theorem c6_ftf : okC (manyC 6) false true false = true := by kernel_rfl
theorem c6_ftt : okC (manyC 6) false true true = true := by kernel_rfl
theorem c6_tff : okC (manyC 6) true false false = true := by kernel_rfl
theorem c6_tft : okC (manyC 6) true false true = true := by kernel_rfl
theorem c6_ttf : okC (manyC 6) true true false = true := by kernel_rfl
theorem c6_ttt : okC (manyC 6) true true true = true := by kernel_rfl
theorem c6 : ∀ a b r, okC (manyC 6) a b r = true
 | false, false, false => c6_fff
 | false, false, true => c6_fft
 | false, true, false => c6_ftf
 | false, true, true => c6_ftt
 | true, false, false => c6_tff
 | true, false, true => c6_tft
 | true, true, false => c6_ttf
 | true, true, true => c6_ttt
theorem cn_fff : okC nilC false false false = true := by kernel_rfl
theorem cn_fft : okC nilC false false true = true := by kernel_rfl
theorem cn_ftf : okC nilC false true false = true := by kernel_rfl
theorem cn_ftt : okC nilC false true true = true := by kernel_rfl
theorem cn_tff : okC nilC true false false = true := by kernel_rfl
theorem cn_tft : okC nilC true false true = true := by kernel_rfl
theorem cn_ttf : okC nilC true true false = true := by kernel_rfl
theorem cn_ttt : okC nilC true true true = true := by kernel_rfl
theorem cn : ∀ a b r, okC nilC a b r = true
 | false, false, false => cn_fff
 | false, false, true => cn_fft
 | false, true, false => cn_ftf
 | false, true, true => cn_ftt
 | true, false, false => cn_tff
 | true, false, true => cn_tft
 | true, true, false => cn_ttf
 | true, true, true => cn_ttt
end Go.Proofs.Ytofmndcdcchflaa
