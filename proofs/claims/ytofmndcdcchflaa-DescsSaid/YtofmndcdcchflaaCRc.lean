/- Descs: runs, 14 8 l. -/
import Derived.Test.YtofmndcdcchflaaCN
namespace Go.Proofs.Ytofmndcdcchflaa
open Go.Sx Go Go.DescNum
set_option maxRecDepth 100000
theorem c14_fff : okC (manyC 14) false false false = true := by kernel_rfl
theorem c14_fft : okC (manyC 14) false false true = true := by kernel_rfl
theorem c14_ftf : okC (manyC 14) false true false = true := by kernel_rfl
theorem c14_ftt : okC (manyC 14) false true true = true := by kernel_rfl
theorem c14_tff : okC (manyC 14) true false false = true := by kernel_rfl
theorem c14_tft : okC (manyC 14) true false true = true := by kernel_rfl
theorem c14_ttf : okC (manyC 14) true true false = true := by kernel_rfl
theorem c14_ttt : okC (manyC 14) true true true = true := by kernel_rfl
theorem c14 : ∀ a b r, okC (manyC 14) a b r = true
 | false, false, false => c14_fff
 | false, false, true => c14_fft
 | false, true, false => c14_ftf
 | false, true, true => c14_ftt
 | true, false, false => c14_tff
 | true, false, true => c14_tft
 | true, true, false => c14_ttf
 | true, true, true => c14_ttt
theorem c8_fff : okC (manyC 8) false false false = true := by kernel_rfl
theorem c8_fft : okC (manyC 8) false false true = true := by kernel_rfl
theorem c8_ftf : okC (manyC 8) false true false = true := by kernel_rfl
theorem c8_ftt : okC (manyC 8) false true true = true := by kernel_rfl
theorem c8_tff : okC (manyC 8) true false false = true := by kernel_rfl
theorem c8_tft : okC (manyC 8) true false true = true := by kernel_rfl
theorem c8_ttf : okC (manyC 8) true true false = true := by kernel_rfl
theorem c8_ttt : okC (manyC 8) true true true = true := by kernel_rfl
theorem c8 : ∀ a b r, okC (manyC 8) a b r = true
 | false, false, false => c8_fff
 | false, false, true => c8_fft
 | false, true, false => c8_ftf
 | false, true, true => c8_ftt
 | true, false, false => c8_tff
 | true, false, true => c8_tft
 | true, true, false => c8_ttf
 | true, true, true => c8_ttt
theorem cl_fff : okC longC false false false = true := by kernel_rfl
theorem cl_fft : okC longC false false true = true := by kernel_rfl
theorem cl_ftf : okC longC false true false = true := by kernel_rfl
theorem cl_ftt : okC longC false true true = true := by kernel_rfl
theorem cl_tff : okC longC true false false = true := by kernel_rfl
theorem cl_tft : okC longC true false true = true := by kernel_rfl
theorem cl_ttf : okC longC true true false = true := by kernel_rfl
theorem cl_ttt : okC longC true true true = true := by kernel_rfl
theorem cl : ∀ a b r, okC longC a b r = true
 | false, false, false => cl_fff
 | false, false, true => cl_fft
 | false, true, false => cl_ftf
 | false, true, true => cl_ftt
 | true, false, false => cl_tff
 | true, false, true => cl_tft
 | true, true, false => cl_ttf
 | true, true, true => cl_ttt
end Go.Proofs.Ytofmndcdcchflaa
