/- Descs: runs, 15 7 z. -/
import Derived.Test.YtofmndcdcchflaaCN
namespace Go.Proofs.Ytofmndcdcchflaa
open Go.Sx Go Go.DescNum
set_option maxRecDepth 100000
theorem c15_fff : okC (manyC 15) false false false = true := by kernel_rfl
theorem c15_fft : okC (manyC 15) false false true = true := by kernel_rfl
theorem c15_ftf : okC (manyC 15) false true false = true := by kernel_rfl
theorem c15_ftt : okC (manyC 15) false true true = true := by kernel_rfl
theorem c15_tff : okC (manyC 15) true false false = true := by kernel_rfl
theorem c15_tft : okC (manyC 15) true false true = true := by kernel_rfl
theorem c15_ttf : okC (manyC 15) true true false = true := by kernel_rfl
theorem c15_ttt : okC (manyC 15) true true true = true := by kernel_rfl
theorem c15 : ∀ a b r, okC (manyC 15) a b r = true
 | false, false, false => c15_fff
 | false, false, true => c15_fft
 | false, true, false => c15_ftf
 | false, true, true => c15_ftt
 | true, false, false => c15_tff
 | true, false, true => c15_tft
 | true, true, false => c15_ttf
 | true, true, true => c15_ttt
theorem c7_fff : okC (manyC 7) false false false = true := by kernel_rfl
theorem c7_fft : okC (manyC 7) false false true = true := by kernel_rfl
theorem c7_ftf : okC (manyC 7) false true false = true := by kernel_rfl
theorem c7_ftt : okC (manyC 7) false true true = true := by kernel_rfl
theorem c7_tff : okC (manyC 7) true false false = true := by kernel_rfl
theorem c7_tft : okC (manyC 7) true false true = true := by kernel_rfl
theorem c7_ttf : okC (manyC 7) true true false = true := by kernel_rfl
theorem c7_ttt : okC (manyC 7) true true true = true := by kernel_rfl
theorem c7 : ∀ a b r, okC (manyC 7) a b r = true
 | false, false, false => c7_fff
 | false, false, true => c7_fft
 | false, true, false => c7_ftf
 | false, true, true => c7_ftt
 | true, false, false => c7_tff
 | true, false, true => c7_tft
 | true, true, false => c7_ttf
 | true, true, true => c7_ttt
theorem cz_fff : okC zeroC false false false = true := by kernel_rfl
theorem cz_fft : okC zeroC false false true = true := by kernel_rfl
theorem cz_ftf : okC zeroC false true false = true := by kernel_rfl
theorem cz_ftt : okC zeroC false true true = true := by kernel_rfl
theorem cz_tff : okC zeroC true false false = true := by kernel_rfl
theorem cz_tft : okC zeroC true false true = true := by kernel_rfl
theorem cz_ttf : okC zeroC true true false = true := by kernel_rfl
theorem cz_ttt : okC zeroC true true true = true := by kernel_rfl
theorem cz : ∀ a b r, okC zeroC a b r = true
 | false, false, false => cz_fff
 | false, false, true => cz_fft
 | false, true, false => cz_ftf
 | false, true, true => cz_ftt
 | true, false, false => cz_tff
 | true, false, true => cz_tft
 | true, true, false => cz_ttf
 | true, true, true => cz_ttt
end Go.Proofs.Ytofmndcdcchflaa
