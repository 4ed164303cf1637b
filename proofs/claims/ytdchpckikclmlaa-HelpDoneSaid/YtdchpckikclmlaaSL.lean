/- what laws of one descriptor run with. -/
import Derived.Test.YtdchpckikclmlaaSF
import Derived.Test.YtdchpckikclmlaaSX
namespace Go.Proofs.Ytdchpckikclmlaa
open Go.Sx Go
set_option maxRecDepth 100000
noncomputable def spL : List (Nat × (List SV → X SV)) := (13, shX) :: spT
theorem okSpL {G : Gf} (hall : ∀ k, k ≤ 16 → okSh k = true) : ∀ x ∈ spL, SpecOk G Try.prog x.1 x.2 := cons_ok (a := (13, shX)) (shX_ok hall) okSpT
end Go.Proofs.Ytdchpckikclmlaa
