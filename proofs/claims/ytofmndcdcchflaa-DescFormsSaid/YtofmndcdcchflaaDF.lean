/- DescForms, by its runs. -/
import Derived.Test.YtofmndcdcchflaaAW
namespace Go.Proofs.Ytofmndcdcchflaa
open Go.Sx Go Go.DescNum
set_option maxRecDepth 100000
noncomputable def spF : List (Nat × (List SV → X SV)) := [(23, makeX aw)]
theorem okSpF {G : Gf} : ∀ x ∈ spF, SpecOk G Try.prog x.1 x.2 := one_ok (a := (23, makeX aw)) aw_ok
noncomputable def modF (n k : Int) : Fact := (.rem (.wrap .u64 (.var 1)) (.lit n), k, k)
noncomputable def okF (k j : Int) : Bool := allOf (callF (tabJ []) (spOf spF) (bxOf []) 400 12 4 [vi 1, vi 2] { mem0 60 with know := ⟨[modF 11 k, modF 4 j], []⟩ }) isTrue
end Go.Proofs.Ytofmndcdcchflaa
