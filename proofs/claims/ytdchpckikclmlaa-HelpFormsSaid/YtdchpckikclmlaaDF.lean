/- HelpForms, by its runs. -/
import Derived.Test.YtdchpckikclmlaaAW
namespace Go.Proofs.Ytdchpckikclmlaa
open Go.Sx Go
set_option maxRecDepth 100000
noncomputable def modF (n k : Int) : Fact := (.rem (.wrap .u64 (.var 1)) (.lit n), k, k)
noncomputable def okF (k j : Int) : Bool := allOf (funF 5 [vi 1, vi 2] (slMem [] [modF 7 k, modF 4 j] 60)) isTrue
end Go.Proofs.Ytdchpckikclmlaa
