/- HelpEntry, HelpMeets, by their runs. -/
import Derived.Test.YtdchpckikclmlaaAW
namespace Go.Proofs.Ytdchpckikclmlaa
open Go.Sx Go
set_option maxRecDepth 100000
noncomputable def andF (v : Nat) (n k : Int) : Fact := (.bit .and .i64 (.var v) (.lit n), k, k)
noncomputable def okE (s k : Int) : Bool := allOf (funF 7 [vi 1, vi 2, vi 3, vi 4, vi 5] (slMem [] [(.rem (.bit .and .i64 (.var 2) (.lit 1023)) (.lit 3), s, s), andF 3 1 k] 60)) isTrue
noncomputable def okM (s : Int) : Bool := allOf (funF 11 [vi 1, vi 2, vi 3, vi 4] (slMem [] [andF 3 7 s] 60)) isTrue
end Go.Proofs.Ytdchpckikclmlaa
