/- Skips: what is run. -/
import Derived.Test.YtdngeccbmalbnaaT
import Derived.Test.YtdngeccbmalbnaaC
namespace Go.Proofs.Ytdngeccbmalbnaa
open Go.Sx Go
set_option maxRecDepth 100000
noncomputable def spS (k a b x : Int) : List (Nat × (List SV → X SV)) := [(8, yX (form8 k a b x)), (22, yX (form22 k a b x))]
/-- Skips, of a view that may be and a known operation -/
noncomputable def okS (k a b x : Int) : Bool := allOf (funL (spS k a b x) 3 [viewV 20 6 7, .agg (ocL k a b x)] (memF ([] ++ rngs 6 16 (rngs 7 16 [])))) isTrue
noncomputable def oaV : SV := .agg (.cons (vi 10) (.cons (vi 11) (.cons (vi 12) (.cons (vi 13) .nil))))
noncomputable def oaK (k : Int) : SV := .agg (.cons (.int .i64 (.lit k)) (.cons (vi 11) (.cons (vi 12) (.cons (vi 13) .nil))))
/-- of an operation that may not be -/
noncomputable def okSi (oa : SV) (fs : List Fact) : Bool := allOf (fun2 3 [viewV 20 6 7, oa] (memF (fs ++ rngs 6 16 (rngs 7 16 [])))) isTrue
/-- of a view that may not be -/
noncomputable def okSb (oa : SV) (fs : List Fact) : Bool := allOf (withB fs fun m => fun2 3 [viewV 20 6 7, oa] m) isTrue
end Go.Proofs.Ytdngeccbmalbnaa
