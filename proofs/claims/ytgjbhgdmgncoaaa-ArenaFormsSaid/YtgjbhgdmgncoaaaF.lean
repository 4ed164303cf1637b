/- what the three laws over accesses share: how the accesses lie, an arena's pattern. -/
import Derived.Test.YtgjbhgdmgncoaaaB
namespace Go.Proofs.Ytgjbhgdmgncoaaa
open Go.Sx Go
set_option maxRecDepth 100000
abbrev I (z : Int) : SV := .int .i64 (.lit z)
/-- a slice of accesses: names 1 to 5 -/
abbrev actsS : SV := .sli 1 0 (.var 2) (.var 3) (.var 4)
abbrev actsE : Ent := ⟨1, 0, true, 0, .var 2, .cons (.arr .i64 5 (.mul (.var 3) (.lit 4)) .nil) .nil⟩
abbrev actsF : List Fact := [(.var 2, 0, hi), (.var 3, 1, hi), (.var 4, 0, hi)]
def actsMem : Mem := { know := ⟨actsF, []⟩, heap := [actsE], seg := 0, next := 0, nv := 10 }
/-- an empty slice that is not nil -/
abbrev emptyS : SV := .sli 1 0 (.var 2) (.lit 0) (.var 4)
/-- a frame of a pattern: what is not told is open -/
def frame (n base : Nat) (xs : List (Nat × SV)) : Fr := (List.range n).map fun i => match Sx.look i xs with | some v => v | none => .opq (base + i)
/-- an arena's cells: words in row 22, the last access in 23 to 26, whether there was one in 27 -/
abbrev arenaC : SV := .cons (.arr .i64 22 (.lit 634) .nil) (.cons (I 0) (.cons (vi 23) (.cons (vi 24) (.cons (vi 25) (.cons (vi 26) (.cons (I 0) (.cons (I 0) (.cons (I 0) (.cons (.bool (.var 27)) .nil)))))))))
abbrev wordsC : SV := .cons (.arr .i64 22 (.lit 634) .nil) .nil
end Go.Proofs.Ytgjbhgdmgncoaaa
