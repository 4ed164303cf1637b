/-
  No cell of these rows narrows 'for every input' (looked for: loops, veiled, ifaces, maps, wideKeys, modest, calm, conditions, laid).
  DERIVED. THE GIVEN ROWS OF THIS SEAT. 5 by the template 'for every input the law returns true; each argument reads behind the call as it read before'; 0 by the template 'total and deterministic' (their statements: YtnfmmiomomgabaaTotals.lean).
  GIVEN WITH THE SEED: the statements are not yours to turn. If you find one false, say at which input.
  Laid BY PROGRAM, IN A SANDBOX (cutbox-rows.mjs): the forced cells as the released guide's own fill.sh prints them over the translation c343f18991863717… (all of the seat's roots in one cut). By AI agents, Wed Nov 11 2026. No macro, syntax, notation, axiom, sorry.
-/
import Derived.Test.YtnfmmiomomgabaaChecked
import GoSem.Claim
import GoSem.ClaimJoined
import GoSem.ClaimMapViews
import Derived.JoinedTies
import Derived.KernelRfl
namespace Go.Proofs.Ytnfmmiomomgabaa
/- THE CELL 'sum', in the pinned program and in every row, IS THE sha256 OF THE DUMP (.gsa) THAT YtnfmmiomomgabaaProg.lean LOADS. Nothing in Lean hashes anything: it is a label: what it is worth is what the hold of that sum in a sandbox is worth. -/
noncomputable def Try.pinned : Pinned := { name := "ytnfmmiomomgabaa", sum := "c343f18991863717564d808936cd30be1c052e4ea477c1ea804ebc4c2c02e69b", checked := Try.checked }
namespace Rows
def none {H : Type} : Left H := { results := [], args := [] }

/-- 'pawllaw7.Bodies': WHATEVER THE INPUT: true; the input reads as it did. -/
def bodiesSpec : ChangeSpec := { name := "bodies", fn := fun _ => fun
  | [d1, d2, d3] => { results := [.lit (.bool true)], args := [d1, d2, d3] }
  | _ => none }
def bodiesRow : OpenClaim := { program := "ytnfmmiomomgabaa", sum := "c343f18991863717564d808936cd30be1c052e4ea477c1ea804ebc4c2c02e69b", func := "pawl/pawllaw7.Bodies", spec := "bodies", unfollowed := true, recurses := true, apart := false }
def BodiesSaid : Prop := bodiesRow.holds Try.pinned (OpenSpec.ofChange bodiesSpec)

/-- ITS FALSE NEIGHBOUR: 'it returns false'. Refute it at one input. -/
def bodiesWrong : ChangeSpec := { name := "bodies", fn := fun _ => fun
  | [d1, d2, d3] => { results := [.lit (.bool false)], args := [d1, d2, d3] }
  | _ => none }
def BodiesWrongFalsely : Prop := bodiesRow.holds Try.pinned (OpenSpec.ofChange bodiesWrong)

/-- 'pawllaw7.BodyNone': WHATEVER THE INPUT: true; the input reads as it did. -/
def bodyNoneSpec : ChangeSpec := { name := "bodyNone", fn := fun _ => fun
  | [d1, d2] => { results := [.lit (.bool true)], args := [d1, d2] }
  | _ => none }
def bodyNoneRow : OpenClaim := { program := "ytnfmmiomomgabaa", sum := "c343f18991863717564d808936cd30be1c052e4ea477c1ea804ebc4c2c02e69b", func := "pawl/pawllaw7.BodyNone", spec := "bodyNone", unfollowed := true, recurses := true, apart := false }
def BodyNoneSaid : Prop := bodyNoneRow.holds Try.pinned (OpenSpec.ofChange bodyNoneSpec)

/-- ITS FALSE NEIGHBOUR: 'it returns false'. Refute it at one input. -/
def bodyNoneWrong : ChangeSpec := { name := "bodyNone", fn := fun _ => fun
  | [d1, d2] => { results := [.lit (.bool false)], args := [d1, d2] }
  | _ => none }
def BodyNoneWrongFalsely : Prop := bodyNoneRow.holds Try.pinned (OpenSpec.ofChange bodyNoneWrong)

/-- 'pawllaw7.BodyForms': WHATEVER THE INPUT: true; the input reads as it did. -/
def bodyFormsSpec : ChangeSpec := { name := "bodyForms", fn := fun _ => fun
  | [d1, d2] => { results := [.lit (.bool true)], args := [d1, d2] }
  | _ => none }
def bodyFormsRow : OpenClaim := { program := "ytnfmmiomomgabaa", sum := "c343f18991863717564d808936cd30be1c052e4ea477c1ea804ebc4c2c02e69b", func := "pawl/pawllaw7.BodyForms", spec := "bodyForms", unfollowed := true, recurses := true, apart := false }
def BodyFormsSaid : Prop := bodyFormsRow.holds Try.pinned (OpenSpec.ofChange bodyFormsSpec)

/-- ITS FALSE NEIGHBOUR: 'it returns false'. Refute it at one input. -/
def bodyFormsWrong : ChangeSpec := { name := "bodyForms", fn := fun _ => fun
  | [d1, d2] => { results := [.lit (.bool false)], args := [d1, d2] }
  | _ => none }
def BodyFormsWrongFalsely : Prop := bodyFormsRow.holds Try.pinned (OpenSpec.ofChange bodyFormsWrong)

/-- 'pawllaw7.BodyFull': WHATEVER THE INPUT: true; the input reads as it did. -/
def bodyFullSpec : ChangeSpec := { name := "bodyFull", fn := fun _ => fun
  | [d1, d2, d3] => { results := [.lit (.bool true)], args := [d1, d2, d3] }
  | _ => none }
def bodyFullRow : OpenClaim := { program := "ytnfmmiomomgabaa", sum := "c343f18991863717564d808936cd30be1c052e4ea477c1ea804ebc4c2c02e69b", func := "pawl/pawllaw7.BodyFull", spec := "bodyFull", unfollowed := true, recurses := true, apart := false }
def BodyFullSaid : Prop := bodyFullRow.holds Try.pinned (OpenSpec.ofChange bodyFullSpec)

/-- ITS FALSE NEIGHBOUR: 'it returns false'. Refute it at one input. -/
def bodyFullWrong : ChangeSpec := { name := "bodyFull", fn := fun _ => fun
  | [d1, d2, d3] => { results := [.lit (.bool false)], args := [d1, d2, d3] }
  | _ => none }
def BodyFullWrongFalsely : Prop := bodyFullRow.holds Try.pinned (OpenSpec.ofChange bodyFullWrong)

/-- 'pawllaw7.BodySame': WHATEVER THE INPUT: true; the input reads as it did. -/
def bodySameSpec : ChangeSpec := { name := "bodySame", fn := fun _ => fun
  | [d1, d2, d3] => { results := [.lit (.bool true)], args := [d1, d2, d3] }
  | _ => none }
def bodySameRow : OpenClaim := { program := "ytnfmmiomomgabaa", sum := "c343f18991863717564d808936cd30be1c052e4ea477c1ea804ebc4c2c02e69b", func := "pawl/pawllaw7.BodySame", spec := "bodySame", unfollowed := true, recurses := true, apart := false }
def BodySameSaid : Prop := bodySameRow.holds Try.pinned (OpenSpec.ofChange bodySameSpec)

/-- ITS FALSE NEIGHBOUR: 'it returns false'. Refute it at one input. -/
def bodySameWrong : ChangeSpec := { name := "bodySame", fn := fun _ => fun
  | [d1, d2, d3] => { results := [.lit (.bool false)], args := [d1, d2, d3] }
  | _ => none }
def BodySameWrongFalsely : Prop := bodySameRow.holds Try.pinned (OpenSpec.ofChange bodySameWrong)

/- THE SECOND FORM. 'bulk': how many values and letters a reading holds, each counted each time it is reached (what is shared counts as often as it is met; a slice's spare places count too). A statement '..UptoSaid' is the law's where the arguments, and the package variables that the reading takes, are together of bulk at most 1048576: NARROWER than '..Said'. Prove '..Said' where nothing that the law and all that it calls make is longer than what came in: it says more and counts as full. Else prove '..UptoSaid'. A law counts once. -/
mutual
def uptoBulk {H : Type} : DataW H → Nat
  | .lit (.string bytes) => bytes.length + 1
  | .lit _ => 1
  | .nil => 1
  | .ptr d => uptoBulk d + 1
  | .slice elems spare => uptoBulkAll elems + uptoBulkAll spare + 1
  | .agg parts => uptoBulkAll parts + 1
  | .iface _ d => uptoBulk d + 1
  | .map entries => uptoBulkEntries entries + 1
  | .held _ => 1
def uptoBulkAll {H : Type} : List (DataW H) → Nat
  | [] => 0
  | d :: r => uptoBulk d + uptoBulkAll r
def uptoBulkEntries {H : Type} : List (Lit × DataW H) → Nat
  | [] => 0
  | x :: r => uptoBulkEntry x + uptoBulkEntries r
def uptoBulkEntry {H : Type} : Lit × DataW H → Nat
  | (.string bytes, d) => bytes.length + uptoBulk d + 1
  | (_, d) => uptoBulk d + 1
 end
def uptoSmall : (H : Type) → List (DataW H) → Bool := fun _ ds => decide (uptoBulkAll ds ≤ 1048576)
def OpenSpec.upto (s : _root_.Go.ChangeSpec) : _root_.Go.OpenSpec := { _root_.Go.OpenSpec.ofChange s with cond := some uptoSmall }

/-- 'pawllaw7.Bodies', WHERE WHAT IT READS IS OF BULK AT MOST 1048576: true; the input reads as it did. -/
def bodiesUptoRow : OpenClaim := { program := "ytnfmmiomomgabaa", sum := "c343f18991863717564d808936cd30be1c052e4ea477c1ea804ebc4c2c02e69b", func := "pawl/pawllaw7.Bodies", spec := "bodies", unfollowed := true, recurses := true, apart := false, narrowed := true }
def BodiesUptoSaid : Prop := bodiesUptoRow.holds Try.pinned (OpenSpec.upto bodiesSpec)

/-- 'pawllaw7.BodyNone', WHERE WHAT IT READS IS OF BULK AT MOST 1048576: true; the input reads as it did. -/
def bodyNoneUptoRow : OpenClaim := { program := "ytnfmmiomomgabaa", sum := "c343f18991863717564d808936cd30be1c052e4ea477c1ea804ebc4c2c02e69b", func := "pawl/pawllaw7.BodyNone", spec := "bodyNone", unfollowed := true, recurses := true, apart := false, narrowed := true }
def BodyNoneUptoSaid : Prop := bodyNoneUptoRow.holds Try.pinned (OpenSpec.upto bodyNoneSpec)

/-- 'pawllaw7.BodyForms', WHERE WHAT IT READS IS OF BULK AT MOST 1048576: true; the input reads as it did. -/
def bodyFormsUptoRow : OpenClaim := { program := "ytnfmmiomomgabaa", sum := "c343f18991863717564d808936cd30be1c052e4ea477c1ea804ebc4c2c02e69b", func := "pawl/pawllaw7.BodyForms", spec := "bodyForms", unfollowed := true, recurses := true, apart := false, narrowed := true }
def BodyFormsUptoSaid : Prop := bodyFormsUptoRow.holds Try.pinned (OpenSpec.upto bodyFormsSpec)

/-- 'pawllaw7.BodyFull', WHERE WHAT IT READS IS OF BULK AT MOST 1048576: true; the input reads as it did. -/
def bodyFullUptoRow : OpenClaim := { program := "ytnfmmiomomgabaa", sum := "c343f18991863717564d808936cd30be1c052e4ea477c1ea804ebc4c2c02e69b", func := "pawl/pawllaw7.BodyFull", spec := "bodyFull", unfollowed := true, recurses := true, apart := false, narrowed := true }
def BodyFullUptoSaid : Prop := bodyFullUptoRow.holds Try.pinned (OpenSpec.upto bodyFullSpec)

/-- 'pawllaw7.BodySame', WHERE WHAT IT READS IS OF BULK AT MOST 1048576: true; the input reads as it did. -/
def bodySameUptoRow : OpenClaim := { program := "ytnfmmiomomgabaa", sum := "c343f18991863717564d808936cd30be1c052e4ea477c1ea804ebc4c2c02e69b", func := "pawl/pawllaw7.BodySame", spec := "bodySame", unfollowed := true, recurses := true, apart := false, narrowed := true }
def BodySameUptoSaid : Prop := bodySameUptoRow.holds Try.pinned (OpenSpec.upto bodySameSpec)

end Rows
end Go.Proofs.Ytnfmmiomomgabaa
