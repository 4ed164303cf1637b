/-
  No cell of these rows narrows 'for every input' (looked for: loops, veiled, ifaces, maps, wideKeys, modest, calm, conditions, laid).
  DERIVED. THE GIVEN ROWS OF THIS SEAT. 5 by the template 'for every input the law returns true; each argument reads behind the call as it read before'; 0 by the template 'total and deterministic' (their statements: YtofmndcdcchflaaTotals.lean).
  GIVEN WITH THE SEED: the statements are not yours to turn. If you find one false, say at which input.
  Laid BY PROGRAM, IN A SANDBOX (cutbox-rows.mjs): the forced cells as the released guide's own fill.sh prints them over the translation cf7aa58523248f3f… (all of the seat's roots in one cut). By AI agents, Wed Nov 11 2026. No macro, syntax, notation, axiom, sorry.
-/
import Derived.Test.YtofmndcdcchflaaChecked
import GoSem.Claim
import GoSem.ClaimJoined
import GoSem.ClaimMapViews
import Derived.JoinedTies
import Derived.KernelRfl
namespace Go.Proofs.Ytofmndcdcchflaa
/- THE CELL 'sum', in the pinned program and in every row, IS THE sha256 OF THE DUMP (.gsa) THAT YtofmndcdcchflaaProg.lean LOADS. Nothing in Lean hashes anything: it is a label: what it is worth is what the hold of that sum in a sandbox is worth. -/
noncomputable def Try.pinned : Pinned := { name := "ytofmndcdcchflaa", sum := "cf7aa58523248f3f2a1c036ae9bac16752d25f30dbaedd11f6a0303b5d4b13d5", checked := Try.checked }
namespace Rows
def none {H : Type} : Left H := { results := [], args := [] }

/-- 'pawllaw13.Descs': WHATEVER THE INPUT: true; the input reads as it did. -/
def descsSpec : ChangeSpec := { name := "descs", fn := fun _ => fun
  | [d1, d2, d3, d4, d5, d6] => { results := [.lit (.bool true)], args := [d1, d2, d3, d4, d5, d6] }
  | _ => none }
def descsRow : OpenClaim := { program := "ytofmndcdcchflaa", sum := "cf7aa58523248f3f2a1c036ae9bac16752d25f30dbaedd11f6a0303b5d4b13d5", func := "pawl/pawllaw13.Descs", spec := "descs", unfollowed := true, recurses := true, apart := false }
def DescsSaid : Prop := descsRow.holds Try.pinned (OpenSpec.ofChange descsSpec)

/-- ITS FALSE NEIGHBOUR: 'it returns false'. Refute it at one input. -/
def descsWrong : ChangeSpec := { name := "descs", fn := fun _ => fun
  | [d1, d2, d3, d4, d5, d6] => { results := [.lit (.bool false)], args := [d1, d2, d3, d4, d5, d6] }
  | _ => none }
def DescsWrongFalsely : Prop := descsRow.holds Try.pinned (OpenSpec.ofChange descsWrong)

/-- 'pawllaw13.DescForms': WHATEVER THE INPUT: true; the input reads as it did. -/
def descFormsSpec : ChangeSpec := { name := "descForms", fn := fun _ => fun
  | [d1, d2] => { results := [.lit (.bool true)], args := [d1, d2] }
  | _ => none }
def descFormsRow : OpenClaim := { program := "ytofmndcdcchflaa", sum := "cf7aa58523248f3f2a1c036ae9bac16752d25f30dbaedd11f6a0303b5d4b13d5", func := "pawl/pawllaw13.DescForms", spec := "descForms", unfollowed := true, recurses := true, apart := false }
def DescFormsSaid : Prop := descFormsRow.holds Try.pinned (OpenSpec.ofChange descFormsSpec)

/-- ITS FALSE NEIGHBOUR: 'it returns false'. Refute it at one input. -/
def descFormsWrong : ChangeSpec := { name := "descForms", fn := fun _ => fun
  | [d1, d2] => { results := [.lit (.bool false)], args := [d1, d2] }
  | _ => none }
def DescFormsWrongFalsely : Prop := descFormsRow.holds Try.pinned (OpenSpec.ofChange descFormsWrong)

/-- 'pawllaw13.DescBack': WHATEVER THE INPUT: true; the input reads as it did. -/
def descBackSpec : ChangeSpec := { name := "descBack", fn := fun _ => fun
  | [d1, d2, d3] => { results := [.lit (.bool true)], args := [d1, d2, d3] }
  | _ => none }
def descBackRow : OpenClaim := { program := "ytofmndcdcchflaa", sum := "cf7aa58523248f3f2a1c036ae9bac16752d25f30dbaedd11f6a0303b5d4b13d5", func := "pawl/pawllaw13.DescBack", spec := "descBack", unfollowed := true, recurses := true, apart := false }
def DescBackSaid : Prop := descBackRow.holds Try.pinned (OpenSpec.ofChange descBackSpec)

/-- ITS FALSE NEIGHBOUR: 'it returns false'. Refute it at one input. -/
def descBackWrong : ChangeSpec := { name := "descBack", fn := fun _ => fun
  | [d1, d2, d3] => { results := [.lit (.bool false)], args := [d1, d2, d3] }
  | _ => none }
def DescBackWrongFalsely : Prop := descBackRow.holds Try.pinned (OpenSpec.ofChange descBackWrong)

/-- 'pawllaw13.DescRows': WHATEVER THE INPUT: true; the input reads as it did. -/
def descRowsSpec : ChangeSpec := { name := "descRows", fn := fun _ => fun
  | [d] => { results := [.lit (.bool true)], args := [d] }
  | _ => none }
def descRowsRow : OpenClaim := { program := "ytofmndcdcchflaa", sum := "cf7aa58523248f3f2a1c036ae9bac16752d25f30dbaedd11f6a0303b5d4b13d5", func := "pawl/pawllaw13.DescRows", spec := "descRows", unfollowed := true, recurses := true, apart := false }
def DescRowsSaid : Prop := descRowsRow.holds Try.pinned (OpenSpec.ofChange descRowsSpec)

/-- ITS FALSE NEIGHBOUR: 'it returns false'. Refute it at one input. -/
def descRowsWrong : ChangeSpec := { name := "descRows", fn := fun _ => fun
  | [d] => { results := [.lit (.bool false)], args := [d] }
  | _ => none }
def DescRowsWrongFalsely : Prop := descRowsRow.holds Try.pinned (OpenSpec.ofChange descRowsWrong)

/-- 'pawllaw13.DescAnew': WHATEVER THE INPUT: true; the input reads as it did. -/
def descAnewSpec : ChangeSpec := { name := "descAnew", fn := fun _ => fun
  | [d1, d2, d3] => { results := [.lit (.bool true)], args := [d1, d2, d3] }
  | _ => none }
def descAnewRow : OpenClaim := { program := "ytofmndcdcchflaa", sum := "cf7aa58523248f3f2a1c036ae9bac16752d25f30dbaedd11f6a0303b5d4b13d5", func := "pawl/pawllaw13.DescAnew", spec := "descAnew", unfollowed := true, recurses := true, apart := false }
def DescAnewSaid : Prop := descAnewRow.holds Try.pinned (OpenSpec.ofChange descAnewSpec)

/-- ITS FALSE NEIGHBOUR: 'it returns false'. Refute it at one input. -/
def descAnewWrong : ChangeSpec := { name := "descAnew", fn := fun _ => fun
  | [d1, d2, d3] => { results := [.lit (.bool false)], args := [d1, d2, d3] }
  | _ => none }
def DescAnewWrongFalsely : Prop := descAnewRow.holds Try.pinned (OpenSpec.ofChange descAnewWrong)

/- THE SECOND FORM. 'bulk': how many values and letters a reading holds, each counted each time it is reached (what is shared counts as often as it is met; a slice's spare places count too). A statement '..UptoSaid' is the law's where the arguments, and the package variables that the reading takes, are together of bulk at most 1048576: NARROWER than '..Said'. Prove '..Said' where nothing that the law and all that it calls make is longer than what came in: it says more and counts as full. Else prove '..UptoSaid'. A law counts once. -/
mutual
def uptoBulk {H : Type} : DataW H → Nat
  | .lit (.string bytes) => bytes.length + 1
  | .lit _ => 1
  | .nil => 1
  | .ptr d => uptoBulk d + 1
  | .slice elems spare => uptoBulkAll elems + uptoBulkAll spare + 1
  | .agg parts => uptoBulkAll parts + 1
  | .iface _ d => uptoBulk d + 1
  | .map entries => uptoBulkEntries entries + 1
  | .held _ => 1
def uptoBulkAll {H : Type} : List (DataW H) → Nat
  | [] => 0
  | d :: r => uptoBulk d + uptoBulkAll r
def uptoBulkEntries {H : Type} : List (Lit × DataW H) → Nat
  | [] => 0
  | x :: r => uptoBulkEntry x + uptoBulkEntries r
def uptoBulkEntry {H : Type} : Lit × DataW H → Nat
  | (.string bytes, d) => bytes.length + uptoBulk d + 1
  | (_, d) => uptoBulk d + 1
 end
def uptoSmall : (H : Type) → List (DataW H) → Bool := fun _ ds => decide (uptoBulkAll ds ≤ 1048576)
def OpenSpec.upto (s : _root_.Go.ChangeSpec) : _root_.Go.OpenSpec := { _root_.Go.OpenSpec.ofChange s with cond := some uptoSmall }

/-- 'pawllaw13.Descs', WHERE WHAT IT READS IS OF BULK AT MOST 1048576: true; the input reads as it did. -/
def descsUptoRow : OpenClaim := { program := "ytofmndcdcchflaa", sum := "cf7aa58523248f3f2a1c036ae9bac16752d25f30dbaedd11f6a0303b5d4b13d5", func := "pawl/pawllaw13.Descs", spec := "descs", unfollowed := true, recurses := true, apart := false, narrowed := true }
def DescsUptoSaid : Prop := descsUptoRow.holds Try.pinned (OpenSpec.upto descsSpec)

/-- 'pawllaw13.DescForms', WHERE WHAT IT READS IS OF BULK AT MOST 1048576: true; the input reads as it did. -/
def descFormsUptoRow : OpenClaim := { program := "ytofmndcdcchflaa", sum := "cf7aa58523248f3f2a1c036ae9bac16752d25f30dbaedd11f6a0303b5d4b13d5", func := "pawl/pawllaw13.DescForms", spec := "descForms", unfollowed := true, recurses := true, apart := false, narrowed := true }
def DescFormsUptoSaid : Prop := descFormsUptoRow.holds Try.pinned (OpenSpec.upto descFormsSpec)

/-- 'pawllaw13.DescBack', WHERE WHAT IT READS IS OF BULK AT MOST 1048576: true; the input reads as it did. -/
def descBackUptoRow : OpenClaim := { program := "ytofmndcdcchflaa", sum := "cf7aa58523248f3f2a1c036ae9bac16752d25f30dbaedd11f6a0303b5d4b13d5", func := "pawl/pawllaw13.DescBack", spec := "descBack", unfollowed := true, recurses := true, apart := false, narrowed := true }
def DescBackUptoSaid : Prop := descBackUptoRow.holds Try.pinned (OpenSpec.upto descBackSpec)

/-- 'pawllaw13.DescRows', WHERE WHAT IT READS IS OF BULK AT MOST 1048576: true; the input reads as it did. -/
def descRowsUptoRow : OpenClaim := { program := "ytofmndcdcchflaa", sum := "cf7aa58523248f3f2a1c036ae9bac16752d25f30dbaedd11f6a0303b5d4b13d5", func := "pawl/pawllaw13.DescRows", spec := "descRows", unfollowed := true, recurses := true, apart := false, narrowed := true }
def DescRowsUptoSaid : Prop := descRowsUptoRow.holds Try.pinned (OpenSpec.upto descRowsSpec)

/-- 'pawllaw13.DescAnew', WHERE WHAT IT READS IS OF BULK AT MOST 1048576: true; the input reads as it did. -/
def descAnewUptoRow : OpenClaim := { program := "ytofmndcdcchflaa", sum := "cf7aa58523248f3f2a1c036ae9bac16752d25f30dbaedd11f6a0303b5d4b13d5", func := "pawl/pawllaw13.DescAnew", spec := "descAnew", unfollowed := true, recurses := true, apart := false, narrowed := true }
def DescAnewUptoSaid : Prop := descAnewUptoRow.holds Try.pinned (OpenSpec.upto descAnewSpec)

end Rows
end Go.Proofs.Ytofmndcdcchflaa
