/-
  No cell of these rows narrows 'for every input' (looked for: loops, veiled, ifaces, maps, wideKeys, modest, calm, conditions, laid).
  DERIVED. THE GIVEN ROWS OF THIS SEAT. 5 by the template 'for every input the law returns true; each argument reads behind the call as it read before'; 0 by the template 'total and deterministic' (their statements: YtalkfdkcimfmpaaTotals.lean).
  GIVEN WITH THE SEED: the statements are not yours to turn. If you find one false, say at which input.
  Laid BY PROGRAM, IN A SANDBOX (cutbox-rows.mjs): the forced cells as the released guide's own fill.sh prints them over the translation 1af5efe32752564e… (all of the seat's roots in one cut). By AI agents, Wed Nov 11 2026. No macro, syntax, notation, axiom, sorry.
-/
import Derived.Test.YtalkfdkcimfmpaaChecked
import GoSem.Claim
import GoSem.ClaimJoined
import GoSem.ClaimMapViews
import Derived.JoinedTies
import Derived.KernelRfl
namespace Go.Proofs.Ytalkfdkcimfmpaa
/- THE CELL 'sum', in the pinned program and in every row, IS THE sha256 OF THE DUMP (.gsa) THAT YtalkfdkcimfmpaaProg.lean LOADS. Nothing in Lean hashes anything: it is a label: what it is worth is what the hold of that sum in a sandbox is worth. -/
noncomputable def Try.pinned : Pinned := { name := "ytalkfdkcimfmpaa", sum := "1af5efe32752564eec0efd529d167f65af0c3ce6f9730a8c88a4a4f8cdf13919", checked := Try.checked }
namespace Rows
def none {H : Type} : Left H := { results := [], args := [] }

/-- 'pawllaw10.Frees': WHATEVER THE INPUT: true; the input reads as it did. -/
def freesSpec : ChangeSpec := { name := "frees", fn := fun _ => fun
  | [d1, d2, d3, d4] => { results := [.lit (.bool true)], args := [d1, d2, d3, d4] }
  | _ => none }
def freesRow : OpenClaim := { program := "ytalkfdkcimfmpaa", sum := "1af5efe32752564eec0efd529d167f65af0c3ce6f9730a8c88a4a4f8cdf13919", func := "pawl/pawllaw10.Frees", spec := "frees", unfollowed := true, recurses := true, apart := false }
def FreesSaid : Prop := freesRow.holds Try.pinned (OpenSpec.ofChange freesSpec)

/-- ITS FALSE NEIGHBOUR: 'it returns false'. Refute it at one input. -/
def freesWrong : ChangeSpec := { name := "frees", fn := fun _ => fun
  | [d1, d2, d3, d4] => { results := [.lit (.bool false)], args := [d1, d2, d3, d4] }
  | _ => none }
def FreesWrongFalsely : Prop := freesRow.holds Try.pinned (OpenSpec.ofChange freesWrong)

/-- 'pawllaw10.FreeRows': WHATEVER THE INPUT: true; the input reads as it did. -/
def freeRowsSpec : ChangeSpec := { name := "freeRows", fn := fun _ => fun
  | [d] => { results := [.lit (.bool true)], args := [d] }
  | _ => none }
def freeRowsRow : OpenClaim := { program := "ytalkfdkcimfmpaa", sum := "1af5efe32752564eec0efd529d167f65af0c3ce6f9730a8c88a4a4f8cdf13919", func := "pawl/pawllaw10.FreeRows", spec := "freeRows", unfollowed := true, recurses := true, apart := false }
def FreeRowsSaid : Prop := freeRowsRow.holds Try.pinned (OpenSpec.ofChange freeRowsSpec)

/-- ITS FALSE NEIGHBOUR: 'it returns false'. Refute it at one input. -/
def freeRowsWrong : ChangeSpec := { name := "freeRows", fn := fun _ => fun
  | [d] => { results := [.lit (.bool false)], args := [d] }
  | _ => none }
def FreeRowsWrongFalsely : Prop := freeRowsRow.holds Try.pinned (OpenSpec.ofChange freeRowsWrong)

/-- 'pawllaw10.FreeForms': WHATEVER THE INPUT: true; the input reads as it did. -/
def freeFormsSpec : ChangeSpec := { name := "freeForms", fn := fun _ => fun
  | [d1, d2] => { results := [.lit (.bool true)], args := [d1, d2] }
  | _ => none }
def freeFormsRow : OpenClaim := { program := "ytalkfdkcimfmpaa", sum := "1af5efe32752564eec0efd529d167f65af0c3ce6f9730a8c88a4a4f8cdf13919", func := "pawl/pawllaw10.FreeForms", spec := "freeForms", unfollowed := true, recurses := true, apart := false }
def FreeFormsSaid : Prop := freeFormsRow.holds Try.pinned (OpenSpec.ofChange freeFormsSpec)

/-- ITS FALSE NEIGHBOUR: 'it returns false'. Refute it at one input. -/
def freeFormsWrong : ChangeSpec := { name := "freeForms", fn := fun _ => fun
  | [d1, d2] => { results := [.lit (.bool false)], args := [d1, d2] }
  | _ => none }
def FreeFormsWrongFalsely : Prop := freeFormsRow.holds Try.pinned (OpenSpec.ofChange freeFormsWrong)

/-- 'pawllaw10.FreeLast': WHATEVER THE INPUT: true; the input reads as it did. -/
def freeLastSpec : ChangeSpec := { name := "freeLast", fn := fun _ => fun
  | [d] => { results := [.lit (.bool true)], args := [d] }
  | _ => none }
def freeLastRow : OpenClaim := { program := "ytalkfdkcimfmpaa", sum := "1af5efe32752564eec0efd529d167f65af0c3ce6f9730a8c88a4a4f8cdf13919", func := "pawl/pawllaw10.FreeLast", spec := "freeLast", unfollowed := true, recurses := true, apart := false }
def FreeLastSaid : Prop := freeLastRow.holds Try.pinned (OpenSpec.ofChange freeLastSpec)

/-- ITS FALSE NEIGHBOUR: 'it returns false'. Refute it at one input. -/
def freeLastWrong : ChangeSpec := { name := "freeLast", fn := fun _ => fun
  | [d] => { results := [.lit (.bool false)], args := [d] }
  | _ => none }
def FreeLastWrongFalsely : Prop := freeLastRow.holds Try.pinned (OpenSpec.ofChange freeLastWrong)

/-- 'pawllaw10.FreeCounts': WHATEVER THE INPUT: true; the input reads as it did. -/
def freeCountsSpec : ChangeSpec := { name := "freeCounts", fn := fun _ => fun
  | [d] => { results := [.lit (.bool true)], args := [d] }
  | _ => none }
def freeCountsRow : OpenClaim := { program := "ytalkfdkcimfmpaa", sum := "1af5efe32752564eec0efd529d167f65af0c3ce6f9730a8c88a4a4f8cdf13919", func := "pawl/pawllaw10.FreeCounts", spec := "freeCounts", unfollowed := true, recurses := true, apart := false }
def FreeCountsSaid : Prop := freeCountsRow.holds Try.pinned (OpenSpec.ofChange freeCountsSpec)

/-- ITS FALSE NEIGHBOUR: 'it returns false'. Refute it at one input. -/
def freeCountsWrong : ChangeSpec := { name := "freeCounts", fn := fun _ => fun
  | [d] => { results := [.lit (.bool false)], args := [d] }
  | _ => none }
def FreeCountsWrongFalsely : Prop := freeCountsRow.holds Try.pinned (OpenSpec.ofChange freeCountsWrong)

/- THE SECOND FORM. 'bulk': how many values and letters a reading holds, each counted each time it is reached (what is shared counts as often as it is met; a slice's spare places count too). A statement '..UptoSaid' is the law's where the arguments, and the package variables that the reading takes, are together of bulk at most 1048576: NARROWER than '..Said'. Prove '..Said' where nothing that the law and all that it calls make is longer than what came in: it says more and counts as full. Else prove '..UptoSaid'. A law counts once. -/
mutual
def uptoBulk {H : Type} : DataW H → Nat
  | .lit (.string bytes) => bytes.length + 1
  | .lit _ => 1
  | .nil => 1
  | .ptr d => uptoBulk d + 1
  | .slice elems spare => uptoBulkAll elems + uptoBulkAll spare + 1
  | .agg parts => uptoBulkAll parts + 1
  | .iface _ d => uptoBulk d + 1
  | .map entries => uptoBulkEntries entries + 1
  | .held _ => 1
def uptoBulkAll {H : Type} : List (DataW H) → Nat
  | [] => 0
  | d :: r => uptoBulk d + uptoBulkAll r
def uptoBulkEntries {H : Type} : List (Lit × DataW H) → Nat
  | [] => 0
  | x :: r => uptoBulkEntry x + uptoBulkEntries r
def uptoBulkEntry {H : Type} : Lit × DataW H → Nat
  | (.string bytes, d) => bytes.length + uptoBulk d + 1
  | (_, d) => uptoBulk d + 1
 end
def uptoSmall : (H : Type) → List (DataW H) → Bool := fun _ ds => decide (uptoBulkAll ds ≤ 1048576)
def OpenSpec.upto (s : _root_.Go.ChangeSpec) : _root_.Go.OpenSpec := { _root_.Go.OpenSpec.ofChange s with cond := some uptoSmall }

/-- 'pawllaw10.Frees', WHERE WHAT IT READS IS OF BULK AT MOST 1048576: true; the input reads as it did. -/
def freesUptoRow : OpenClaim := { program := "ytalkfdkcimfmpaa", sum := "1af5efe32752564eec0efd529d167f65af0c3ce6f9730a8c88a4a4f8cdf13919", func := "pawl/pawllaw10.Frees", spec := "frees", unfollowed := true, recurses := true, apart := false, narrowed := true }
def FreesUptoSaid : Prop := freesUptoRow.holds Try.pinned (OpenSpec.upto freesSpec)

/-- 'pawllaw10.FreeRows', WHERE WHAT IT READS IS OF BULK AT MOST 1048576: true; the input reads as it did. -/
def freeRowsUptoRow : OpenClaim := { program := "ytalkfdkcimfmpaa", sum := "1af5efe32752564eec0efd529d167f65af0c3ce6f9730a8c88a4a4f8cdf13919", func := "pawl/pawllaw10.FreeRows", spec := "freeRows", unfollowed := true, recurses := true, apart := false, narrowed := true }
def FreeRowsUptoSaid : Prop := freeRowsUptoRow.holds Try.pinned (OpenSpec.upto freeRowsSpec)

/-- 'pawllaw10.FreeForms', WHERE WHAT IT READS IS OF BULK AT MOST 1048576: true; the input reads as it did. -/
def freeFormsUptoRow : OpenClaim := { program := "ytalkfdkcimfmpaa", sum := "1af5efe32752564eec0efd529d167f65af0c3ce6f9730a8c88a4a4f8cdf13919", func := "pawl/pawllaw10.FreeForms", spec := "freeForms", unfollowed := true, recurses := true, apart := false, narrowed := true }
def FreeFormsUptoSaid : Prop := freeFormsUptoRow.holds Try.pinned (OpenSpec.upto freeFormsSpec)

/-- 'pawllaw10.FreeLast', WHERE WHAT IT READS IS OF BULK AT MOST 1048576: true; the input reads as it did. -/
def freeLastUptoRow : OpenClaim := { program := "ytalkfdkcimfmpaa", sum := "1af5efe32752564eec0efd529d167f65af0c3ce6f9730a8c88a4a4f8cdf13919", func := "pawl/pawllaw10.FreeLast", spec := "freeLast", unfollowed := true, recurses := true, apart := false, narrowed := true }
def FreeLastUptoSaid : Prop := freeLastUptoRow.holds Try.pinned (OpenSpec.upto freeLastSpec)

/-- 'pawllaw10.FreeCounts', WHERE WHAT IT READS IS OF BULK AT MOST 1048576: true; the input reads as it did. -/
def freeCountsUptoRow : OpenClaim := { program := "ytalkfdkcimfmpaa", sum := "1af5efe32752564eec0efd529d167f65af0c3ce6f9730a8c88a4a4f8cdf13919", func := "pawl/pawllaw10.FreeCounts", spec := "freeCounts", unfollowed := true, recurses := true, apart := false, narrowed := true }
def FreeCountsUptoSaid : Prop := freeCountsUptoRow.holds Try.pinned (OpenSpec.upto freeCountsSpec)

end Rows
end Go.Proofs.Ytalkfdkcimfmpaa
