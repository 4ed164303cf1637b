/-
  No cell of these rows narrows 'for every input' (looked for: loops, veiled, ifaces, maps, wideKeys, modest, calm, conditions, laid).
  DERIVED. THE GIVEN ROWS OF THIS SEAT. 5 by the template 'for every input the law returns true; each argument reads behind the call as it read before'; 0 by the template 'total and deterministic' (their statements: YtoemdbongkkmjaaTotals.lean).
  GIVEN WITH THE SEED: the statements are not yours to turn. If you find one false, say at which input.
  Laid BY PROGRAM, IN A SANDBOX (cutbox-rows.mjs): the forced cells as the released guide's own fill.sh prints them over the translation deb0c29df0121c27… (all of the seat's roots in one cut). By AI agents, Wed Nov 11 2026. No macro, syntax, notation, axiom, sorry.
-/
import Derived.Test.YtoemdbongkkmjaaChecked
import GoSem.Claim
import GoSem.ClaimJoined
import GoSem.ClaimMapViews
import Derived.JoinedTies
import Derived.KernelRfl
namespace Go.Proofs.Ytoemdbongkkmjaa
/- THE CELL 'sum', in the pinned program and in every row, IS THE sha256 OF THE DUMP (.gsa) THAT YtoemdbongkkmjaaProg.lean LOADS. Nothing in Lean hashes anything: it is a label: what it is worth is what the hold of that sum in a sandbox is worth. -/
noncomputable def Try.pinned : Pinned := { name := "ytoemdbongkkmjaa", sum := "deb0c29df0121c2739b5554ccfc76512494e0f3717e439294aecd6bd6116fa59", checked := Try.checked }
namespace Rows
def none {H : Type} : Left H := { results := [], args := [] }

/-- 'pawllaw12.Limbos': WHATEVER THE INPUT: true; the input reads as it did. -/
def limbosSpec : ChangeSpec := { name := "limbos", fn := fun _ => fun
  | [d1, d2, d3] => { results := [.lit (.bool true)], args := [d1, d2, d3] }
  | _ => none }
def limbosRow : OpenClaim := { program := "ytoemdbongkkmjaa", sum := "deb0c29df0121c2739b5554ccfc76512494e0f3717e439294aecd6bd6116fa59", func := "pawl/pawllaw12.Limbos", spec := "limbos", apart := false }
def LimbosSaid : Prop := limbosRow.holds Try.pinned (OpenSpec.ofChange limbosSpec)

/-- ITS FALSE NEIGHBOUR: 'it returns false'. Refute it at one input. -/
def limbosWrong : ChangeSpec := { name := "limbos", fn := fun _ => fun
  | [d1, d2, d3] => { results := [.lit (.bool false)], args := [d1, d2, d3] }
  | _ => none }
def LimbosWrongFalsely : Prop := limbosRow.holds Try.pinned (OpenSpec.ofChange limbosWrong)

/-- 'pawllaw12.LimboWaits': WHATEVER THE INPUT: true; the input reads as it did. -/
def limboWaitsSpec : ChangeSpec := { name := "limboWaits", fn := fun _ => fun
  | [d] => { results := [.lit (.bool true)], args := [d] }
  | _ => none }
def limboWaitsRow : OpenClaim := { program := "ytoemdbongkkmjaa", sum := "deb0c29df0121c2739b5554ccfc76512494e0f3717e439294aecd6bd6116fa59", func := "pawl/pawllaw12.LimboWaits", spec := "limboWaits", apart := false }
def LimboWaitsSaid : Prop := limboWaitsRow.holds Try.pinned (OpenSpec.ofChange limboWaitsSpec)

/-- ITS FALSE NEIGHBOUR: 'it returns false'. Refute it at one input. -/
def limboWaitsWrong : ChangeSpec := { name := "limboWaits", fn := fun _ => fun
  | [d] => { results := [.lit (.bool false)], args := [d] }
  | _ => none }
def LimboWaitsWrongFalsely : Prop := limboWaitsRow.holds Try.pinned (OpenSpec.ofChange limboWaitsWrong)

/-- 'pawllaw12.LimboForms': WHATEVER THE INPUT: true; the input reads as it did. -/
def limboFormsSpec : ChangeSpec := { name := "limboForms", fn := fun _ => fun
  | [d1, d2] => { results := [.lit (.bool true)], args := [d1, d2] }
  | _ => none }
def limboFormsRow : OpenClaim := { program := "ytoemdbongkkmjaa", sum := "deb0c29df0121c2739b5554ccfc76512494e0f3717e439294aecd6bd6116fa59", func := "pawl/pawllaw12.LimboForms", spec := "limboForms", apart := false }
def LimboFormsSaid : Prop := limboFormsRow.holds Try.pinned (OpenSpec.ofChange limboFormsSpec)

/-- ITS FALSE NEIGHBOUR: 'it returns false'. Refute it at one input. -/
def limboFormsWrong : ChangeSpec := { name := "limboForms", fn := fun _ => fun
  | [d1, d2] => { results := [.lit (.bool false)], args := [d1, d2] }
  | _ => none }
def LimboFormsWrongFalsely : Prop := limboFormsRow.holds Try.pinned (OpenSpec.ofChange limboFormsWrong)

/-- 'pawllaw12.LimboRows': WHATEVER THE INPUT: true; the input reads as it did. -/
def limboRowsSpec : ChangeSpec := { name := "limboRows", fn := fun _ => fun
  | [d1, d2] => { results := [.lit (.bool true)], args := [d1, d2] }
  | _ => none }
def limboRowsRow : OpenClaim := { program := "ytoemdbongkkmjaa", sum := "deb0c29df0121c2739b5554ccfc76512494e0f3717e439294aecd6bd6116fa59", func := "pawl/pawllaw12.LimboRows", spec := "limboRows", apart := false }
def LimboRowsSaid : Prop := limboRowsRow.holds Try.pinned (OpenSpec.ofChange limboRowsSpec)

/-- ITS FALSE NEIGHBOUR: 'it returns false'. Refute it at one input. -/
def limboRowsWrong : ChangeSpec := { name := "limboRows", fn := fun _ => fun
  | [d1, d2] => { results := [.lit (.bool false)], args := [d1, d2] }
  | _ => none }
def LimboRowsWrongFalsely : Prop := limboRowsRow.holds Try.pinned (OpenSpec.ofChange limboRowsWrong)

/-- 'pawllaw12.LimboEmpties': WHATEVER THE INPUT: true; the input reads as it did. -/
def limboEmptiesSpec : ChangeSpec := { name := "limboEmpties", fn := fun _ => fun
  | [d1, d2] => { results := [.lit (.bool true)], args := [d1, d2] }
  | _ => none }
def limboEmptiesRow : OpenClaim := { program := "ytoemdbongkkmjaa", sum := "deb0c29df0121c2739b5554ccfc76512494e0f3717e439294aecd6bd6116fa59", func := "pawl/pawllaw12.LimboEmpties", spec := "limboEmpties", apart := false }
def LimboEmptiesSaid : Prop := limboEmptiesRow.holds Try.pinned (OpenSpec.ofChange limboEmptiesSpec)

/-- ITS FALSE NEIGHBOUR: 'it returns false'. Refute it at one input. -/
def limboEmptiesWrong : ChangeSpec := { name := "limboEmpties", fn := fun _ => fun
  | [d1, d2] => { results := [.lit (.bool false)], args := [d1, d2] }
  | _ => none }
def LimboEmptiesWrongFalsely : Prop := limboEmptiesRow.holds Try.pinned (OpenSpec.ofChange limboEmptiesWrong)

/- THE SECOND FORM. 'bulk': how many values and letters a reading holds, each counted each time it is reached (what is shared counts as often as it is met; a slice's spare places count too). A statement '..UptoSaid' is the law's where the arguments, and the package variables that the reading takes, are together of bulk at most 1048576: NARROWER than '..Said'. Prove '..Said' where nothing that the law and all that it calls make is longer than what came in: it says more and counts as full. Else prove '..UptoSaid'. A law counts once. -/
mutual
def uptoBulk {H : Type} : DataW H → Nat
  | .lit (.string bytes) => bytes.length + 1
  | .lit _ => 1
  | .nil => 1
  | .ptr d => uptoBulk d + 1
  | .slice elems spare => uptoBulkAll elems + uptoBulkAll spare + 1
  | .agg parts => uptoBulkAll parts + 1
  | .iface _ d => uptoBulk d + 1
  | .map entries => uptoBulkEntries entries + 1
  | .held _ => 1
def uptoBulkAll {H : Type} : List (DataW H) → Nat
  | [] => 0
  | d :: r => uptoBulk d + uptoBulkAll r
def uptoBulkEntries {H : Type} : List (Lit × DataW H) → Nat
  | [] => 0
  | x :: r => uptoBulkEntry x + uptoBulkEntries r
def uptoBulkEntry {H : Type} : Lit × DataW H → Nat
  | (.string bytes, d) => bytes.length + uptoBulk d + 1
  | (_, d) => uptoBulk d + 1
 end
def uptoSmall : (H : Type) → List (DataW H) → Bool := fun _ ds => decide (uptoBulkAll ds ≤ 1048576)
def OpenSpec.upto (s : _root_.Go.ChangeSpec) : _root_.Go.OpenSpec := { _root_.Go.OpenSpec.ofChange s with cond := some uptoSmall }

/-- 'pawllaw12.Limbos', WHERE WHAT IT READS IS OF BULK AT MOST 1048576: true; the input reads as it did. -/
def limbosUptoRow : OpenClaim := { program := "ytoemdbongkkmjaa", sum := "deb0c29df0121c2739b5554ccfc76512494e0f3717e439294aecd6bd6116fa59", func := "pawl/pawllaw12.Limbos", spec := "limbos", apart := false, narrowed := true }
def LimbosUptoSaid : Prop := limbosUptoRow.holds Try.pinned (OpenSpec.upto limbosSpec)

/-- 'pawllaw12.LimboWaits', WHERE WHAT IT READS IS OF BULK AT MOST 1048576: true; the input reads as it did. -/
def limboWaitsUptoRow : OpenClaim := { program := "ytoemdbongkkmjaa", sum := "deb0c29df0121c2739b5554ccfc76512494e0f3717e439294aecd6bd6116fa59", func := "pawl/pawllaw12.LimboWaits", spec := "limboWaits", apart := false, narrowed := true }
def LimboWaitsUptoSaid : Prop := limboWaitsUptoRow.holds Try.pinned (OpenSpec.upto limboWaitsSpec)

/-- 'pawllaw12.LimboForms', WHERE WHAT IT READS IS OF BULK AT MOST 1048576: true; the input reads as it did. -/
def limboFormsUptoRow : OpenClaim := { program := "ytoemdbongkkmjaa", sum := "deb0c29df0121c2739b5554ccfc76512494e0f3717e439294aecd6bd6116fa59", func := "pawl/pawllaw12.LimboForms", spec := "limboForms", apart := false, narrowed := true }
def LimboFormsUptoSaid : Prop := limboFormsUptoRow.holds Try.pinned (OpenSpec.upto limboFormsSpec)

/-- 'pawllaw12.LimboRows', WHERE WHAT IT READS IS OF BULK AT MOST 1048576: true; the input reads as it did. -/
def limboRowsUptoRow : OpenClaim := { program := "ytoemdbongkkmjaa", sum := "deb0c29df0121c2739b5554ccfc76512494e0f3717e439294aecd6bd6116fa59", func := "pawl/pawllaw12.LimboRows", spec := "limboRows", apart := false, narrowed := true }
def LimboRowsUptoSaid : Prop := limboRowsUptoRow.holds Try.pinned (OpenSpec.upto limboRowsSpec)

/-- 'pawllaw12.LimboEmpties', WHERE WHAT IT READS IS OF BULK AT MOST 1048576: true; the input reads as it did. -/
def limboEmptiesUptoRow : OpenClaim := { program := "ytoemdbongkkmjaa", sum := "deb0c29df0121c2739b5554ccfc76512494e0f3717e439294aecd6bd6116fa59", func := "pawl/pawllaw12.LimboEmpties", spec := "limboEmpties", apart := false, narrowed := true }
def LimboEmptiesUptoSaid : Prop := limboEmptiesUptoRow.holds Try.pinned (OpenSpec.upto limboEmptiesSpec)

end Rows
end Go.Proofs.Ytoemdbongkkmjaa
