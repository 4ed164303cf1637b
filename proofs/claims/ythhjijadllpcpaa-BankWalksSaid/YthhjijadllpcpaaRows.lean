/-
  No cell of these rows narrows 'for every input' (looked for: loops, veiled, ifaces, maps, wideKeys, modest, calm, conditions, laid).
  DERIVED. THE GIVEN ROWS OF THIS SEAT. 5 by the template 'for every input the law returns true; each argument reads behind the call as it read before'; 0 by the template 'total and deterministic' (their statements: YthhjijadllpcpaaTotals.lean).
  GIVEN WITH THE SEED: the statements are not yours to turn. If you find one false, say at which input.
  Laid BY PROGRAM, IN A SANDBOX (cutbox-rows.mjs): the forced cells as the released guide's own fill.sh prints them over the translation 9e94efb51b24b259… (all of the seat's roots in one cut). By AI agents, Wed Nov 11 2026. No macro, syntax, notation, axiom, sorry.
-/
import Derived.Test.YthhjijadllpcpaaChecked
import GoSem.Claim
import GoSem.ClaimJoined
import GoSem.ClaimMapViews
import Derived.JoinedTies
import Derived.KernelRfl
namespace Go.Proofs.Ythhjijadllpcpaa
/- THE CELL 'sum', in the pinned program and in every row, IS THE sha256 OF THE DUMP (.gsa) THAT YthhjijadllpcpaaProg.lean LOADS. Nothing in Lean hashes anything: it is a label: what it is worth is what the hold of that sum in a sandbox is worth. -/
noncomputable def Try.pinned : Pinned := { name := "ythhjijadllpcpaa", sum := "9e94efb51b24b259c124b72cf13158b84355b4ee0f37f7ee9bac2ab6c8150aa8", checked := Try.checked }
namespace Rows
def none {H : Type} : Left H := { results := [], args := [] }

/-- 'pawllaw5.Banks': WHATEVER THE INPUT: true; the input reads as it did. -/
def banksSpec : ChangeSpec := { name := "banks", fn := fun _ => fun
  | [d1, d2] => { results := [.lit (.bool true)], args := [d1, d2] }
  | _ => none }
def banksRow : OpenClaim := { program := "ythhjijadllpcpaa", sum := "9e94efb51b24b259c124b72cf13158b84355b4ee0f37f7ee9bac2ab6c8150aa8", func := "pawl/pawllaw5.Banks", spec := "banks", unfollowed := true, recurses := true, apart := false }
def BanksSaid : Prop := banksRow.holds Try.pinned (OpenSpec.ofChange banksSpec)

/-- ITS FALSE NEIGHBOUR: 'it returns false'. Refute it at one input. -/
def banksWrong : ChangeSpec := { name := "banks", fn := fun _ => fun
  | [d1, d2] => { results := [.lit (.bool false)], args := [d1, d2] }
  | _ => none }
def BanksWrongFalsely : Prop := banksRow.holds Try.pinned (OpenSpec.ofChange banksWrong)

/-- 'pawllaw5.BankNeeds': WHATEVER THE INPUT: true; the input reads as it did. -/
def bankNeedsSpec : ChangeSpec := { name := "bankNeeds", fn := fun _ => fun
  | [d1, d2, d3] => { results := [.lit (.bool true)], args := [d1, d2, d3] }
  | _ => none }
def bankNeedsRow : OpenClaim := { program := "ythhjijadllpcpaa", sum := "9e94efb51b24b259c124b72cf13158b84355b4ee0f37f7ee9bac2ab6c8150aa8", func := "pawl/pawllaw5.BankNeeds", spec := "bankNeeds", unfollowed := true, recurses := true, apart := false }
def BankNeedsSaid : Prop := bankNeedsRow.holds Try.pinned (OpenSpec.ofChange bankNeedsSpec)

/-- ITS FALSE NEIGHBOUR: 'it returns false'. Refute it at one input. -/
def bankNeedsWrong : ChangeSpec := { name := "bankNeeds", fn := fun _ => fun
  | [d1, d2, d3] => { results := [.lit (.bool false)], args := [d1, d2, d3] }
  | _ => none }
def BankNeedsWrongFalsely : Prop := bankNeedsRow.holds Try.pinned (OpenSpec.ofChange bankNeedsWrong)

/-- 'pawllaw5.BankWalks': WHATEVER THE INPUT: true; the input reads as it did. -/
def bankWalksSpec : ChangeSpec := { name := "bankWalks", fn := fun _ => fun
  | [d] => { results := [.lit (.bool true)], args := [d] }
  | _ => none }
def bankWalksRow : OpenClaim := { program := "ythhjijadllpcpaa", sum := "9e94efb51b24b259c124b72cf13158b84355b4ee0f37f7ee9bac2ab6c8150aa8", func := "pawl/pawllaw5.BankWalks", spec := "bankWalks", unfollowed := true, recurses := true, apart := false }
def BankWalksSaid : Prop := bankWalksRow.holds Try.pinned (OpenSpec.ofChange bankWalksSpec)

/-- ITS FALSE NEIGHBOUR: 'it returns false'. Refute it at one input. -/
def bankWalksWrong : ChangeSpec := { name := "bankWalks", fn := fun _ => fun
  | [d] => { results := [.lit (.bool false)], args := [d] }
  | _ => none }
def BankWalksWrongFalsely : Prop := bankWalksRow.holds Try.pinned (OpenSpec.ofChange bankWalksWrong)

/-- 'pawllaw5.BankLimits': WHATEVER THE INPUT: true; the input reads as it did. -/
def bankLimitsSpec : ChangeSpec := { name := "bankLimits", fn := fun _ => fun
  | [d1, d2] => { results := [.lit (.bool true)], args := [d1, d2] }
  | _ => none }
def bankLimitsRow : OpenClaim := { program := "ythhjijadllpcpaa", sum := "9e94efb51b24b259c124b72cf13158b84355b4ee0f37f7ee9bac2ab6c8150aa8", func := "pawl/pawllaw5.BankLimits", spec := "bankLimits", unfollowed := true, recurses := true, apart := false }
def BankLimitsSaid : Prop := bankLimitsRow.holds Try.pinned (OpenSpec.ofChange bankLimitsSpec)

/-- ITS FALSE NEIGHBOUR: 'it returns false'. Refute it at one input. -/
def bankLimitsWrong : ChangeSpec := { name := "bankLimits", fn := fun _ => fun
  | [d1, d2] => { results := [.lit (.bool false)], args := [d1, d2] }
  | _ => none }
def BankLimitsWrongFalsely : Prop := bankLimitsRow.holds Try.pinned (OpenSpec.ofChange bankLimitsWrong)

/-- 'pawllaw5.BankRefuses': WHATEVER THE INPUT: true; the input reads as it did. -/
def bankRefusesSpec : ChangeSpec := { name := "bankRefuses", fn := fun _ => fun
  | [d1, d2] => { results := [.lit (.bool true)], args := [d1, d2] }
  | _ => none }
def bankRefusesRow : OpenClaim := { program := "ythhjijadllpcpaa", sum := "9e94efb51b24b259c124b72cf13158b84355b4ee0f37f7ee9bac2ab6c8150aa8", func := "pawl/pawllaw5.BankRefuses", spec := "bankRefuses", unfollowed := true, recurses := true, apart := false }
def BankRefusesSaid : Prop := bankRefusesRow.holds Try.pinned (OpenSpec.ofChange bankRefusesSpec)

/-- ITS FALSE NEIGHBOUR: 'it returns false'. Refute it at one input. -/
def bankRefusesWrong : ChangeSpec := { name := "bankRefuses", fn := fun _ => fun
  | [d1, d2] => { results := [.lit (.bool false)], args := [d1, d2] }
  | _ => none }
def BankRefusesWrongFalsely : Prop := bankRefusesRow.holds Try.pinned (OpenSpec.ofChange bankRefusesWrong)

/- THE SECOND FORM. 'bulk': how many values and letters a reading holds, each counted each time it is reached (what is shared counts as often as it is met; a slice's spare places count too). A statement '..UptoSaid' is the law's where the arguments, and the package variables that the reading takes, are together of bulk at most 1048576: NARROWER than '..Said'. Prove '..Said' where nothing that the law and all that it calls make is longer than what came in: it says more and counts as full. Else prove '..UptoSaid'. A law counts once. -/
mutual
def uptoBulk {H : Type} : DataW H → Nat
  | .lit (.string bytes) => bytes.length + 1
  | .lit _ => 1
  | .nil => 1
  | .ptr d => uptoBulk d + 1
  | .slice elems spare => uptoBulkAll elems + uptoBulkAll spare + 1
  | .agg parts => uptoBulkAll parts + 1
  | .iface _ d => uptoBulk d + 1
  | .map entries => uptoBulkEntries entries + 1
  | .held _ => 1
def uptoBulkAll {H : Type} : List (DataW H) → Nat
  | [] => 0
  | d :: r => uptoBulk d + uptoBulkAll r
def uptoBulkEntries {H : Type} : List (Lit × DataW H) → Nat
  | [] => 0
  | x :: r => uptoBulkEntry x + uptoBulkEntries r
def uptoBulkEntry {H : Type} : Lit × DataW H → Nat
  | (.string bytes, d) => bytes.length + uptoBulk d + 1
  | (_, d) => uptoBulk d + 1
 end
def uptoSmall : (H : Type) → List (DataW H) → Bool := fun _ ds => decide (uptoBulkAll ds ≤ 1048576)
def OpenSpec.upto (s : _root_.Go.ChangeSpec) : _root_.Go.OpenSpec := { _root_.Go.OpenSpec.ofChange s with cond := some uptoSmall }

/-- 'pawllaw5.Banks', WHERE WHAT IT READS IS OF BULK AT MOST 1048576: true; the input reads as it did. -/
def banksUptoRow : OpenClaim := { program := "ythhjijadllpcpaa", sum := "9e94efb51b24b259c124b72cf13158b84355b4ee0f37f7ee9bac2ab6c8150aa8", func := "pawl/pawllaw5.Banks", spec := "banks", unfollowed := true, recurses := true, apart := false, narrowed := true }
def BanksUptoSaid : Prop := banksUptoRow.holds Try.pinned (OpenSpec.upto banksSpec)

/-- 'pawllaw5.BankNeeds', WHERE WHAT IT READS IS OF BULK AT MOST 1048576: true; the input reads as it did. -/
def bankNeedsUptoRow : OpenClaim := { program := "ythhjijadllpcpaa", sum := "9e94efb51b24b259c124b72cf13158b84355b4ee0f37f7ee9bac2ab6c8150aa8", func := "pawl/pawllaw5.BankNeeds", spec := "bankNeeds", unfollowed := true, recurses := true, apart := false, narrowed := true }
def BankNeedsUptoSaid : Prop := bankNeedsUptoRow.holds Try.pinned (OpenSpec.upto bankNeedsSpec)

/-- 'pawllaw5.BankWalks', WHERE WHAT IT READS IS OF BULK AT MOST 1048576: true; the input reads as it did. -/
def bankWalksUptoRow : OpenClaim := { program := "ythhjijadllpcpaa", sum := "9e94efb51b24b259c124b72cf13158b84355b4ee0f37f7ee9bac2ab6c8150aa8", func := "pawl/pawllaw5.BankWalks", spec := "bankWalks", unfollowed := true, recurses := true, apart := false, narrowed := true }
def BankWalksUptoSaid : Prop := bankWalksUptoRow.holds Try.pinned (OpenSpec.upto bankWalksSpec)

/-- 'pawllaw5.BankLimits', WHERE WHAT IT READS IS OF BULK AT MOST 1048576: true; the input reads as it did. -/
def bankLimitsUptoRow : OpenClaim := { program := "ythhjijadllpcpaa", sum := "9e94efb51b24b259c124b72cf13158b84355b4ee0f37f7ee9bac2ab6c8150aa8", func := "pawl/pawllaw5.BankLimits", spec := "bankLimits", unfollowed := true, recurses := true, apart := false, narrowed := true }
def BankLimitsUptoSaid : Prop := bankLimitsUptoRow.holds Try.pinned (OpenSpec.upto bankLimitsSpec)

/-- 'pawllaw5.BankRefuses', WHERE WHAT IT READS IS OF BULK AT MOST 1048576: true; the input reads as it did. -/
def bankRefusesUptoRow : OpenClaim := { program := "ythhjijadllpcpaa", sum := "9e94efb51b24b259c124b72cf13158b84355b4ee0f37f7ee9bac2ab6c8150aa8", func := "pawl/pawllaw5.BankRefuses", spec := "bankRefuses", unfollowed := true, recurses := true, apart := false, narrowed := true }
def BankRefusesUptoSaid : Prop := bankRefusesUptoRow.holds Try.pinned (OpenSpec.upto bankRefusesSpec)

end Rows
end Go.Proofs.Ythhjijadllpcpaa
