/- DescAnew: what is run. -/
import Derived.Test.YtofmndcdcchflaaBK
namespace Go.Proofs.Ytofmndcdcchflaa
open Go.Sx Go Go.DescNum
set_option maxRecDepth 100000
noncomputable def spN : List (Nat × (List SV → X SV)) := (21, freshX 98 backX) :: spB
noncomputable def lenA : Option Nat → Int × Int
 | some k => (k, k)
 | none => (17, hi64)
noncomputable def argA (b : Nat) : Option (Option Nat) → SV
 | some _ => sl3 b
 | none => .nils
noncomputable def entA (b : Nat) : Option (Option Nat) → List Ent
 | some _ => [en3 b]
 | none => []
noncomputable def facA (b : Nat) : Option (Option Nat) → List Fact
 | some l => fa3u b (lenA l).1 (lenA l).2
 | none => []
noncomputable def okA (x y : Option (Option Nat)) : Bool := allOf (callF (tabJ []) (spOf spN) (bxOf []) 400 12 7 [argA 10 x, argA 20 y, vi 1] (slMem (entA 10 x ++ entA 20 y) (facA 10 x ++ facA 20 y) 60)) isTrue
noncomputable abbrev ofL (k : Nat) : Option (Option Nat) := some (some k)
noncomputable abbrev longL : Option (Option Nat) := some none
noncomputable def allX : List (Option (Option Nat)) := [none, longL, ofL 0, ofL 1, ofL 2, ofL 3, ofL 4, ofL 5, ofL 6, ofL 7, ofL 8, ofL 9, ofL 10, ofL 11, ofL 12, ofL 13, ofL 14, ofL 15, ofL 16]
theorem fa_cons {α : Type} {P : α → Prop} {a : α} {l : List α} (h : P a) (hl : ∀ y ∈ l, P y) : ∀ y ∈ a :: l, P y := fun y hy => by
 rcases List.mem_cons.1 hy with rfl | hy
 ·exact h
 ·exact hl y hy
theorem okSpN {V : List Int} : ∀ x ∈ spN, SpecOk (G0 V) Try.prog x.1 x.2 := cons_ok (a := (21, freshX 98 backX)) (freshX_ok 98 back21_ok) okSpB
end Go.Proofs.Ytofmndcdcchflaa
