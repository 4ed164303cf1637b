/- what is run; the unknown functions. -/
import Derived.KernelRfl
import Derived.Test.YtofmndcdcchflaaTab
import Derived.Test.YtofmndcdcchflaaE5
import Derived.Test.YtofmndcdcchflaaF
namespace Go.Proofs.Ytofmndcdcchflaa
open Go.Sx Go
set_option maxRecDepth 100000
noncomputable def clampZ (z : Int) : Int := if lo64 ≤ z ∧ z ≤ hi64 then z else 0
theorem clampZ_in (z : Int) : in64 (clampZ z) := by
 unfold clampZ
 split
 ·assumption
 ·constructor <;> decide
theorem clampZ_of {z : Int} (h : in64 z) : clampZ z = z := if_pos h
noncomputable def G0 (V : List Int) : Gf := fun f xs => clampZ (Go.DescNum.fz V f xs)
theorem G0_in (V : List Int) (f : Nat) (l : List Int) : in64 (G0 V f l) := clampZ_in _
abbrev vi (k : Nat) : SV := .int .i64 (.var k)
theorem noSpecs {G : Gf} : SpecsOk G Try.prog (spOf []) := spOf_ok (by intro x hx; cases hx)
theorem noBx {G : Gf} : BxOk G Try.prog (bxOf []) := bxOf_ok (by intro x hx; cases hx)
noncomputable def tabJ (fs : List Nat) : Tab Try.prog := { tab with dead := fun f => cond (fs.any (Nat.beq f)) (deadT f) none }
noncomputable def fun0 (f : Nat) : List SV → X SV := callF (tabJ []) (spOf []) (bxOf []) 400 12 f
theorem fun0_ok {G : Gf} (f : Nat) : SpecOk G Try.prog f (fun0 f) := callF_ok noSpecs noBx 400 12 f
def bodyOf (f : Func) : Code := f.body.getD .skip
noncomputable def slotsN (n : Nat) (xs : List (Nat × SV)) : List SV := (List.range n).map fun i => match Sx.look i xs with | some v => v | none => .nil
theorem one_ok {G : Gf} {a : Nat × (List SV → X SV)} (h : SpecOk G Try.prog a.1 a.2) : ∀ x ∈ [a], SpecOk G Try.prog x.1 x.2 := fun x hx => by
 rcases List.mem_singleton.1 hx with rfl
 exact h
theorem cons_ok {G : Gf} {a : Nat × (List SV → X SV)} {l : List (Nat × (List SV → X SV))} (h : SpecOk G Try.prog a.1 a.2) (hl : ∀ x ∈ l, SpecOk G Try.prog x.1 x.2) : ∀ x ∈ a :: l, SpecOk G Try.prog x.1 x.2 := fun x hx => by
 rcases List.mem_cons.1 hx with rfl | hx
 ·exact h
 ·exact hl x hx
noncomputable def cx0 : CX := callF (tabJ []) (spOf []) (bxOf []) 400 12
theorem cx0_ok {G : Gf} : CallsOk G Try.prog cx0 := by
 unfold cx0
 rw [callF_eq]
 exact callD_ok noSpecs noBx 400 12
noncomputable def g0 (f : Nat) : IE := .app f .noarg
noncomputable def g1 (f : Nat) (e : IE) : IE := .app f (.arg e .noarg)
noncomputable def minus (a b : IE) : IE := .add a (.mul b (.lit (-1)))
end Go.Proofs.Ytofmndcdcchflaa
