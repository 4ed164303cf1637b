/- what is run. -/
import Derived.KernelRfl
import Derived.Test.YtdchpckikclmlaaTab
import Derived.Test.YtdchpckikclmlaaE4
namespace Go.Proofs.Ytdchpckikclmlaa
open Go.Sx Go
set_option maxRecDepth 100000
noncomputable def G0 : Gf := fun _ _ => 0
theorem G0_in (f : Nat) (l : List Int) : in64 (G0 f l) := by
 show in64 0
 unfold in64 lo64 hi64
 omega
abbrev vi (k : Nat) : SV := .int .i64 (.var k)
theorem noSpecs {G : Gf} : SpecsOk G Try.prog (spOf []) := spOf_ok (by intro x hx; cases hx)
theorem noBx {G : Gf} : BxOk G Try.prog (bxOf []) := bxOf_ok (by intro x hx; cases hx)
noncomputable def tabJ (fs : List Nat) : Tab Try.prog := { tab with dead := fun f => cond (fs.any (Nat.beq f)) (deadT f) none }
noncomputable def fun0 (f : Nat) : List SV → X SV := callF (tabJ []) (spOf []) (bxOf []) 400 12 f
theorem fun0_ok {G : Gf} (f : Nat) : SpecOk G Try.prog f (fun0 f) := callF_ok noSpecs noBx 400 12 f
def bodyOf (f : Func) : Code := f.body.getD .skip
noncomputable def slotsN (n : Nat) (xs : List (Nat × SV)) : List SV := (List.range n).map fun i => match Sx.look i xs with | some v => v | none => .nil
theorem one_ok {G : Gf} {a : Nat × (List SV → X SV)} (h : SpecOk G Try.prog a.1 a.2) : ∀ x ∈ [a], SpecOk G Try.prog x.1 x.2 := fun x hx => by
 rcases List.mem_singleton.1 hx with rfl
 exact h
theorem cons_ok {G : Gf} {a : Nat × (List SV → X SV)} {l : List (Nat × (List SV → X SV))} (h : SpecOk G Try.prog a.1 a.2) (hl : ∀ x ∈ l, SpecOk G Try.prog x.1 x.2) : ∀ x ∈ a :: l, SpecOk G Try.prog x.1 x.2 := fun x hx => by
 rcases List.mem_cons.1 hx with rfl | hx
 ·exact h
 ·exact hl x hx
noncomputable def minus (a b : IE) : IE := .add a (.mul b (.lit (-1)))
end Go.Proofs.Ytdchpckikclmlaa
