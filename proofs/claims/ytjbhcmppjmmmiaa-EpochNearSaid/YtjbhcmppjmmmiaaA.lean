/- what is run; the unknown functions. -/
import Derived.KernelRfl
import Derived.Test.YtjbhcmppjmmmiaaTab
import Derived.Test.YtjbhcmppjmmmiaaE5
import Derived.Test.YtjbhcmppjmmmiaaF
namespace Go.Proofs.Ytjbhcmppjmmmiaa
open Go.Sx Go
set_option maxRecDepth 100000
noncomputable def clampZ (z : Int) : Int := if lo64 ≤ z ∧ z ≤ hi64 then z else 0
theorem clampZ_in (z : Int) : in64 (clampZ z) := by
 unfold clampZ
 split
 ·assumption
 ·constructor <;> decide
theorem clampZ_of {z : Int} (h : in64 z) : clampZ z = z := if_pos h
noncomputable def G0 : Gf := fun f xs => clampZ (Go.EpochInv.fz f xs)
theorem G0_in (f : Nat) (l : List Int) : in64 (G0 f l) := clampZ_in _
abbrev vi (k : Nat) : SV := .int .i64 (.var k)
theorem noSpecs : SpecsOk G0 Try.prog (spOf []) := spOf_ok (by intro x hx; cases hx)
theorem noBx : BxOk G0 Try.prog (bxOf []) := bxOf_ok (by intro x hx; cases hx)
noncomputable def tabJ (fs : List Nat) : Tab Try.prog := { tab with dead := fun f => cond (fs.any (Nat.beq f)) (deadT f) none }
noncomputable def fun0 (f : Nat) : List SV → X SV := callF (tabJ []) (spOf []) (bxOf []) 400 12 f
theorem fun0_ok (f : Nat) : SpecOk G0 Try.prog f (fun0 f) := callF_ok noSpecs noBx 400 12 f
def bodyOf (f : Func) : Code := f.body.getD .skip
noncomputable def slotsN (n : Nat) (xs : List (Nat × SV)) : List SV := (List.range n).map fun i => match Sx.look i xs with | some v => v | none => .nil
theorem one_ok {G : Gf} {a : Nat × (List SV → X SV)} (h : SpecOk G Try.prog a.1 a.2) : ∀ x ∈ [a], SpecOk G Try.prog x.1 x.2 := fun x hx => by
 rcases List.mem_singleton.1 hx with rfl
 exact h
theorem cons_ok {G : Gf} {a : Nat × (List SV → X SV)} {l : List (Nat × (List SV → X SV))} (h : SpecOk G Try.prog a.1 a.2) (hl : ∀ x ∈ l, SpecOk G Try.prog x.1 x.2) : ∀ x ∈ a :: l, SpecOk G Try.prog x.1 x.2 := fun x hx => by
 rcases List.mem_cons.1 hx with rfl | hx
 ·exact h
 ·exact hl x hx
noncomputable def funL (sp : List (Nat × (List SV → X SV))) (f : Nat) : List SV → X SV := callF (tabJ []) (spOf sp) (bxOf []) 400 12 f
theorem funL_ok {sp : List (Nat × (List SV → X SV))} (h : ∀ x ∈ sp, SpecOk G0 Try.prog x.1 x.2) (f : Nat) : SpecOk G0 Try.prog f (funL sp f) := callF_ok (spOf_ok h) noBx 400 12 f
noncomputable def aw : Sx.Make := { args := [], mem := mem0 1, val := .bool (.lit true), out := none }
theorem awRun : makeRun (fun0 24) aw = true := by kernel_rfl
theorem aw_ok : SpecOk G0 Try.prog 24 (makeX aw) := makeX_ok (fun0_ok 24) aw awRun
end Go.Proofs.Ytjbhcmppjmmmiaa
