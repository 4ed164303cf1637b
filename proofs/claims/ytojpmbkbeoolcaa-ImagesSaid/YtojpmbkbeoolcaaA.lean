/- what is run. -/
import Derived.Test.YtojpmbkbeoolcaaG
namespace Go.Proofs.Ytojpmbkbeoolcaa
open Go.Sx Go
set_option maxRecDepth 100000
abbrev vi (k : Nat) : SV := .int .i64 (.var k)
theorem noBx {G : Gf} : BxOk G Try.prog (bxOf []) := bxOf_ok (by intro x hx; cases hx)
noncomputable def tabJ (fs : List Nat) : Tab Try.prog := { tab with dead := fun f => cond (fs.any (Nat.beq f)) (deadT f) none }
noncomputable def funL (l : List (Nat × (List SV → X SV))) (f : Nat) : List SV → X SV := callF (tabJ []) (spOf l) (bxOf []) 400 12 f
theorem funL_ok {G : Gf} {l : List (Nat × (List SV → X SV))} (h : ∀ x ∈ l, SpecOk G Try.prog x.1 x.2) (f : Nat) : SpecOk G Try.prog f (funL l f) := callF_ok (spOf_ok h) noBx 400 12 f
noncomputable def fun0 (f : Nat) : List SV → X SV := funL [] f
theorem fun0_ok {G : Gf} (f : Nat) : SpecOk G Try.prog f (fun0 f) := funL_ok (fun _ h => (by cases h)) f
theorem one_ok {G : Gf} {a : Nat × (List SV → X SV)} (h : SpecOk G Try.prog a.1 a.2) : ∀ x ∈ [a], SpecOk G Try.prog x.1 x.2 := fun x hx => by
 rcases List.mem_singleton.1 hx with rfl
 exact h
theorem cons_ok {G : Gf} {a : Nat × (List SV → X SV)} {l : List (Nat × (List SV → X SV))} (h : SpecOk G Try.prog a.1 a.2) (hl : ∀ x ∈ l, SpecOk G Try.prog x.1 x.2) : ∀ x ∈ a :: l, SpecOk G Try.prog x.1 x.2 := fun x hx => by
 rcases List.mem_cons.1 hx with rfl | hx
 ·exact h
 ·exact hl x hx
noncomputable def boolV (a : Nat) : Nat → SV → SV | 0, r => r | n+1, r => boolV a n (.cons (.bool (.var (a + n))) r)
noncomputable def stV (r a : Nat) : SV := .agg (.cons (.arr .i64 r (.lit 4) .nil) (boolV a 5 .nil))
noncomputable def opV (a : Nat) : SV := .agg (.cons (vi a) (.cons (vi (a+1)) (.cons (vi (a+2)) (.cons (vi (a+3)) .nil))))
noncomputable def memF (fs : List Fact) : Mem := { mem0 50 with know := ⟨fs, []⟩ }
noncomputable def rngB (r : Nat) : List Fact := [(.sel r (.lit 0), -1, 1048575), (.sel r (.lit 1), -1, 1048575), (.sel r (.lit 2), -1, 1048575), (.sel r (.lit 3), -1, 1048575)]
end Go.Proofs.Ytojpmbkbeoolcaa
