/- what is run. -/
import Derived.Test.YthhjijadllpcpaaQTab
import Derived.Test.YthhjijadllpcpaaQE4
namespace Go.Proofs.Ythhjijadllpcpaa
open Go.Sx Go
set_option maxRecDepth 100000
abbrev vi (k : Nat) : SV := .int .i64 (.var k)
theorem noSpecs : SpecsOk Try.prog (spOf []) := spOf_ok (by intro x hx; cases hx)
theorem noBx : BxOk Try.prog (bxOf []) := bxOf_ok (by intro x hx; cases hx)
noncomputable def tabJ (fs : List Nat) : Tab Try.prog := { tab with dead := fun f => cond (fs.any (Nat.beq f)) (deadT f) none }
noncomputable def fun0 (f : Nat) : List SV → X SV := callF (tabJ []) (spOf []) (bxOf []) 400 12 f
theorem fun0_ok (f : Nat) : SpecOk Try.prog f (fun0 f) := callF_ok noSpecs noBx 400 12 f
def boolV (a : Nat) : Nat → SV → SV | 0, r => r | n+1, r => boolV a n (.cons (.bool (.var (a + n))) r)
def viewV (a r1 r2 : Nat) : SV := .agg (boolV a 16 (.cons (.arr .i64 r1 (.lit 16) .nil) (.cons (.arr .i64 r2 (.lit 16) .nil) .nil)))
def opV (a : Nat) : SV := .agg (.cons (vi a) (.cons (vi (a+1)) (.cons (vi (a+2)) (.cons (vi (a+3)) .nil))))
def memF (fs : List Fact) : Mem := { mem0 50 with know := ⟨fs, []⟩ }
def awakeP : Sx.Make := { args := [], mem := mem0 1, val := .bool (.lit true), out := none }
def rngs (r : Nat) : Nat → List Fact → List Fact | 0, l => l | n+1, l => rngs r n ((.sel r (.lit n), 0, 1099511627775) :: l)
/-- a view whose numbers are known to be values that may be -/
def viewP : Sx.Make := { args := [viewV 1 1 2], mem := { mem0 20 with know := ⟨rngs 1 16 (rngs 2 16 []), []⟩ }, val := .bool (.lit true), out := none }
theorem view_ok : makeRun (fun0 19) viewP = true := by kernel_rfl
theorem view2_ok : makeRun (fun0 23) viewP = true := by kernel_rfl
theorem awake_ok : makeRun (fun0 13) awakeP = true := by kernel_rfl
noncomputable def sp1 : Specs := spOf [(19, orX (makeX viewP) (mergeX (fun0 19))), (23, orX (makeX viewP) (mergeX (fun0 23))), (13, makeX awakeP)]
theorem sp1_ok : SpecsOk Try.prog sp1 := spOf_ok (by
  intro x hx
  simp only [List.mem_cons, List.not_mem_nil, or_false] at hx
  rcases hx with rfl | rfl | rfl
  · exact orX_ok (makeX_ok (fun0_ok 19) viewP view_ok) (mergeX_ok (fun0_ok 19))
  · exact orX_ok (makeX_ok (fun0_ok 23) viewP view2_ok) (mergeX_ok (fun0_ok 23))
  · exact makeX_ok (fun0_ok 13) awakeP awake_ok)
noncomputable def fun1 (f : Nat) : List SV → X SV := callF (tabJ []) sp1 (bxOf []) 400 12 f
theorem fun1_ok (f : Nat) : SpecOk Try.prog f (fun1 f) := callF_ok sp1_ok noBx 400 12 f
noncomputable def fun4 (f : Nat) : List SV → X SV := callF (tabJ [4]) sp1 (bxOf []) 400 12 f
theorem fun4_ok (f : Nat) : SpecOk Try.prog f (fun4 f) := callF_ok sp1_ok noBx 400 12 f
/-- an operation: its kind and its accounts are known -/
def opL (k a b : Int) (x : Nat) : SV := .agg (.cons (.int .i64 (.lit k)) (.cons (.int .i64 (.lit a)) (.cons (.int .i64 (.lit b)) (.cons (vi x) .nil))))
/-- the memory of a law over a view that may be: names below 50 -/
def memA (fs : List Fact) : Mem := memF (fs ++ rngs 6 16 (rngs 7 16 []))
end Go.Proofs.Ythhjijadllpcpaa
