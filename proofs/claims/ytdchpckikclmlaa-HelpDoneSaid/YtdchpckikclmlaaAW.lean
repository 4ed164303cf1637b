/- a new arena; awake. -/
import Derived.Test.YtdchpckikclmlaaC
namespace Go.Proofs.Ytdchpckikclmlaa
open Go.Sx Go
set_option maxRecDepth 100000
noncomputable def il (n : Int) : SV := .int .i64 (.lit n)
noncomputable def wrs : List (Nat × IE) → SV → SV
 | [], r => r
 | p :: l, r => .wr (.lit p.1) p.2 (wrs l r)
noncomputable def newW : List (Nat × IE) := [(27, .lit 48), (26, .lit 44), (25, .lit 40), (24, .lit 36), (23, .lit 32), (22, .lit 28), (21, .lit 24), (20, .lit 20), (19, .lit 16), (18, .lit 12), (17, .lit 8), (16, .lit 4)]
noncomputable def mk37 : Sx.Make := { args := [], mem := mem0 1, val := .undef, out := some (0, 84, .cons (.arr .i64 0 (.lit 634) (wrs newW .nil)) (.cons (il 0) (.cons (il 0) (.cons (il 0) (.cons (il 0) (.cons (il 0) (.cons (il 0) (.cons (il 0) (.cons (il 0) (.cons (.bool (.lit false)) .nil)))))))))) }
theorem run37 : makeRun (fun0 37) mk37 = true := by kernel_rfl
noncomputable def spD : List (Nat × (List SV → X SV)) := (37, makeX mk37) :: spC
theorem okSpD {G : Gf} : ∀ x ∈ spD, SpecOk G Try.prog x.1 x.2 := cons_ok (a := (37, makeX mk37)) (makeX_ok (fun0_ok 37) mk37 run37) okSpC
noncomputable def funD (f : Nat) : List SV → X SV := callF (tabJ []) (spOf spD) (bxOf bxC) 400 12 f
theorem funD_ok {G : Gf} (f : Nat) : SpecOk G Try.prog f (funD f) := callF_ok (spOf_ok okSpD) (bxOf_ok okBxC) 400 12 f
noncomputable def aw : Sx.Make := { args := [], mem := mem0 1, val := .bool (.lit true), out := none }
theorem awRun : makeRun (funD 12) aw = true := by kernel_rfl
theorem aw_ok {G : Gf} : SpecOk G Try.prog 12 (makeX aw) := makeX_ok (funD_ok 12) aw awRun
noncomputable def spF : List (Nat × (List SV → X SV)) := (12, makeX aw) :: spD
theorem okSpF {G : Gf} : ∀ x ∈ spF, SpecOk G Try.prog x.1 x.2 := cons_ok (a := (12, makeX aw)) aw_ok okSpD
noncomputable def funF (f : Nat) : List SV → X SV := callF (tabJ []) (spOf spF) (bxOf bxC) 400 12 f
theorem funF_ok {G : Gf} (f : Nat) : SpecOk G Try.prog f (funF f) := callF_ok (spOf_ok okSpF) (bxOf_ok okBxC) 400 12 f
end Go.Proofs.Ytdchpckikclmlaa
