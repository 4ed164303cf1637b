/- Descs: what is run. -/
import Derived.Test.YtofmndcdcchflaaVL
import Derived.Test.YtofmndcdcchflaaNX
namespace Go.Proofs.Ytofmndcdcchflaa
open Go.Sx Go Go.DescNum
set_option maxRecDepth 100000
noncomputable def lendX : List SV → X SV := canonX (capX 2 200 (gcR (fun0 12)))
noncomputable def rowP : List SV → X SV := pruneC [g0 1106] rowsX
noncomputable def spL : List (Nat × (List SV → X SV)) := [(10, rowP), (11, rowP), (9, samNX), (17, spoilX), (20, saG), (12, lendX), (18, stepX), (32, mayZ 32), (35, mayZ 35), (48, putLX), (33, stoX), (14, nwX), (23, makeX aw)]
theorem okSpL {V : List Int} (h : View V) : ∀ x ∈ spL, SpecOk (G0 V) Try.prog x.1 x.2 :=
 cons_ok (a := (10, rowP)) (pruneC_ok _ (rowsp_ok h)) (cons_ok (a := (11, rowP)) (pruneC_ok _ (rowsr_ok h)) (cons_ok (a := (9, samNX)) samNX_ok (cons_ok (a := (17, spoilX)) (spoilX_ok (G0_in V)) (cons_ok (a := (20, saG)) (gcR_ok saX_ok)
  (cons_ok (a := (12, lendX)) (canonX_ok (capX_ok (gcR_ok (fun0_ok 12)))) (cons_ok (a := (18, stepX)) stepX_ok (cons_ok (a := (32, mayZ 32)) (mayZ_ok sem32) (cons_ok (a := (35, mayZ 35)) (mayZ_ok sem35) (cons_ok (a := (48, putLX)) putLX_ok
  (cons_ok (a := (33, stoX)) stoX_ok (cons_ok (a := (14, nwX)) (nwX_ok semNw) (one_ok (a := (23, makeX aw)) aw_ok))))))))))))
inductive KA | nil | zero | many
noncomputable def argM : KA → SV
 | .nil => .nils
 | .zero => .sli 30 0 (.var 31) (.lit 0) (.var 33)
 | .many => sl3 30
noncomputable def isM : KA → Bool
 | .many => true
 | _ => false
noncomputable def entM (c : KA) : List Ent := cond (isM c) [en3 30] []
noncomputable def facM (lo hi : Int) : KA → List Fact
 | .nil => []
 | .zero => [(.var 31, 0, hi64), (.var 33, 0, hi64)]
 | .many => fa3u 30 lo hi
structure CA where
 k : Nat
 c : KA
 lo : Int
 hi : Int
noncomputable def rowsF : Bool → Fact
 | true => (g0 1106, 1, 16)
 | false => (g0 1106, 0, 0)
noncomputable def facC (x : CA) (a b r : Bool) : List Fact := rowsF r :: (facW a 10 ++ (facW b 20 ++ facM x.lo x.hi x.c))
noncomputable def entC (x : CA) (a b : Bool) : List Ent := entW a 10 ++ (entW b 20 ++ entM x.c)
noncomputable def argsC (x : CA) (a b : Bool) : List SV := [.agg viewC, argM x.c, vi 1, vi 2, argW a 10, argW b 20]
noncomputable def funM (k : Nat) (a b c : Bool) : List SV → X SV := callF (tabJ []) (spOf spL) (bxOf [(8, 0, loop8 a b c), (3, 0, loopW k), (3, 2, loopK)]) 400 12 3
theorem funM_ok {V : List Int} (h : View V) {k : Nat} (hw : okW (headW k) = true) (a b c : Bool) : SpecOk (G0 V) Try.prog 3 (funM k a b c) := callF_ok (spOf_ok (okSpL h)) (bxOf_ok (by
 intro y hy
 rcases List.mem_cons.1 hy with rfl | hy
 ·exact loop8_ok a b c
 rcases List.mem_cons.1 hy with rfl | hy
 ·exact loopW_ok hw
 ·rcases List.mem_singleton.1 hy with rfl
  exact loopK_ok)) 400 12 3
noncomputable def okC (x : CA) (a b r : Bool) : Bool := allOf (funM x.k a b (isM x.c) (argsC x a b) (slMem (entC x a b) (facC x a b r) 60)) isTrue
noncomputable abbrev nilC : CA := ⟨0, .nil, 0, 0⟩
noncomputable abbrev zeroC : CA := ⟨0, .zero, 0, 0⟩
noncomputable abbrev longC : CA := ⟨0, .many, 17, 5864062014634⟩
noncomputable abbrev manyC (k : Nat) : CA := ⟨k, .many, k, k⟩
end Go.Proofs.Ytofmndcdcchflaa
