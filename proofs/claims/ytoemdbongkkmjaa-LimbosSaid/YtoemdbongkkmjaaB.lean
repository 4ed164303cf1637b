/- awake; Take upon rows that are told cell by cell. -/
import Derived.Test.YtoemdbongkkmjaaA
import Derived.Test.YtoemdbongkkmjaaE5
namespace Go.Proofs.Ytoemdbongkkmjaa
open Go.Sx Go
set_option maxRecDepth 100000
noncomputable def bodyTk : Code := loopBody 0 (bodyOf Try.f11)
noncomputable def mTake : Fr → X (SX × Fr) := mergeD (runC (tabJ []) cx0 (fun _ => none) none 400 (theBlock 1 (bodyOf Try.f11))) [1, 7, 8, 19, 20, 21] [7, 8] 0 40
theorem mTake_ok {G : Gf} : LxOk G Try.prog (11, 1, mTake) := lxB_ok Try.func11 (c := bodyOf Try.f11) rfl (b := theBlock 1 (bodyOf Try.f11)) (by kernel_rfl) (mergeD_ok _ _ _ _ ((runC_ok cx0_ok 400).1 _ (noBlocks_ok _ _)))
theorem mTakes {G : Gf} : ∀ y ∈ [((11 : Nat), (1 : Nat), mTake)], LxOk G Try.prog y := fun y hy => by
 rcases List.mem_singleton.1 hy with rfl
 exact mTake_ok
noncomputable def funB (sp : List (Nat × (List SV → X SV))) (f : Nat) : List SV → X SV := callF (tabJ []) (spOf sp) (bxOf [(11, 1, mTake)]) 400 12 f
theorem funB_ok {G : Gf} {sp : List (Nat × (List SV → X SV))} (h : ∀ x ∈ sp, SpecOk G Try.prog x.1 x.2) (f : Nat) : SpecOk G Try.prog f (funB sp f) := callF_ok (spOf_ok h) (bxOf_ok mTakes) 400 12 f
noncomputable def aw : Sx.Make := { args := [], mem := mem0 1, val := .bool (.lit true), out := none }
theorem awRun : makeRun (funB [] 19) aw = true := by kernel_rfl
theorem aw_ok {G : Gf} : SpecOk G Try.prog 19 (makeX aw) := makeX_ok (funB_ok (fun _ h => by cases h) 19) aw awRun
noncomputable def spB : List (Nat × (List SV → X SV)) := [(19, makeX aw)]
theorem okSpB {G : Gf} : ∀ x ∈ spB, SpecOk G Try.prog x.1 x.2 := one_ok (a := (19, makeX aw)) aw_ok
noncomputable def slW (b : Nat) : SV := .sli b 0 (.var (b+1)) (.var (b+2)) (.var (b+3))
noncomputable def enW (b : Nat) : Ent := slE b (b+1) (b+2) (b+4) 1
noncomputable def faW (b : Nat) : List Fact := slF (b+1) (b+2) (b+3) hi64
end Go.Proofs.Ytoemdbongkkmjaa
