/- the program's mayAll, Take: the same loops. -/
import Derived.Test.YtoemdbongkkmjaaV
namespace Go.Proofs.Ytoemdbongkkmjaa
open Go.Sx Go Go.LimboNum
set_option maxRecDepth 100000
noncomputable def headN : HeadP := { headM with tm := slotsN 15 [(2, .bool (.lit false)), (5, slR 101), (6, .int .i64 (.var 103)), (7, .int .i64 iT)] }
noncomputable def leavesN : List LeaveP := [
 { e := .normal, tm := slotsN 15 [], mem := { know := ⟨[(gapM, 0, 0)], []⟩, heap := [], seg := 165, next := 0, nv := 170 } },
 { e := .ret, tm := slotsN 15 [(2, .bool (.lit false))], mem := { know := ⟨[(gapM, 1, most)], []⟩, heap := [], seg := 165, next := 0, nv := 170 } }]
noncomputable def bodyN : Code := loopBody 0 (bodyOf Try.f21)
noncomputable def okN (c : List Fact) : Bool := headOk (tabJ []) cx0 (fun _ => none) none 400 0 bodyN 100 [headN] leavesN (headN.more c)
theorem n0 : okN goodC = true := by kernel_rfl
theorem n1 : okN doneC = true := by kernel_rfl
theorem n2 : (bads.all fun l => okN (badC l)) = true := by kernel_rfl
noncomputable def loopN : Fr → X (SX × Fr) := liftB 100 (loopP 100 [headN] leavesN)
theorem loopN_ok {N : List Int} {ep : Int} (h : In N ep) : LxOk (G0 N ep) Try.prog (21, 0, loopN) := lx_ok Try.func21 (c := bodyOf Try.f21) rfl (b := bodyN) (by kernel_rfl) (liftB_ok (loopPe_ok (T := tabJ []) (cx := cx0) cx0_ok (jm := none) (fuel := 400) (noBlocks_ok _ _) (fun y hy => by
 rcases List.mem_singleton.1 hy with rfl
 refine ⟨casesM, fun E hE hk hf => coverM h hE hk hf, fun c hc => ?_⟩
 unfold casesM at hc
 rcases List.mem_append.1 hc with hc | hc
 ·simp only [List.mem_cons, List.not_mem_nil, or_false] at hc
  rcases hc with rfl | rfl
  ·exact n0
  ·exact n1
 ·obtain ⟨l, hl, rfl⟩ := List.mem_map.1 hc
  exact List.all_eq_true.1 n2 l hl)))
noncomputable def funN : List SV → X SV := callF (tabJ []) (spOf []) (bxOf [(21, 0, loopN)]) 400 12 21
theorem funN_ok {N : List Int} {ep : Int} (h : In N ep) : SpecOk (G0 N ep) Try.prog 21 funN := callF_ok noSpecs (bxOf_ok (by
 intro y hy
 rcases List.mem_singleton.1 hy with rfl
 exact loopN_ok h)) 400 12 21
theorem runN : allOf (funN [slR 20] (slMem [enR 20] ([] ++ factsR) 60)) (leaf leafM) = true := by kernel_rfl
theorem mayN_ok {N : List Int} {ep : Int} (h : In N ep) : SpecOk (G0 N ep) Try.prog 21 mayX := preX_ok (orX_ok (mayB_gen h (funN_ok h) runN true) (mayB_gen h (funN_ok h) runN false)) _
noncomputable def bodyQ : Code := loopBody 0 (bodyOf Try.f11)
noncomputable def absQ : Fr → X (SX × Fr) := rowsB (tabJ []) cx0 (fun _ => none) none 400 [1000002, 1000003] (theBlock 1 bodyQ)
noncomputable def bxQ : BX := oneBx 1 absQ
theorem bxQ_ok {G : Gf} : BlocksOk G Try.prog bxQ bodyQ := oneBx_ok (b := theBlock 1 bodyQ) (by kernel_rfl) (rowsB_ok cx0_ok 400 _ (noBlocks_ok _ _))
noncomputable def headQ (a b : Bool) : HeadP := { headTp a b with tm := slotsN 40 [(1, vi 150), (7, outT a), (8, restT b), (19, slR 101), (20, .int .i64 (.var 103)), (21, .int .i64 iT)] }
noncomputable def leaveQ (a b : Bool) : LeaveP := { leaveT a b with tm := slotsN 40 [(7, outL a), (8, restL b)] }
noncomputable def headsQ : List HeadP := [headQ false false, headQ true false, headQ false true, headQ true true]
noncomputable def leavesQ : List LeaveP := [leaveQ false false, leaveQ true false, leaveQ false true, leaveQ true true]
noncomputable def okQ (a b : Bool) (c : List Fact) : Bool := headOk (tabJ []) cx0 bxQ none 400 0 bodyQ 100 headsQ leavesQ ((headQ a b).more c)
theorem qr00 : okQ false false (ripeC false false) = true := by kernel_rfl
theorem qr10 : okQ true false (ripeC true false) = true := by kernel_rfl
theorem qr01 : okQ false true (ripeC false true) = true := by kernel_rfl
theorem qr11 : okQ true true (ripeC true true) = true := by kernel_rfl
theorem qu00 : okQ false false (unripeC false false) = true := by kernel_rfl
theorem qu10 : okQ true false (unripeC true false) = true := by kernel_rfl
theorem qu01 : okQ false true (unripeC false true) = true := by kernel_rfl
theorem qu11 : okQ true true (unripeC true true) = true := by kernel_rfl
theorem qe00 : okQ false false (endC false false) = true := by kernel_rfl
theorem qe10 : okQ true false (endC true false) = true := by kernel_rfl
theorem qe01 : okQ false true (endC false true) = true := by kernel_rfl
theorem qe11 : okQ true true (endC true true) = true := by kernel_rfl
theorem okQ_all : ∀ a b, okQ a b (ripeC a b) = true ∧ okQ a b (unripeC a b) = true ∧ okQ a b (endC a b) = true
 | false, false => ⟨qr00, qu00, qe00⟩
 | true, false => ⟨qr10, qu10, qe10⟩
 | false, true => ⟨qr01, qu01, qe01⟩
 | true, true => ⟨qr11, qu11, qe11⟩
noncomputable def loopQ : Fr → X (SX × Fr) := liftB 100 (loopP 100 headsQ leavesQ)
theorem loopQ_ok {N : List Int} {ep : Int} (h : In N ep) : LxOk (G0 N ep) Try.prog (11, 0, loopQ) := lx_ok Try.func11 (c := bodyOf Try.f11) rfl (b := bodyQ) (by kernel_rfl) (liftB_ok (loopPe_ok (T := tabJ []) (cx := cx0) cx0_ok (jm := none) (fuel := 400) bxQ_ok (fun y hy => by
 have key : ∀ a b, ∃ cs : List (List Fact × List BE), (∀ E : Env, E.f = G0 N ep → E.Ok → (∀ f ∈ (headQ a b).mem.know.facts, FactOk E f) → ∃ c ∈ cs, (∀ f ∈ c.1, FactOk E f) ∧ ∀ b ∈ c.2, evB E b = true) ∧ ∀ c ∈ cs, headOk (tabJ []) cx0 bxQ none 400 0 bodyQ 100 headsQ leavesQ ((headQ a b).moreC c) = true := fun a b =>
  ⟨[(ripeC a b, []), (unripeC a b, []), (endC a b, [])], fun E hE _ hf => coverT h hE a b hf, fun c hc => by
   obtain ⟨h1, h2, h3⟩ := okQ_all a b
   simp only [List.mem_cons, List.not_mem_nil, or_false] at hc
   rcases hc with rfl | rfl | rfl
   ·exact h1
   ·exact h2
   ·exact h3⟩
 unfold headsQ at hy
 simp only [List.mem_cons, List.not_mem_nil, or_false] at hy
 rcases hy with rfl | rfl | rfl | rfl
 ·exact key false false
 ·exact key true false
 ·exact key false true
 ·exact key true true)))
noncomputable def funQ : List SV → X SV := callF (tabJ []) (spOf [(21, mayX)]) (bxOf [(11, 0, loopQ)]) 400 12 11
theorem funQ_ok {N : List Int} {ep : Int} (h : In N ep) : SpecOk (G0 N ep) Try.prog 11 funQ := callF_ok (spOf_ok (one_ok (a := (21, mayX)) (mayN_ok h))) (bxOf_ok (by
 intro y hy
 rcases List.mem_singleton.1 hy with rfl
 exact loopQ_ok h)) 400 12 11
theorem runQ : allOf (funQ [slR 20, vi 50] (slMem [enR 20] (takeF ++ factsR) 60)) (leaf leavesK) = true := by kernel_rfl
theorem takeQ_ok {N : List Int} {ep : Int} (h : In N ep) : SpecOk (G0 N ep) Try.prog 11 takeX := takeK_gen h (funQ_ok h) runQ
end Go.Proofs.Ytoemdbongkkmjaa
