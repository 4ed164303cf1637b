/- TakeLimbo's loop: its contract. -/
import Derived.Test.YtoemdbongkkmjaaT3
namespace Go.Proofs.Ytoemdbongkkmjaa
open Go.Sx Go Go.LimboNum
set_option maxRecDepth 100000
theorem r00 : okT headsT leavesT false false (ripeC false false) = true := by kernel_rfl
theorem r10 : okT headsT leavesT true false (ripeC true false) = true := by kernel_rfl
theorem r01 : okT headsT leavesT false true (ripeC false true) = true := by kernel_rfl
theorem r11 : okT headsT leavesT true true (ripeC true true) = true := by kernel_rfl
theorem u00 : okT headsT leavesT false false (unripeC false false) = true := by kernel_rfl
theorem u10 : okT headsT leavesT true false (unripeC true false) = true := by kernel_rfl
theorem u01 : okT headsT leavesT false true (unripeC false true) = true := by kernel_rfl
theorem u11 : okT headsT leavesT true true (unripeC true true) = true := by kernel_rfl
theorem e00 : okT headsT leavesT false false (endC false false) = true := by kernel_rfl
theorem e10 : okT headsT leavesT true false (endC true false) = true := by kernel_rfl
theorem e01 : okT headsT leavesT false true (endC false true) = true := by kernel_rfl
theorem e11 : okT headsT leavesT true true (endC true true) = true := by kernel_rfl
theorem okT_all : ∀ a b, okT headsT leavesT a b (ripeC a b) = true ∧ okT headsT leavesT a b (unripeC a b) = true ∧ okT headsT leavesT a b (endC a b) = true
 | false, false => ⟨r00, u00, e00⟩
 | true, false => ⟨r10, u10, e10⟩
 | false, true => ⟨r01, u01, e01⟩
 | true, true => ⟨r11, u11, e11⟩
noncomputable def loopT : Fr → X (SX × Fr) := loopP 100 headsT leavesT
theorem loopT_ok {N : List Int} {ep : Int} (h : In N ep) : CodeOk (G0 N ep) Try.prog (.block 0 (.loop bodyT)) loopT := loopPe_ok (T := tabJ []) (cx := cx0) cx0_ok (jm := none) (fuel := 400) bxT_ok (fun y hy => by
 have key : ∀ a b, ∃ cs : List (List Fact × List BE), (∀ E : Env, E.f = G0 N ep → E.Ok → (∀ f ∈ (headTp a b).mem.know.facts, FactOk E f) → ∃ c ∈ cs, (∀ f ∈ c.1, FactOk E f) ∧ ∀ b ∈ c.2, evB E b = true) ∧ ∀ c ∈ cs, headOk (tabJ []) cx0 bxT none 400 0 bodyT 100 headsT leavesT ((headTp a b).moreC c) = true := fun a b =>
  ⟨[(ripeC a b, []), (unripeC a b, []), (endC a b, [])], fun E hE _ hf => coverT h hE a b hf, fun c hc => by
   obtain ⟨h1, h2, h3⟩ := okT_all a b
   simp only [List.mem_cons, List.not_mem_nil, or_false] at hc
   rcases hc with rfl | rfl | rfl
   ·exact h1
   ·exact h2
   ·exact h3⟩
 unfold headsT at hy
 simp only [List.mem_cons, List.not_mem_nil, or_false] at hy
 rcases hy with rfl | rfl | rfl | rfl
 ·exact key false false
 ·exact key true false
 ·exact key false true
 ·exact key true true)
end Go.Proofs.Ytoemdbongkkmjaa
