/- Frees: its loop by the rounds. -/
import Derived.Test.YtalkfdkcimfmpaaWa
import Derived.Test.YtalkfdkcimfmpaaWb
import Derived.Test.YtalkfdkcimfmpaaWc
import Derived.Test.YtalkfdkcimfmpaaWd
import Derived.Test.YtalkfdkcimfmpaaWe
import Derived.Test.YtalkfdkcimfmpaaWf
import Derived.Test.YtalkfdkcimfmpaaWg
import Derived.Test.YtalkfdkcimfmpaaWh
namespace Go.Proofs.Ytalkfdkcimfmpaa
open Go.Sx Go
set_option maxRecDepth 100000
noncomputable def casesW0 : List CaseT := [caseW 0 (some 0), caseW 1 (some 1), caseW 2 none, caseW 3 none]
noncomputable def casesW1 : List CaseT := [caseW 0 (some 0), caseW 1 (some 1), caseW 2 (some 2), caseW 3 none]
noncomputable def casesW2 : List CaseT := [caseW 0 (some 0), caseW 1 (some 1), caseW 2 (some 2), caseW 3 (some 3)]
theorem coverW {E : Env} {cs : List CaseT} (h0 : ∃ p, caseW 0 p ∈ cs) (h1 : ∃ p, caseW 1 p ∈ cs) (h2 : ∃ p, caseW 2 p ∈ cs) (h3 : ∃ p, caseW 3 p ∈ cs) : ∃ c ∈ cs, (∀ f ∈ c.fs, FactOk E f) ∧ ∀ b ∈ c.bs, evB E b = true := by
 have h : 0 ≤ ev E (.bit .and .i64 (.sel 44 iW) (.lit 3)) ∧ ev E (.bit .and .i64 (.sel 44 iW) (.lit 3)) ≤ 3 := by
  rw [ev_bit, ev_lit]
  exact and_in .i64 _ 3 (by decide) (by decide)
 have use : ∀ {k : Int} {p : Option Nat}, caseW k p ∈ cs → ev E (.bit .and .i64 (.sel 44 iW) (.lit 3)) = k → ∃ c ∈ cs, (∀ f ∈ c.fs, FactOk E f) ∧ ∀ b ∈ c.bs, evB E b = true := fun hm he => ⟨_, hm, fun f hf => by
  rcases List.mem_singleton.1 hf with rfl
  unfold FactOk kF
  dsimp only
  omega, fun _ h => (by cases h)⟩
 obtain ⟨p0, h0⟩ := h0
 obtain ⟨p1, h1⟩ := h1
 obtain ⟨p2, h2⟩ := h2
 obtain ⟨p3, h3⟩ := h3
 rcases (by omega : ev E (.bit .and .i64 (.sel 44 iW) (.lit 3)) = 0 ∨ ev E (.bit .and .i64 (.sel 44 iW) (.lit 3)) = 1 ∨ ev E (.bit .and .i64 (.sel 44 iW) (.lit 3)) = 2 ∨ ev E (.bit .and .i64 (.sel 44 iW) (.lit 3)) = 3) with h | h | h | h
 ·exact use h0 h
 ·exact use h1 h
 ·exact use h2 h
 ·exact use h3 h
noncomputable def loopW (u : Nat) : Fr → X (SX × Fr) := loopT 100 grpsW [headW u] [leaveW]
theorem four {n : Nat} (h : n < Nat.max 1 4) : n = 0 ∨ n = 1 ∨ n = 2 ∨ n = 3 := by
 have : n < 4 := h
 omega
theorem loopW0_ok : CodeOk G0 Try.prog (.block 2 (.loop bodyW)) (loopW 0) := loopT_ok (T := tabJ []) (cx := cxF) cxF_ok (jm := none) (fuel := 400) (noBlocks_ok _ _) (fun h hh => by
 rcases List.mem_singleton.1 hh with rfl
 refine ⟨casesW0, fun E _ _ _ => coverW ⟨_, List.mem_of_getElem? (i := 0) rfl⟩ ⟨_, List.mem_of_getElem? (i := 1) rfl⟩ ⟨_, List.mem_of_getElem? (i := 2) rfl⟩ ⟨_, List.mem_of_getElem? (i := 3) rfl⟩, fun c hc t ht => ?_⟩
 unfold casesW0 at hc
 simp only [List.mem_cons, List.not_mem_nil, or_false] at hc
 rcases hc with rfl | rfl | rfl | rfl
 ·rcases four ht with rfl | rfl | rfl | rfl
  ·exact w000
  ·exact w001
  ·exact w002
  ·exact w003
 ·rcases four ht with rfl | rfl | rfl | rfl
  ·exact w010
  ·exact w011
  ·exact w012
  ·exact w013
 ·obtain rfl : t = 0 := by
   have : t < 1 := ht
   omega
  exact w020
 ·obtain rfl : t = 0 := by
   have : t < 1 := ht
   omega
  exact w030)
theorem loopW1_ok : CodeOk G0 Try.prog (.block 2 (.loop bodyW)) (loopW 1) := loopT_ok (T := tabJ []) (cx := cxF) cxF_ok (jm := none) (fuel := 400) (noBlocks_ok _ _) (fun h hh => by
 rcases List.mem_singleton.1 hh with rfl
 refine ⟨casesW1, fun E _ _ _ => coverW ⟨_, List.mem_of_getElem? (i := 0) rfl⟩ ⟨_, List.mem_of_getElem? (i := 1) rfl⟩ ⟨_, List.mem_of_getElem? (i := 2) rfl⟩ ⟨_, List.mem_of_getElem? (i := 3) rfl⟩, fun c hc t ht => ?_⟩
 unfold casesW1 at hc
 simp only [List.mem_cons, List.not_mem_nil, or_false] at hc
 rcases hc with rfl | rfl | rfl | rfl
 ·rcases four ht with rfl | rfl | rfl | rfl
  ·exact w100
  ·exact w101
  ·exact w102
  ·exact w103
 ·rcases four ht with rfl | rfl | rfl | rfl
  ·exact w110
  ·exact w111
  ·exact w112
  ·exact w113
 ·rcases four ht with rfl | rfl | rfl | rfl
  ·exact w120
  ·exact w121
  ·exact w122
  ·exact w123
 ·obtain rfl : t = 0 := by
   have : t < 1 := ht
   omega
  exact w130)
theorem loopW2_ok : CodeOk G0 Try.prog (.block 2 (.loop bodyW)) (loopW 2) := loopT_ok (T := tabJ []) (cx := cxF) cxF_ok (jm := none) (fuel := 400) (noBlocks_ok _ _) (fun h hh => by
 rcases List.mem_singleton.1 hh with rfl
 refine ⟨casesW2, fun E _ _ _ => coverW ⟨_, List.mem_of_getElem? (i := 0) rfl⟩ ⟨_, List.mem_of_getElem? (i := 1) rfl⟩ ⟨_, List.mem_of_getElem? (i := 2) rfl⟩ ⟨_, List.mem_of_getElem? (i := 3) rfl⟩, fun c hc t ht => ?_⟩
 unfold casesW2 at hc
 simp only [List.mem_cons, List.not_mem_nil, or_false] at hc
 rcases hc with rfl | rfl | rfl | rfl
 ·rcases four ht with rfl | rfl | rfl | rfl
  ·exact w200
  ·exact w201
  ·exact w202
  ·exact w203
 ·rcases four ht with rfl | rfl | rfl | rfl
  ·exact w210
  ·exact w211
  ·exact w212
  ·exact w213
 ·rcases four ht with rfl | rfl | rfl | rfl
  ·exact w220
  ·exact w221
  ·exact w222
  ·exact w223
 ·rcases four ht with rfl | rfl | rfl | rfl
  ·exact w230
  ·exact w231
  ·exact w232
  ·exact w233)
noncomputable def loopAll : Fr → X (SX × Fr) := liftB 100 (orB (loopW 0) (orB (loopW 1) (loopW 2)))
theorem loopAll_ok : LxOk G0 Try.prog (3, 2, loopAll) := lx_ok Try.func3 (c := bodyOf Try.f3) rfl (b := bodyW) (by kernel_rfl) (liftB_ok (orB_ok loopW0_ok (orB_ok loopW1_ok loopW2_ok)))
noncomputable def bxFr (pr : Bool) (K : List Nat) (pk : Bool) : List LX := cond pr [(8, 0, loop8 K)] [] ++ cond pk [(3, 2, loopAll)] []
noncomputable def funFr (pr : Bool) (K : List Nat) (pk : Bool) : List SV → X SV := callF (tabJ []) (spOf spF) (bxOf (bxFr pr K pk)) 400 12 3
theorem funFr_ok {pr : Bool} {K : List Nat} {pk : Bool} (h : pr = true → ok8 K = true) : SpecOk G0 Try.prog 3 (funFr pr K pk) := callF_ok (spOf_ok okSpF) (bxOf_ok (by
 intro y hy
 unfold bxFr at hy
 rcases List.mem_append.1 hy with hy | hy
 ·cases pr with
  | false => cases hy
  | true =>
   rcases List.mem_singleton.1 hy with rfl
   exact loop8_ok (h rfl)
 ·cases pk with
  | false => cases hy
  | true =>
   rcases List.mem_singleton.1 hy with rfl
   exact loopAll_ok)) 400 12 3
end Go.Proofs.Ytalkfdkcimfmpaa
