/- The law SkipWalks: for every input the call returns true, and its argument reads afterwards as it read before; no condition. -/
import Derived.Test.YtdngeccbmalbnaaD
import Derived.Test.YtdngeccbmalbnaaW0
import Derived.Test.YtdngeccbmalbnaaW1
import Derived.Test.YtdngeccbmalbnaaW2
import Derived.Test.YtdngeccbmalbnaaW3
import Derived.Test.YtdngeccbmalbnaaW4
import Derived.Test.YtdngeccbmalbnaaW5
import Derived.Test.YtdngeccbmalbnaaW6
import Derived.Test.YtdngeccbmalbnaaW7
namespace Go.Proofs.Ytdngeccbmalbnaa
set_option maxRecDepth 100000
open Go.Sx Go.ChangeShapes Go.WideShapes Go.ChangeAt Go.RowKit Go.Deep
noncomputable def casesW : List (List Fact × List BE) := [
  ([(eK, 0, 0), (eP, 0, 0), (eX, 0, 0)], [.var 20, .var 24]),
  ([(eK, 0, 0), (eP, 0, 0), (eX, 0, 0)], [.var 20, .not (.var 24)]),
  ([(eK, 0, 0), (eP, 0, 0), (eX, 0, 0)], [.not (.var 20), .var 24]),
  ([(eK, 0, 0), (eP, 0, 0), (eX, 0, 0)], [.not (.var 20), .not (.var 24)]),
  ([(eK, 0, 0), (eP, 0, 0), (eX, 1, 1)], [.var 20, .var 24]),
  ([(eK, 0, 0), (eP, 0, 0), (eX, 1, 1)], [.var 20, .not (.var 24)]),
  ([(eK, 0, 0), (eP, 0, 0), (eX, 1, 1)], [.not (.var 20), .var 24]),
  ([(eK, 0, 0), (eP, 0, 0), (eX, 1, 1)], [.not (.var 20), .not (.var 24)]),
  ([(eK, 0, 0), (eP, 1, 1)], [.var 20, .var 24]),
  ([(eK, 0, 0), (eP, 1, 1)], [.var 20, .not (.var 24)]),
  ([(eK, 0, 0), (eP, 1, 1)], [.not (.var 20), .var 24]),
  ([(eK, 0, 0), (eP, 1, 1)], [.not (.var 20), .not (.var 24)]),
  ([(eK, 1, 1), (eP, 0, 0), (eX, 0, 0)], [.var 21, .var 24]),
  ([(eK, 1, 1), (eP, 0, 0), (eX, 0, 0)], [.var 21, .not (.var 24)]),
  ([(eK, 1, 1), (eP, 0, 0), (eX, 0, 0)], [.not (.var 21), .var 24]),
  ([(eK, 1, 1), (eP, 0, 0), (eX, 0, 0)], [.not (.var 21), .not (.var 24)]),
  ([(eK, 1, 1), (eP, 0, 0), (eX, 1, 1)], [.var 21, .var 24]),
  ([(eK, 1, 1), (eP, 0, 0), (eX, 1, 1)], [.var 21, .not (.var 24)]),
  ([(eK, 1, 1), (eP, 0, 0), (eX, 1, 1)], [.not (.var 21), .var 24]),
  ([(eK, 1, 1), (eP, 0, 0), (eX, 1, 1)], [.not (.var 21), .not (.var 24)]),
  ([(eK, 1, 1), (eP, 1, 1)], [.var 21, .var 24]),
  ([(eK, 1, 1), (eP, 1, 1)], [.var 21, .not (.var 24)]),
  ([(eK, 1, 1), (eP, 1, 1)], [.not (.var 21), .var 24]),
  ([(eK, 1, 1), (eP, 1, 1)], [.not (.var 21), .not (.var 24)]),
  ([(eK, 2, 2), (eP, 0, 0), (eX, 0, 0)], [.var 22, .var 24]),
  ([(eK, 2, 2), (eP, 0, 0), (eX, 0, 0)], [.var 22, .not (.var 24)]),
  ([(eK, 2, 2), (eP, 0, 0), (eX, 0, 0)], [.not (.var 22), .var 24]),
  ([(eK, 2, 2), (eP, 0, 0), (eX, 0, 0)], [.not (.var 22), .not (.var 24)]),
  ([(eK, 2, 2), (eP, 0, 0), (eX, 1, 1)], [.var 22, .var 24]),
  ([(eK, 2, 2), (eP, 0, 0), (eX, 1, 1)], [.var 22, .not (.var 24)]),
  ([(eK, 2, 2), (eP, 0, 0), (eX, 1, 1)], [.not (.var 22), .var 24]),
  ([(eK, 2, 2), (eP, 0, 0), (eX, 1, 1)], [.not (.var 22), .not (.var 24)]),
  ([(eK, 2, 2), (eP, 1, 1)], [.var 22, .var 24]),
  ([(eK, 2, 2), (eP, 1, 1)], [.var 22, .not (.var 24)]),
  ([(eK, 2, 2), (eP, 1, 1)], [.not (.var 22), .var 24]),
  ([(eK, 2, 2), (eP, 1, 1)], [.not (.var 22), .not (.var 24)]),
  ([(eK, 3, 3), (eP, 0, 0), (eX, 0, 0)], [.var 23, .var 24]),
  ([(eK, 3, 3), (eP, 0, 0), (eX, 0, 0)], [.var 23, .not (.var 24)]),
  ([(eK, 3, 3), (eP, 0, 0), (eX, 0, 0)], [.not (.var 23), .var 24]),
  ([(eK, 3, 3), (eP, 0, 0), (eX, 0, 0)], [.not (.var 23), .not (.var 24)]),
  ([(eK, 3, 3), (eP, 0, 0), (eX, 1, 1)], [.var 23, .var 24]),
  ([(eK, 3, 3), (eP, 0, 0), (eX, 1, 1)], [.var 23, .not (.var 24)]),
  ([(eK, 3, 3), (eP, 0, 0), (eX, 1, 1)], [.not (.var 23), .var 24]),
  ([(eK, 3, 3), (eP, 0, 0), (eX, 1, 1)], [.not (.var 23), .not (.var 24)]),
  ([(eK, 3, 3), (eP, 1, 1)], [.var 23, .var 24]),
  ([(eK, 3, 3), (eP, 1, 1)], [.var 23, .not (.var 24)]),
  ([(eK, 3, 3), (eP, 1, 1)], [.not (.var 23), .var 24]),
  ([(eK, 3, 3), (eP, 1, 1)], [.not (.var 23), .not (.var 24)]),
  ([(eK, 4, 4), (eP, 0, 0), (eX, 0, 0)], [.var 24, .var 23]),
  ([(eK, 4, 4), (eP, 0, 0), (eX, 0, 0)], [.var 24, .not (.var 23)]),
  ([(eK, 4, 4), (eP, 0, 0), (eX, 0, 0)], [.not (.var 24), .var 23]),
  ([(eK, 4, 4), (eP, 0, 0), (eX, 0, 0)], [.not (.var 24), .not (.var 23)]),
  ([(eK, 4, 4), (eP, 0, 0), (eX, 1, 1)], [.var 24, .var 23]),
  ([(eK, 4, 4), (eP, 0, 0), (eX, 1, 1)], [.var 24, .not (.var 23)]),
  ([(eK, 4, 4), (eP, 0, 0), (eX, 1, 1)], [.not (.var 24), .var 23]),
  ([(eK, 4, 4), (eP, 0, 0), (eX, 1, 1)], [.not (.var 24), .not (.var 23)]),
  ([(eK, 4, 4), (eP, 1, 1)], [.var 24, .var 23]),
  ([(eK, 4, 4), (eP, 1, 1)], [.var 24, .not (.var 23)]),
  ([(eK, 4, 4), (eP, 1, 1)], [.not (.var 24), .var 23]),
  ([(eK, 4, 4), (eP, 1, 1)], [.not (.var 24), .not (.var 23)])]
theorem casesW_ok : ∀ c ∈ casesW, wOk c = true := by
  unfold casesW
  exact List.forall_mem_cons.2 ⟨w_0_p0x0_0, List.forall_mem_cons.2 ⟨w_0_p0x0_1, List.forall_mem_cons.2 ⟨w_0_p0x0_2, List.forall_mem_cons.2 ⟨w_0_p0x0_3, List.forall_mem_cons.2 ⟨w_0_p0x1_0, List.forall_mem_cons.2 ⟨w_0_p0x1_1, List.forall_mem_cons.2 ⟨w_0_p0x1_2, List.forall_mem_cons.2 ⟨w_0_p0x1_3, List.forall_mem_cons.2 ⟨w_0_p1_0, List.forall_mem_cons.2 ⟨w_0_p1_1, List.forall_mem_cons.2 ⟨w_0_p1_2, List.forall_mem_cons.2 ⟨w_0_p1_3, List.forall_mem_cons.2 ⟨w_1_p0x0_0, List.forall_mem_cons.2 ⟨w_1_p0x0_1, List.forall_mem_cons.2 ⟨w_1_p0x0_2, List.forall_mem_cons.2 ⟨w_1_p0x0_3, List.forall_mem_cons.2 ⟨w_1_p0x1_0, List.forall_mem_cons.2 ⟨w_1_p0x1_1, List.forall_mem_cons.2 ⟨w_1_p0x1_2, List.forall_mem_cons.2 ⟨w_1_p0x1_3, List.forall_mem_cons.2 ⟨w_1_p1_0, List.forall_mem_cons.2 ⟨w_1_p1_1, List.forall_mem_cons.2 ⟨w_1_p1_2, List.forall_mem_cons.2 ⟨w_1_p1_3, List.forall_mem_cons.2 ⟨w_2_p0x0_0, List.forall_mem_cons.2 ⟨w_2_p0x0_1, List.forall_mem_cons.2 ⟨w_2_p0x0_2, List.forall_mem_cons.2 ⟨w_2_p0x0_3, List.forall_mem_cons.2 ⟨w_2_p0x1_0, List.forall_mem_cons.2 ⟨w_2_p0x1_1, List.forall_mem_cons.2 ⟨w_2_p0x1_2, List.forall_mem_cons.2 ⟨w_2_p0x1_3, List.forall_mem_cons.2 ⟨w_2_p1_0, List.forall_mem_cons.2 ⟨w_2_p1_1, List.forall_mem_cons.2 ⟨w_2_p1_2, List.forall_mem_cons.2 ⟨w_2_p1_3, List.forall_mem_cons.2 ⟨w_3_p0x0_0, List.forall_mem_cons.2 ⟨w_3_p0x0_1, List.forall_mem_cons.2 ⟨w_3_p0x0_2, List.forall_mem_cons.2 ⟨w_3_p0x0_3, List.forall_mem_cons.2 ⟨w_3_p0x1_0, List.forall_mem_cons.2 ⟨w_3_p0x1_1, List.forall_mem_cons.2 ⟨w_3_p0x1_2, List.forall_mem_cons.2 ⟨w_3_p0x1_3, List.forall_mem_cons.2 ⟨w_3_p1_0, List.forall_mem_cons.2 ⟨w_3_p1_1, List.forall_mem_cons.2 ⟨w_3_p1_2, List.forall_mem_cons.2 ⟨w_3_p1_3, List.forall_mem_cons.2 ⟨w_4_p0x0_0, List.forall_mem_cons.2 ⟨w_4_p0x0_1, List.forall_mem_cons.2 ⟨w_4_p0x0_2, List.forall_mem_cons.2 ⟨w_4_p0x0_3, List.forall_mem_cons.2 ⟨w_4_p0x1_0, List.forall_mem_cons.2 ⟨w_4_p0x1_1, List.forall_mem_cons.2 ⟨w_4_p0x1_2, List.forall_mem_cons.2 ⟨w_4_p0x1_3, List.forall_mem_cons.2 ⟨w_4_p1_0, List.forall_mem_cons.2 ⟨w_4_p1_1, List.forall_mem_cons.2 ⟨w_4_p1_2, List.forall_mem_cons.2 ⟨w_4_p1_3, (fun _ h => by cases h)⟩⟩⟩⟩⟩⟩⟩⟩⟩⟩⟩⟩⟩⟩⟩⟩⟩⟩⟩⟩⟩⟩⟩⟩⟩⟩⟩⟩⟩⟩⟩⟩⟩⟩⟩⟩⟩⟩⟩⟩⟩⟩⟩⟩⟩⟩⟩⟩⟩⟩⟩⟩⟩⟩⟩⟩⟩⟩⟩⟩
theorem rngK : rng [] eK = (0, 4) := by kernel_rfl
theorem rngX : rng [] eX = (0, 1) := by kernel_rfl
theorem rngP : rng [] eP = (0, 1) := by kernel_rfl
theorem at1 {E : Env} {e : IE} {z : Int} (h : ev E e = z) : FactOk E (e, z, z) := by unfold FactOk; dsimp only; omega
theorem all2 {E : Env} {f g : Fact} (h : FactOk E f) (h' : FactOk E g) : ∀ x ∈ [f, g], FactOk E x := fun x hx => by
  simp only [List.mem_cons, List.not_mem_nil, or_false] at hx
  rcases hx with rfl | rfl <;> assumption
theorem all3 {E : Env} {f g h : Fact} (h1 : FactOk E f) (h2 : FactOk E g) (h3 : FactOk E h) : ∀ x ∈ [f, g, h], FactOk E x := fun x hx => by
  simp only [List.mem_cons, List.not_mem_nil, or_false] at hx
  rcases hx with rfl | rfl | rfl <;> assumption
theorem both2 {E : Env} {a b : BE} (h1 : evB E a = true) (h2 : evB E b = true) : ∀ d ∈ [a, b], evB E d = true := fun d hd => by
  simp only [List.mem_cons, List.not_mem_nil, or_false] at hd
  rcases hd with rfl | rfl <;> assumption
theorem isT {E : Env} {n : Nat} (h : E.b n = true) : evB E (.var n) = true := h
theorem isF {E : Env} {n : Nat} (h : E.b n = false) : evB E (.not (.var n)) = true := by show (!E.b n) = true; rw [h]; rfl
theorem casesW_all (E : Env) (hE : E.Ok) (_ : ∀ f ∈ headW.mem.know.facts, FactOk E f) : ∃ c ∈ casesW, (∀ f ∈ c.1, FactOk E f) ∧ ∀ b ∈ c.2, evB E b = true := by
  have none : ∀ f ∈ ([] : List Fact), FactOk E f := fun _ h => by cases h
  have hk := rng_ok hE none eK
  have hx := rng_ok hE none eX
  have hp := rng_ok hE none eP
  rw [rngK] at hk
  rw [rngX] at hx
  rw [rngP] at hp
  dsimp only at hk hx hp
  rcases (by omega : ev E eK = 0 ∨ ev E eK = 1 ∨ ev E eK = 2 ∨ ev E eK = 3 ∨ ev E eK = 4) with k | k | k | k | k
  · cases hb : E.b 20 <;> cases hc : E.b 24 <;> rcases (by omega : ev E eP = 1 ∨ (ev E eP = 0 ∧ (ev E eX = 0 ∨ ev E eX = 1))) with p | ⟨p, x | x⟩
    · exact ⟨_, List.mem_of_getElem? (i := 11) rfl, (all2 (at1 k) (at1 p)), (both2 (isF hb) (isF hc))⟩
    · exact ⟨_, List.mem_of_getElem? (i := 3) rfl, (all3 (at1 k) (at1 p) (at1 x)), (both2 (isF hb) (isF hc))⟩
    · exact ⟨_, List.mem_of_getElem? (i := 7) rfl, (all3 (at1 k) (at1 p) (at1 x)), (both2 (isF hb) (isF hc))⟩
    · exact ⟨_, List.mem_of_getElem? (i := 10) rfl, (all2 (at1 k) (at1 p)), (both2 (isF hb) (isT hc))⟩
    · exact ⟨_, List.mem_of_getElem? (i := 2) rfl, (all3 (at1 k) (at1 p) (at1 x)), (both2 (isF hb) (isT hc))⟩
    · exact ⟨_, List.mem_of_getElem? (i := 6) rfl, (all3 (at1 k) (at1 p) (at1 x)), (both2 (isF hb) (isT hc))⟩
    · exact ⟨_, List.mem_of_getElem? (i := 9) rfl, (all2 (at1 k) (at1 p)), (both2 (isT hb) (isF hc))⟩
    · exact ⟨_, List.mem_of_getElem? (i := 1) rfl, (all3 (at1 k) (at1 p) (at1 x)), (both2 (isT hb) (isF hc))⟩
    · exact ⟨_, List.mem_of_getElem? (i := 5) rfl, (all3 (at1 k) (at1 p) (at1 x)), (both2 (isT hb) (isF hc))⟩
    · exact ⟨_, List.mem_of_getElem? (i := 8) rfl, (all2 (at1 k) (at1 p)), (both2 (isT hb) (isT hc))⟩
    · exact ⟨_, List.mem_of_getElem? (i := 0) rfl, (all3 (at1 k) (at1 p) (at1 x)), (both2 (isT hb) (isT hc))⟩
    · exact ⟨_, List.mem_of_getElem? (i := 4) rfl, (all3 (at1 k) (at1 p) (at1 x)), (both2 (isT hb) (isT hc))⟩
  · cases hb : E.b 21 <;> cases hc : E.b 24 <;> rcases (by omega : ev E eP = 1 ∨ (ev E eP = 0 ∧ (ev E eX = 0 ∨ ev E eX = 1))) with p | ⟨p, x | x⟩
    · exact ⟨_, List.mem_of_getElem? (i := 23) rfl, (all2 (at1 k) (at1 p)), (both2 (isF hb) (isF hc))⟩
    · exact ⟨_, List.mem_of_getElem? (i := 15) rfl, (all3 (at1 k) (at1 p) (at1 x)), (both2 (isF hb) (isF hc))⟩
    · exact ⟨_, List.mem_of_getElem? (i := 19) rfl, (all3 (at1 k) (at1 p) (at1 x)), (both2 (isF hb) (isF hc))⟩
    · exact ⟨_, List.mem_of_getElem? (i := 22) rfl, (all2 (at1 k) (at1 p)), (both2 (isF hb) (isT hc))⟩
    · exact ⟨_, List.mem_of_getElem? (i := 14) rfl, (all3 (at1 k) (at1 p) (at1 x)), (both2 (isF hb) (isT hc))⟩
    · exact ⟨_, List.mem_of_getElem? (i := 18) rfl, (all3 (at1 k) (at1 p) (at1 x)), (both2 (isF hb) (isT hc))⟩
    · exact ⟨_, List.mem_of_getElem? (i := 21) rfl, (all2 (at1 k) (at1 p)), (both2 (isT hb) (isF hc))⟩
    · exact ⟨_, List.mem_of_getElem? (i := 13) rfl, (all3 (at1 k) (at1 p) (at1 x)), (both2 (isT hb) (isF hc))⟩
    · exact ⟨_, List.mem_of_getElem? (i := 17) rfl, (all3 (at1 k) (at1 p) (at1 x)), (both2 (isT hb) (isF hc))⟩
    · exact ⟨_, List.mem_of_getElem? (i := 20) rfl, (all2 (at1 k) (at1 p)), (both2 (isT hb) (isT hc))⟩
    · exact ⟨_, List.mem_of_getElem? (i := 12) rfl, (all3 (at1 k) (at1 p) (at1 x)), (both2 (isT hb) (isT hc))⟩
    · exact ⟨_, List.mem_of_getElem? (i := 16) rfl, (all3 (at1 k) (at1 p) (at1 x)), (both2 (isT hb) (isT hc))⟩
  · cases hb : E.b 22 <;> cases hc : E.b 24 <;> rcases (by omega : ev E eP = 1 ∨ (ev E eP = 0 ∧ (ev E eX = 0 ∨ ev E eX = 1))) with p | ⟨p, x | x⟩
    · exact ⟨_, List.mem_of_getElem? (i := 35) rfl, (all2 (at1 k) (at1 p)), (both2 (isF hb) (isF hc))⟩
    · exact ⟨_, List.mem_of_getElem? (i := 27) rfl, (all3 (at1 k) (at1 p) (at1 x)), (both2 (isF hb) (isF hc))⟩
    · exact ⟨_, List.mem_of_getElem? (i := 31) rfl, (all3 (at1 k) (at1 p) (at1 x)), (both2 (isF hb) (isF hc))⟩
    · exact ⟨_, List.mem_of_getElem? (i := 34) rfl, (all2 (at1 k) (at1 p)), (both2 (isF hb) (isT hc))⟩
    · exact ⟨_, List.mem_of_getElem? (i := 26) rfl, (all3 (at1 k) (at1 p) (at1 x)), (both2 (isF hb) (isT hc))⟩
    · exact ⟨_, List.mem_of_getElem? (i := 30) rfl, (all3 (at1 k) (at1 p) (at1 x)), (both2 (isF hb) (isT hc))⟩
    · exact ⟨_, List.mem_of_getElem? (i := 33) rfl, (all2 (at1 k) (at1 p)), (both2 (isT hb) (isF hc))⟩
    · exact ⟨_, List.mem_of_getElem? (i := 25) rfl, (all3 (at1 k) (at1 p) (at1 x)), (both2 (isT hb) (isF hc))⟩
    · exact ⟨_, List.mem_of_getElem? (i := 29) rfl, (all3 (at1 k) (at1 p) (at1 x)), (both2 (isT hb) (isF hc))⟩
    · exact ⟨_, List.mem_of_getElem? (i := 32) rfl, (all2 (at1 k) (at1 p)), (both2 (isT hb) (isT hc))⟩
    · exact ⟨_, List.mem_of_getElem? (i := 24) rfl, (all3 (at1 k) (at1 p) (at1 x)), (both2 (isT hb) (isT hc))⟩
    · exact ⟨_, List.mem_of_getElem? (i := 28) rfl, (all3 (at1 k) (at1 p) (at1 x)), (both2 (isT hb) (isT hc))⟩
  · cases hb : E.b 23 <;> cases hc : E.b 24 <;> rcases (by omega : ev E eP = 1 ∨ (ev E eP = 0 ∧ (ev E eX = 0 ∨ ev E eX = 1))) with p | ⟨p, x | x⟩
    · exact ⟨_, List.mem_of_getElem? (i := 47) rfl, (all2 (at1 k) (at1 p)), (both2 (isF hb) (isF hc))⟩
    · exact ⟨_, List.mem_of_getElem? (i := 39) rfl, (all3 (at1 k) (at1 p) (at1 x)), (both2 (isF hb) (isF hc))⟩
    · exact ⟨_, List.mem_of_getElem? (i := 43) rfl, (all3 (at1 k) (at1 p) (at1 x)), (both2 (isF hb) (isF hc))⟩
    · exact ⟨_, List.mem_of_getElem? (i := 46) rfl, (all2 (at1 k) (at1 p)), (both2 (isF hb) (isT hc))⟩
    · exact ⟨_, List.mem_of_getElem? (i := 38) rfl, (all3 (at1 k) (at1 p) (at1 x)), (both2 (isF hb) (isT hc))⟩
    · exact ⟨_, List.mem_of_getElem? (i := 42) rfl, (all3 (at1 k) (at1 p) (at1 x)), (both2 (isF hb) (isT hc))⟩
    · exact ⟨_, List.mem_of_getElem? (i := 45) rfl, (all2 (at1 k) (at1 p)), (both2 (isT hb) (isF hc))⟩
    · exact ⟨_, List.mem_of_getElem? (i := 37) rfl, (all3 (at1 k) (at1 p) (at1 x)), (both2 (isT hb) (isF hc))⟩
    · exact ⟨_, List.mem_of_getElem? (i := 41) rfl, (all3 (at1 k) (at1 p) (at1 x)), (both2 (isT hb) (isF hc))⟩
    · exact ⟨_, List.mem_of_getElem? (i := 44) rfl, (all2 (at1 k) (at1 p)), (both2 (isT hb) (isT hc))⟩
    · exact ⟨_, List.mem_of_getElem? (i := 36) rfl, (all3 (at1 k) (at1 p) (at1 x)), (both2 (isT hb) (isT hc))⟩
    · exact ⟨_, List.mem_of_getElem? (i := 40) rfl, (all3 (at1 k) (at1 p) (at1 x)), (both2 (isT hb) (isT hc))⟩
  · cases hb : E.b 24 <;> cases hc : E.b 23 <;> rcases (by omega : ev E eP = 1 ∨ (ev E eP = 0 ∧ (ev E eX = 0 ∨ ev E eX = 1))) with p | ⟨p, x | x⟩
    · exact ⟨_, List.mem_of_getElem? (i := 59) rfl, (all2 (at1 k) (at1 p)), (both2 (isF hb) (isF hc))⟩
    · exact ⟨_, List.mem_of_getElem? (i := 51) rfl, (all3 (at1 k) (at1 p) (at1 x)), (both2 (isF hb) (isF hc))⟩
    · exact ⟨_, List.mem_of_getElem? (i := 55) rfl, (all3 (at1 k) (at1 p) (at1 x)), (both2 (isF hb) (isF hc))⟩
    · exact ⟨_, List.mem_of_getElem? (i := 58) rfl, (all2 (at1 k) (at1 p)), (both2 (isF hb) (isT hc))⟩
    · exact ⟨_, List.mem_of_getElem? (i := 50) rfl, (all3 (at1 k) (at1 p) (at1 x)), (both2 (isF hb) (isT hc))⟩
    · exact ⟨_, List.mem_of_getElem? (i := 54) rfl, (all3 (at1 k) (at1 p) (at1 x)), (both2 (isF hb) (isT hc))⟩
    · exact ⟨_, List.mem_of_getElem? (i := 57) rfl, (all2 (at1 k) (at1 p)), (both2 (isT hb) (isF hc))⟩
    · exact ⟨_, List.mem_of_getElem? (i := 49) rfl, (all3 (at1 k) (at1 p) (at1 x)), (both2 (isT hb) (isF hc))⟩
    · exact ⟨_, List.mem_of_getElem? (i := 53) rfl, (all3 (at1 k) (at1 p) (at1 x)), (both2 (isT hb) (isF hc))⟩
    · exact ⟨_, List.mem_of_getElem? (i := 56) rfl, (all2 (at1 k) (at1 p)), (both2 (isT hb) (isT hc))⟩
    · exact ⟨_, List.mem_of_getElem? (i := 48) rfl, (all3 (at1 k) (at1 p) (at1 x)), (both2 (isT hb) (isT hc))⟩
    · exact ⟨_, List.mem_of_getElem? (i := 52) rfl, (all3 (at1 k) (at1 p) (at1 x)), (both2 (isT hb) (isT hc))⟩
noncomputable def loopW : Fr → X (SX × Fr) := loopP 12 [headW] [leaveW]
theorem loopW_ok : LxOk G0 Try.prog (5, 0, loopW) :=
  lx_ok Try.func5 (c := bodyOf Try.f5) rfl (b := loopBody 0 (bodyOf Try.f5)) (by kernel_rfl) (loopPd_ok (T := tabJ []) cxW_ok (jm := none) (fuel := 400) (noBlocks_ok _ _) (fun h hh => by
    rcases List.mem_singleton.1 hh with rfl
    exact ⟨casesW, casesW_all, casesW_ok⟩))
theorem bxW_ok : BxOk G0 Try.prog (bxOf [(5, 0, loopW)]) := bxOf_ok (by intro x hx; simp only [List.mem_cons, List.not_mem_nil, or_false] at hx; subst hx; exact loopW_ok)
noncomputable def runW (f : Nat) : List SV → X SV := callF (tabJ []) (spOf (spW ++ spL)) (bxOf [(5, 0, loopW)]) 400 12 f
theorem runW_ok (f : Nat) : SpecOk G0 Try.prog f (runW f) := callF_ok (spC_ok okSpW) bxW_ok 400 12 f
theorem walks_run : allOf (runW 5 [slV 1 2 3 4] (slMem [slE 1 2 3 5 1] (slF 2 3 4 hi64) 10)) isTrue = true := by kernel_rfl
theorem walks_nil : allOf (fun2 5 [.nils] (mem0 10)) isTrue = true := by kernel_rfl
section
variable {H : Type} {enc : TypeId × Value → H} {w : World} {base : Nat} {spare : Nat → Bool} {held : Bool} {r : Reach} {b0 : Nat}
theorem skipWalks_walk {v0 : Value} {d0 : DataW H} {p0 : List MemPlace}
    (k0 : Value.okWide Try.prog w r b0 43 v0) (h0 : DataW.Trod enc Try.prog w base spare held 43 v0 d0 p0) :
    Calls Try.prog 5 #[v0] w fun r w' => r = .returned (.bool true) ∧ Below w.heap.size w w' := by
  rcases open_int_slice (show Try.prog.underlying 43 = some (.slice 3) by kernel_rfl) (show Try.prog.underlying 3 = some (.int .i64) by kernel_rfl) (by kernel_rfl) k0 h0 with rfl | ⟨b, o, len, cap, zs, rfl, _, hl, hm, hb, hz, hzs, hc⟩
  · let E : Env := { envOf w [] [] [] [] [] with f := G0 }
    have h1 : (envOf w [] [] [] [] []).Ok := envOf_ok (fun _ h => (by cases h)) (fun _ h => (by cases h)) (fun _ h => (by cases h))
    have hEok : E.Ok := ⟨h1.i, h1.l, G0_in⟩
    exact law_ok (fun2_ok 5) walks_nil (E := E) (w := w) rfl (slMem_ok 10 hEok rfl rfl (fun _ h => (by cases h)) (fun _ h => (by cases h)))
  · let S : SlArg := ⟨1, 2, 3, 4, 5, 1, b, o, len, cap, zs⟩
    have hm' := hm
    unfold maxLen at hm'
    let E : Env := { envOf w [] [(5, zs)] [(2, [0]), (3, [(len : Int)]), (4, [(cap : Int)])] [(1, b)] [(1, o)] with f := G0 }
    have h1 : (envOf w [] [(5, zs)] [(2, [0]), (3, [(len : Int)]), (4, [(cap : Int)])] [(1, b)] [(1, o)]).Ok := envOf_ok (fun _ h => (by cases h)) (fun x hx z hzx => by
        simp only [List.mem_cons, List.not_mem_nil, or_false] at hx; subst hx; exact hzs z hzx) (fun x hx z hzx => by
        simp only [List.mem_cons, List.not_mem_nil, or_false] at hx
        rcases hx with rfl | rfl | rfl
        · simp only [List.mem_cons, List.not_mem_nil, or_false] at hzx; subst hzx; simp [in64, lo64, hi64]
        · simp only [List.mem_cons, List.not_mem_nil, or_false] at hzx; subst hzx; simp only [in64, lo64, hi64]; omega
        · simp only [List.mem_cons, List.not_mem_nil, or_false] at hzx; subst hzx; simp only [in64, lo64, hi64]; omega)
    have hEok : E.Ok := ⟨h1.i, h1.l, G0_in⟩
    have hN : S.Named E := ⟨rfl, rfl, rfl, rfl, rfl, rfl, (by show (5 : Nat) ≠ 0; decide)⟩
    have hH : S.Holds w := ⟨hb, hl, hm, hz, hzs, hc⟩
    have := law_ok (runW_ok 5) walks_run (E := E) (w := w) rfl (slMem_ok 10 hEok rfl rfl (fun e he => by
        simp only [List.mem_cons, List.not_mem_nil, or_false] at he; subst he; exact ⟨rfl, SlArg.ent hN hH⟩)
        (SlArg.facts hN hH (by show (len : Int) ≤ hi64; simp only [hi64]; omega)))
    simp only [List.map_cons, List.map_nil] at this
    exact this
end
end Go.Proofs.Ytdngeccbmalbnaa
namespace Go.Proofs.Ytdngeccbmalbnaa.skipWalks
open Go.ChangeShapes Go.WideShapes Go.ChangeAt Go.RowKit Go.Deep

set_option maxRecDepth 100000 in
theorem lifted (os : Os) (started : os.Started) (H : Type) (enc : TypeId × Value → H) :
    ReturnsInHanded {} Try.checked os 5 .any (Rows.skipWalksSpec.pre6 enc Try.prog Try.f5 Rows.skipWalksRow.domain false) (Rows.skipWalksSpec.post enc Try.prog Try.f5 false true false false) := by
  refine returnsInHanded_of_change (C := Try.checked) own started (by kernel_rfl) Try.func5
    (ChangeSpec.witness6 (enc := enc) (C := Try.checked) false ⟨#[], #[.slice none 0 0], []⟩ 60 (by kernel_rfl) (by kernel_rfl) (by kernel_rfl) (by kernel_rfl)) ?_
  intro W base args ds gs before hval0 hW _ _
  have hval : ∀ (j : Nat) t v, Try.f5.params[j]? = some t → args[j]? = some v → Value.okWide Try.prog W .any base t v := hval0
  have hW' := hW
  obtain ⟨p, q, hA0, hV, rfl, _, _⟩ := hW
  have hA : DataW.TrodAll enc Try.prog W 0 (fun _ => true) true Try.f5.params.toList args.toList ds p := hA0
  rw [Try.params5] at hA hval
  obtain ⟨v0, vs0, d0, ds0, p0, q0, hargs, rfl, rfl, h0, r0⟩ := trodAll_cons hA
  obtain ⟨rfl, rfl, rfl⟩ := trodAll_nil r0
  obtain rfl : args = #[v0] := by cases args; simp_all
  obtain ⟨rfl, rfl⟩ := trodVars_none hV
  have tl0 : ∀ x ∈ p0, x.block < W.heap.size := by obtain ⟨m, hm⟩ := h0; exact DataW.trod_lt m _ _ _ hm
  clear hA0 hval0
  refine (skipWalks_walk (hval 0 43 v0 rfl rfl) h0).mono fun e W' ⟨he, bel⟩ => ?_
  subst he
  exact ⟨_, rfl, _, _, _, [], _, [], hW', trodAll_mk1 (shut_bool Try.underlying4 _), (trodAll_cons_mk (Below.trod laidOut (by kernel_rfl) (of_decide_eq_true (by kernel_rfl)) h0 bel tl0) trodAll_mk0), rfl, bel.frame _, fun h => by cases h⟩

theorem over : Rows.skipWalksRow.holds Try.pinned (OpenSpec.ofChange Rows.skipWalksSpec) :=
  OpenClaim.holds_of_wide 5 Try.f5 rfl rfl rfl rfl rfl rfl rfl ⟨rfl, rfl, rfl, rfl, rfl⟩ rfl rfl rfl rfl rfl (by kernel_rfl) Try.func5 (by kernel_rfl)
    (of_decide_eq_true (by kernel_rfl)) (by unfold Func.isWrapper; first | (rw [if_pos (by decide +kernel)]; kernel_rfl) | (rw [if_neg (by decide +kernel)]; exact ⟨rfl, rfl⟩))
    (fun os started H enc _ => lifted os started H enc)

theorem proved : Rows.SkipWalksSaid := over
#print axioms proved
end Go.Proofs.Ytdngeccbmalbnaa.skipWalks
