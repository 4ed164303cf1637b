/- limboMay's loop: heads, cases. -/
import Derived.Test.YtoemdbongkkmjaaT4
namespace Go.Proofs.Ytoemdbongkkmjaa
open Go.Sx Go Go.LimboNum
set_option maxRecDepth 100000
noncomputable def headM : HeadP := {
 tm := slotsN 40 [(0, slR 101), (2, .bool (.lit false)), (3, .int .i64 iT)]
 mem := { know := ⟨(iT, 0, most) :: (minus (.var 103) iT, 0, most) :: (minus (.var 103) (g0 1105), 0, 0) :: (minus (g0 1103) iT, 0, hi64) :: faR 101, []⟩, heap := [enR 101], seg := 165, next := 0, nv := 170 }
 mu := .sub (.var 103) iT }
noncomputable def gapM : IE := minus (g0 1105) (g0 1103)
noncomputable def ltM : List Fact := [(.sub (.var 103) iT, 1, most), (.sub iT (.var 103), -most, -1)]
noncomputable def goodC : List Fact := [(e0T, 0, 11), (e1T, 0, 1073741823), (minus (g0 1103) i1, 0, hi64)] ++ ltM
noncomputable def badC (l : List Fact) : List Fact := l ++ ((gapM, 1, most) :: ltM)
noncomputable def bads : List (List Fact) := [[(e0T, lo64, -1)], [(e0T, 12, hi64)], [(e0T, 0, 11), (e1T, lo64, -1)], [(e0T, 0, 11), (e1T, 1073741824, hi64)]]
noncomputable def doneC : List Fact := [(.sub (.var 103) iT, 0, 0), (.sub iT (.var 103), 0, 0), (gapM, 0, 0)]
noncomputable def casesM : List (List Fact × List BE) := [(goodC, []), (doneC, [])] ++ bads.map fun l => (badC l, [])
noncomputable def leavesM : List LeaveP := [
 { e := .normal, tm := slotsN 40 [(2, .bool (.lit false))], mem := { know := ⟨[(gapM, 0, 0)], []⟩, heap := [], seg := 165, next := 0, nv := 170 } },
 { e := .ret, tm := slotsN 40 [(2, .bool (.lit false))], mem := { know := ⟨[(gapM, 1, most)], []⟩, heap := [], seg := 165, next := 0, nv := 170 } }]
noncomputable def bodyM : Code := loopBody 0 (bodyOf Try.f24)
noncomputable def okM (c : List Fact) : Bool := headOk (tabJ []) cx0 (fun _ => none) none 400 0 bodyM 100 [headM] leavesM (headM.more c)
theorem m0 : okM goodC = true := by kernel_rfl
theorem m1 : okM doneC = true := by kernel_rfl
theorem m2 : (bads.all fun l => okM (badC l)) = true := by kernel_rfl
section
variable {N : List Int} {ep : Int} (h : In N ep) {E : Env} (hE : E.f = G0 N ep)
include h hE
theorem coverM (_hk : E.Ok) (hf : ∀ f ∈ headM.mem.know.facts, FactOk E f) : ∃ c ∈ casesM, (∀ f ∈ c.1, FactOk E f) ∧ ∀ x ∈ c.2, evB E x = true := by
 have hi : 0 ≤ E.i 160 ∧ E.i 160 ≤ most := hf (iT, 0, most) (by simp [headM])
 have hn : 0 ≤ ev E (minus (.var 103) iT) ∧ ev E (minus (.var 103) iT) ≤ most := hf (minus (.var 103) iT, 0, most) (by simp [headM])
 have hm : 0 ≤ ev E (minus (.var 103) (g0 1105)) ∧ ev E (minus (.var 103) (g0 1105)) ≤ 0 := hf (minus (.var 103) (g0 1105), 0, 0) (by simp [headM])
 have hg : 0 ≤ ev E (minus (g0 1103) iT) ∧ ev E (minus (g0 1103) iT) ≤ hi64 := hf (minus (g0 1103) iT, 0, hi64) (by simp [headM])
 rw [ev_minus] at hn hm hg
 rw [ev1105 h hE] at hm
 rw [ev1103 h hE] at hg
 have hvi : ev E iT = E.i 160 := rfl
 have hvn : ev E (.var 103) = E.i 103 := rfl
 rw [hvi, hvn] at hn
 rw [hvn] at hm
 rw [hvi] at hg
 have hlen := h.len
 have hgl := goods_le (N := N) (many N)
 have hgap : ev E gapM = many N - goods N (many N) := by
  unfold gapM
  rw [ev_minus, ev1105 h hE, ev1103 h hE]
 generalize hI : (E.i 160).toNat = i
 have he0 : ev E e0T = slotN N i := by rw [ev_e0 h hE hi.1, hI]
 have he1 : ev E e1T = epochN N i := by rw [ev_e1 h hE hi.1, hI]
 have b0 := slot_in h i
 have b1 := epoch_in h i
 have nob : ∀ x ∈ ([] : List BE), evB E x = true := fun _ h => (by cases h)
 by_cases hlt : i < many N
 case neg =>
  refine ⟨_, List.mem_of_getElem? (i := 1) rfl, fun f hf => ?_, nob⟩
  simp only [doneC, List.mem_cons, List.not_mem_nil, or_false] at hf
  unfold FactOk
  rcases hf with rfl | rfl | rfl
  ·dsimp only; rw [ev_sub, hvi, hvn]; omega
  ·dsimp only; rw [ev_sub, hvi, hvn]; omega
  ·dsimp only; rw [hgap]; omega
 case pos =>
 have ltOk : ∀ f ∈ ltM, FactOk E f := fun f hf => by
  simp only [ltM, List.mem_cons, List.not_mem_nil, or_false] at hf
  unfold FactOk
  rcases hf with rfl | rfl
  ·dsimp only; rw [ev_sub, hvi, hvn]; omega
  ·dsimp only; rw [ev_sub, hvi, hvn]; omega
 have bad : ∀ l ∈ bads, mayN N i = false → (∀ f ∈ l, FactOk E f) → ∃ c ∈ casesM, (∀ f ∈ c.1, FactOk E f) ∧ ∀ x ∈ c.2, evB E x = true := fun l hl hb hq => by
  have hg2 := goods_bad hlt hb
  refine ⟨(badC l, []), List.mem_append_right _ (List.mem_map.2 ⟨l, hl, rfl⟩), fun f hf => ?_, nob⟩
  unfold badC at hf
  rcases List.mem_append.1 hf with hf | hf
  ·exact hq f hf
  rcases List.mem_cons.1 hf with rfl | hf
  ·show 1 ≤ ev E gapM ∧ ev E gapM ≤ most
   rw [hgap]; omega
  ·exact ltOk f hf
 unfold in64 at b0 b1
 have r0 : ∀ lo hi : Int, lo ≤ slotN N i → slotN N i ≤ hi → FactOk E (e0T, lo, hi) := fun lo hi h1 h2 => by
  show lo ≤ ev E e0T ∧ ev E e0T ≤ hi
  rw [he0]; exact ⟨h1, h2⟩
 have r1 : ∀ lo hi : Int, lo ≤ epochN N i → epochN N i ≤ hi → FactOk E (e1T, lo, hi) := fun lo hi h1 h2 => by
  show lo ≤ ev E e1T ∧ ev E e1T ≤ hi
  rw [he1]; exact ⟨h1, h2⟩
 by_cases q1 : slotN N i < 0
 ·exact bad _ (List.mem_of_getElem? (i := 0) rfl) (decide_eq_false (by omega)) fun f hf => by
   rcases List.mem_singleton.1 hf with rfl
   exact r0 _ _ b0.1 (by omega)
 by_cases q2 : 11 < slotN N i
 ·exact bad _ (List.mem_of_getElem? (i := 1) rfl) (decide_eq_false (by omega)) fun f hf => by
   rcases List.mem_singleton.1 hf with rfl
   exact r0 _ _ (by omega) b0.2
 by_cases q3 : epochN N i < 0
 ·exact bad _ (List.mem_of_getElem? (i := 2) rfl) (decide_eq_false (by omega)) fun f hf => by
   simp only [List.mem_cons, List.not_mem_nil, or_false] at hf
   rcases hf with rfl | rfl
   ·exact r0 _ _ (by omega) (by omega)
   ·exact r1 _ _ b1.1 (by omega)
 by_cases q4 : 1073741823 < epochN N i
 ·exact bad _ (List.mem_of_getElem? (i := 3) rfl) (decide_eq_false (by omega)) fun f hf => by
   simp only [List.mem_cons, List.not_mem_nil, or_false] at hf
   rcases hf with rfl | rfl
   ·exact r0 _ _ (by omega) (by omega)
   ·exact r1 _ _ (by omega) b1.2
 have hmay : mayN N i = true := decide_eq_true (by omega)
 refine ⟨_, List.mem_of_getElem? (i := 0) rfl, fun f hf => ?_, nob⟩
 unfold goodC at hf
 rcases List.mem_append.1 hf with hf | hf
 ·simp only [List.mem_cons, List.not_mem_nil, or_false] at hf
  rcases hf with rfl | rfl | rfl
  ·exact r0 _ _ (by omega) (by omega)
  ·exact r1 _ _ (by omega) (by omega)
  ·show 0 ≤ ev E (minus (g0 1103) i1) ∧ ev E (minus (g0 1103) i1) ≤ hi64
   have hi1 : ev E i1 = E.i 160 + 1 := rfl
   have hge : i + 1 ≤ goods N (many N) := by
    by_cases hq : goods N (many N) = i
    ·-- then the first that may not be is this one
     exfalso
     have hs := goods_at hlt hmay (by omega)
     omega
    ·omega
   rw [ev_minus, ev1103 h hE, hi1]
   unfold hi64 at *
   unfold most at *
   omega
 ·exact ltOk f hf
end
end Go.Proofs.Ytoemdbongkkmjaa
