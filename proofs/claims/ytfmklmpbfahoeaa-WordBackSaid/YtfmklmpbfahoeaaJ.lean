/- the law WordBack: its walk. -/
import Derived.Test.YtfmklmpbfahoeaaJ0
namespace Go.Proofs.Ytfmklmpbfahoeaa
open Go.RowKit

theorem num_get (k v s g e t q : Int) (h : mayW k v s g e t q = true) :
    getMay (numW k v s g e t q) = true ∧ getW (numW k v s g e t q) = wd k v s g e t q ∧ numW k v s g e t q ≤ 9223372036854775807 := by
  simp only [mayW, decide_eq_true_eq] at h
  rcases h with ⟨rfl, a, b, rfl, rfl, rfl, rfl, rfl⟩ | ⟨rfl, rfl, a1, a2, a3, a4, rfl, rfl, rfl⟩ | ⟨rfl, rfl, a1, a2, a3, a4, a5, a6, a7, a8, a9, a10⟩
  · have e1 : numW 0 v 0 0 0 0 0 = 4 * v := by simp [numW]
    have h1 : 4 * v % 4 = 0 := by omega
    have h2 : 4 * v / 4 = v := by omega
    rw [e1]
    exact ⟨by simp only [getMay, decide_eq_true_eq]; omega, by simp [getW, h1, h2], by omega⟩
  · have e1 : numW 2 0 s g 0 0 0 = 4 * (g * 16 + s) + 2 := by simp [numW]
    have h1 : (4 * (g * 16 + s) + 2) % 4 = 2 := by omega
    have h2 : (4 * (g * 16 + s) + 2) / 4 = g * 16 + s := by omega
    have h3 : (g * 16 + s) % 16 = s := by omega
    have h4 : (g * 16 + s) / 16 = g := by omega
    rw [e1]
    exact ⟨by simp only [getMay, decide_eq_true_eq]; omega, by simp [getW, h1, h2, h3, h4], by omega⟩
  · have e1 : numW 1 0 s g e t q = 4 * ((((g * 16 + s) * 16 + e) * 4 + t) * 1048576 + q) + 1 := by simp [numW]
    have h1 : (4 * ((((g * 16 + s) * 16 + e) * 4 + t) * 1048576 + q) + 1) % 4 = 1 := by omega
    have h2 : (4 * ((((g * 16 + s) * 16 + e) * 4 + t) * 1048576 + q) + 1) / 4 = (((g * 16 + s) * 16 + e) * 4 + t) * 1048576 + q := by omega
    have h3 : ((((g * 16 + s) * 16 + e) * 4 + t) * 1048576 + q) % 1048576 = q := by omega
    have h4 : ((((g * 16 + s) * 16 + e) * 4 + t) * 1048576 + q) / 1048576 = ((g * 16 + s) * 16 + e) * 4 + t := by omega
    have h5 : (((g * 16 + s) * 16 + e) * 4 + t) % 4 = t := by omega
    have h6 : (((g * 16 + s) * 16 + e) * 4 + t) / 4 = (g * 16 + s) * 16 + e := by omega
    have h7 : ((g * 16 + s) * 16 + e) % 16 = e := by omega
    have h8 : ((g * 16 + s) * 16 + e) / 16 = g * 16 + s := by omega
    have h9 : (g * 16 + s) % 16 = s := by omega
    have h10 : (g * 16 + s) / 16 = g := by omega
    rw [e1]
    exact ⟨by simp only [getMay, decide_eq_true_eq]; exact ⟨by omega, .inr (.inr ⟨h1, by rw [h2, h4, h6, h8, h9]; omega, by rw [h2, h4, h6, h8, h10]; omega⟩)⟩, by simp [getW, h1, h2, h3, h4, h5, h6, h7, h8, h9, h10], by omega⟩

theorem get_num (x : Int) (h : getMay x = true) : ∃ k v s g e t q, getW x = wd k v s g e t q ∧ mayW k v s g e t q = true ∧ numW k v s g e t q = x := by
  simp only [getMay, decide_eq_true_eq] at h
  obtain ⟨h0, ⟨hk, a⟩ | ⟨hk, a, b⟩ | ⟨hk, a, b⟩⟩ := h
  · exact ⟨0, x / 4, 0, 0, 0, 0, 0, by simp [getW, hk], by simp [mayW]; omega, by simp [numW]; omega⟩
  · exact ⟨2, 0, x / 4 % 16, x / 4 / 16, 0, 0, 0, by simp [getW, hk], by simp [mayW]; omega, by simp [numW]; omega⟩
  · exact ⟨1, 0, x / 4 / 1048576 / 4 / 16 % 16, x / 4 / 1048576 / 4 / 16 / 16, x / 4 / 1048576 / 4 % 16, x / 4 / 1048576 % 4, x / 4 % 1048576, by simp [getW, hk], by simp [mayW]; omega, by simp [numW]; omega⟩

theorem num_inj (k v s g e t q k2 v2 s2 g2 e2 t2 q2 : Int) (h : mayW k v s g e t q = true) (h' : mayW k2 v2 s2 g2 e2 t2 q2 = true) :
    (numW k v s g e t q == numW k2 v2 s2 g2 e2 t2 q2) = eqw k v s g e t q k2 v2 s2 g2 e2 t2 q2 := by
  rw [Bool.eq_iff_iff, beq_iff_eq]
  constructor
  · intro hn
    have h1 := (num_get _ _ _ _ _ _ _ h).2.1
    have h2 := (num_get _ _ _ _ _ _ _ h').2.1
    rw [hn, h2] at h1
    simp only [Value.agg.injEq, Array.mk.injEq, List.cons.injEq, Value.int.injEq, true_and, and_true] at h1
    obtain ⟨rfl, rfl, rfl, rfl, rfl, rfl, rfl⟩ := h1
    simp [eqw]
  · intro hq
    simp only [eqw, decide_eq_true_eq] at hq
    obtain ⟨rfl, rfl, rfl, rfl, rfl, rfl, rfl⟩ := hq
    rfl

theorem wordBack_walk (k v s g e t q k2 v2 s2 g2 e2 t2 q2 x : Int) (w : World) (_ : -9223372036854775808 ≤ x) (x1 : x ≤ 9223372036854775807) :
    Calls Try.prog 4 #[wd k v s g e t q, wd k2 v2 s2 g2 e2 t2 q2, .int .i64 x] w fun r w' => r = .returned (.bool true) ∧ Below w.heap.size w w' := by
  cases hw : mayW k v s g e t q
  · have p1 : PutIs (wd k v s g e t q) 0 100 := ⟨fun w => put_f _ _ _ _ _ _ _ w hw⟩
    have p2 : PutIs (wd k2 v2 s2 g2 e2 t2 q2) (putN k2 v2 s2 g2 e2 t2 q2) (putE k2 v2 s2 g2 e2 t2 q2) := ⟨fun w => put_any _ _ _ _ _ _ _ w⟩
    have m1 : MayIs (wd k v s g e t q) false := ⟨fun w => may_f _ _ _ _ _ _ _ w hw⟩
    cases hx : getMay x
    · exact wordBack_000 k v s g e t q k2 v2 s2 g2 e2 t2 q2 0 0 0 0 0 0 0 0 _ _ x false w p1 p2 m1 ⟨fun w => get_f x w x1 hx⟩
    · obtain ⟨uk, uv, us, ug, ue, ut, uq, hu, hm, hn⟩ := get_num x hx
      have g1 : GetIs x (wd uk uv us ug ue ut uq) 0 := ⟨fun w => hu ▸ get_t x w x1 hx⟩
      have p3 : PutIs (wd uk uv us ug ue ut uq) x 0 := ⟨fun w => by have := put_t _ _ _ _ _ _ _ w hm; rw [hn] at this; exact this⟩
      exact wordBack_001 k v s g e t q k2 v2 s2 g2 e2 t2 q2 uk uv us ug ue ut uq 0 _ _ x false w p1 p2 m1 g1 p3
  · obtain ⟨n1, n2, n3⟩ := num_get _ _ _ _ _ _ _ hw
    have p1 : PutIs (wd k v s g e t q) (numW k v s g e t q) 0 := ⟨fun w => put_t _ _ _ _ _ _ _ w hw⟩
    have m1 : MayIs (wd k v s g e t q) true := ⟨fun w => may_t _ _ _ _ _ _ _ w hw⟩
    have ga : GetIs (numW k v s g e t q) (wd k v s g e t q) 0 := ⟨fun w => n2 ▸ get_t _ w n3 n1⟩
    have gx : ∃ uk uv us ug ue ut uq, (getMay x = true → GetIs x (wd uk uv us ug ue ut uq) 0 ∧ PutIs (wd uk uv us ug ue ut uq) x 0) := by
      cases hx : getMay x
      · exact ⟨0, 0, 0, 0, 0, 0, 0, fun h => by cases h⟩
      · obtain ⟨uk, uv, us, ug, ue, ut, uq, hu, hm, hn⟩ := get_num x hx
        exact ⟨uk, uv, us, ug, ue, ut, uq, fun _ => ⟨⟨fun w => hu ▸ get_t x w x1 hx⟩, ⟨fun w => by have := put_t _ _ _ _ _ _ _ w hm; rw [hn] at this; exact this⟩⟩⟩
    obtain ⟨uk, uv, us, ug, ue, ut, uq, hu⟩ := gx
    cases hv : mayW k2 v2 s2 g2 e2 t2 q2
    · have p2 : PutIs (wd k2 v2 s2 g2 e2 t2 q2) 0 100 := ⟨fun w => put_f _ _ _ _ _ _ _ w hv⟩
      cases hx : getMay x
      · exact wordBack_100 k v s g e t q k2 v2 s2 g2 e2 t2 q2 0 0 0 0 0 0 0 _ 0 0 x false w p1 p2 m1 ga ⟨fun w => get_f x w x1 hx⟩
      · exact wordBack_101 k v s g e t q k2 v2 s2 g2 e2 t2 q2 uk uv us ug ue ut uq _ 0 0 x false w p1 p2 m1 ga (hu hx).1 (hu hx).2
    · have p2 : PutIs (wd k2 v2 s2 g2 e2 t2 q2) (numW k2 v2 s2 g2 e2 t2 q2) 0 := ⟨fun w => put_t _ _ _ _ _ _ _ w hv⟩
      have hab := num_inj _ _ _ _ _ _ _ _ _ _ _ _ _ _ hw hv
      have hq := eq_wd k v s g e t q k2 v2 s2 g2 e2 t2 q2
      cases hx : getMay x
      · exact wordBack_110 k v s g e t q k2 v2 s2 g2 e2 t2 q2 0 0 0 0 0 0 0 _ _ 0 x _ w p1 p2 m1 ga hab hq ⟨fun w => get_f x w x1 hx⟩
      · exact wordBack_111 k v s g e t q k2 v2 s2 g2 e2 t2 q2 uk uv us ug ue ut uq _ _ 0 x _ w p1 p2 m1 ga hab hq (hu hx).1 (hu hx).2
end Go.Proofs.Ytfmklmpbfahoeaa
