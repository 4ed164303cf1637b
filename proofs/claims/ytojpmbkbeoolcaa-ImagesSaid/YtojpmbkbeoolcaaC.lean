/- images of states, as rows of bits. -/
import Derived.Test.YtojpmbkbeoolcaaP
namespace Go.Proofs.Ytojpmbkbeoolcaa
open Go.Sx Go
set_option maxRecDepth 100000
def Bit (z : Int) : Prop := z = 0 ∨ z = 1
theorem st_mem {e h : Int} (he : Bit e) (hh : Bit h) : (e, if e = 1 then h else 0) ∈ stZ := by
 rcases he with rfl | rfl <;> rcases hh with rfl | rfl <;> decide
theorem nrm_mem {e0 e1 e2 e3 e4 h0 h1 h2 h3 h4 : Int} (he : ∀ z ∈ [e0, e1, e2, e3, e4], Bit z) (hh : ∀ z ∈ [h0, h1, h2, h3, h4], Bit z) : nrm [e0, e1, e2, e3, e4, h0, h1, h2, h3, h4] ∈ cfgs := by
 refine List.mem_flatMap.2 ⟨_, st_mem (he e0 (by simp)) (hh h0 (by simp)), List.mem_flatMap.2 ⟨_, st_mem (he e1 (by simp)) (hh h1 (by simp)), List.mem_flatMap.2 ⟨_, st_mem (he e2 (by simp)) (hh h2 (by simp)), List.mem_flatMap.2 ⟨_, st_mem (he e3 (by simp)) (hh h3 (by simp)), List.mem_map.2 ⟨_, st_mem (he e4 (by simp)) (hh h4 (by simp)), rfl⟩⟩⟩⟩⟩
theorem eqL_ok : ∀ {l m : List Int}, eqL l m = true → l = m
 | [], [], _ => rfl
 | a :: r, b :: s, h => by
  unfold eqL at h
  rw [Bool.and_eq_true] at h
  rw [zEq_ok h.1, eqL_ok h.2]
theorem cfg_len {xs : List Int} (h : xs ∈ cfgs) : xs.length = 10 := by
 have e : (cfgs.all fun xs => Nat.beq xs.length 10) = true := by kernel_rfl
 exact Nat.eq_of_beq_eq_true (List.all_eq_true.1 e xs h)
theorem cfg_nrm {xs : List Int} (h : xs ∈ cfgs) : nrm xs = xs := by
 have e : (cfgs.all fun xs => eqL (nrm xs) xs) = true := by kernel_rfl
 exact eqL_ok (List.all_eq_true.1 e xs h)
theorem cfg_bit {xs : List Int} (h : xs ∈ cfgs) : ∀ z ∈ xs, Bit z := by
 have e : (cfgs.all fun xs => xs.all fun z => zEq z 0 || zEq z 1) = true := by kernel_rfl
 intro z hz
 have := List.all_eq_true.1 (List.all_eq_true.1 e xs h) z hz
 rw [Bool.or_eq_true] at this
 exact this.imp zEq_ok zEq_ok
theorem len10 {α : Type} : ∀ {l : List α}, l.length = 10 → ∃ a b c d e f g h i j, l = [a, b, c, d, e, f, g, h, i, j]
 | [a, b, c, d, e, f, g, h, i, j], _ => ⟨a, b, c, d, e, f, g, h, i, j, rfl⟩
theorem nextK_in (xs : List Int) (lv : Int) : ∀ (n : Nat) (y : Int), 0 ≤ y → 0 ≤ nextK xs lv n y ∧ nextK xs lv n y ≤ y + n
 | 0, y, h => by unfold nextK; omega
 | n + 1, y, h => by
  unfold nextK
  split
  ·omega
  ·have := nextK_in xs lv n (y + 1) (by omega)
   omega
theorem link_in (xs : List Int) {c : Nat} (hc : c < 12) : 0 ≤ linkZ xs c ∧ linkZ xs c ≤ 5 := by
 unfold linkZ linkAt
 split
 ·have := nextK_in xs ((c % 2 : Nat) : Int) (4 - (((c / 2 : Nat) : Int) - 1)).toNat ((((c / 2 : Nat) : Int) - 1) + 1) (by omega)
  omega
 ·omega
noncomputable def argsOf : IE → Option (List IE)
 | .noarg => some []
 | .arg e r => match argsOf r with
  | some l => some (e :: l)
  | none => none
 | _ => none
theorem argsOf_ok (E : Env) : ∀ {A : IE} {l : List IE}, argsOf A = some l → evA E A = l.map (ev E)
 | .noarg, l, h => by cases h; rfl
 | .arg e r, l, h => by
  unfold argsOf at h
  split at h
  ·rename_i l' hl
   cases h
   rw [evA_arg, argsOf_ok E hl]
   rfl
  ·cases h
noncomputable def linksOk (A : IE) : List IE → Nat → Bool
 | [], _ => true
 | e :: r, c => ieEq e (.app (430 + c) A) && linksOk A r (c + 1)
theorem linksOk_ev (E : Env) {A : IE} : ∀ {l : List IE} {c : Nat}, linksOk A l c = true → l.map (ev E) = (List.range l.length).map fun j => ev E (.app (430 + (c + j)) A)
 | [], _, _ => rfl
 | e :: r, c, h => by
  unfold linksOk at h
  rw [Bool.and_eq_true] at h
  rw [List.map_cons, ieEq_ok h.1, linksOk_ev E h.2, List.length_cons, List.range_succ_eq_map, List.map_cons, List.map_map]
  congr 1
  refine List.map_congr_left fun j _ => ?_
  show ev E (.app (430 + (c + 1 + j)) A) = ev E (.app (430 + (c + (j + 1))) A)
  rw [show c + 1 + j = c + (j + 1) by omega]
noncomputable def bitsOf : List IE → Option (List IE)
 | .app f A :: r => cond (linksOk A (.app f A :: r) 0) (argsOf A) none
 | l => cond (l.all fun e => ieEq e (.lit 0)) (some (List.replicate 10 (.lit 0))) none
theorem G0_link {E : Env} (hE : E.f = G0) {A : IE} {c : Nat} (hc : c < 12) {xs : List Int} (hx : evA E A = xs) : ev E (.app (430 + c) A) = linkZ (nrm xs) c := by
 rw [ev_app, hx, hE]
 unfold G0
 rw [if_neg (by omega), if_neg (by omega), if_neg (by omega), if_pos (by omega), Nat.add_sub_cancel_left]
 unfold clampZ
 have := link_in (nrm xs) hc
 rw [if_pos (by unfold lo64 hi64; omega)]
theorem all_zero (E : Env) : ∀ {l : List IE}, (l.all fun e => ieEq e (.lit 0)) = true → l.map (ev E) = List.replicate l.length 0
 | [], _ => rfl
 | e :: r, h => by
  rw [List.all_cons, Bool.and_eq_true] at h
  rw [List.map_cons, all_zero E h.2, ieEq_ok h.1]
  rfl
theorem bitsOf_ok {E : Env} (hE : E.f = G0) {l bs : List IE} (hl : l.length = 12) (h : bitsOf l = some bs) : l.map (ev E) = linksZ (nrm (bs.map (ev E))) := by
 unfold bitsOf at h
 split at h
 ·rename_i f A r
  cases hc : linksOk A (.app f A :: r) 0 with
  | false => rw [hc] at h; cases h
  | true =>
   rw [hc] at h
   have ha := argsOf_ok E (show argsOf A = some bs from h)
   rw [linksOk_ev E hc, hl]
   unfold linksZ
   refine List.map_congr_left fun c hc => ?_
   rw [Nat.zero_add]
   exact G0_link hE (List.mem_range.1 hc) ha
 ·rename_i l' _
  cases hc : (l.all fun e => ieEq e (.lit 0)) with
  | false => rw [hc] at h; cases h
  | true =>
   rw [hc] at h
   cases h
   rw [all_zero E hc, hl]
   have e : eqL (List.replicate 12 0) (linksZ (nrm (List.replicate 10 0))) = true := by kernel_rfl
   rw [eqL_ok e]
   rfl
theorem len16 {α : Type} {l : List α} (h : l.length = 16) : (l.take 4).length = 4 ∧ (l.drop 4).length = 12 := ⟨by rw [List.length_take]; omega, by rw [List.length_drop]; omega⟩
noncomputable def forceL {α : Type} : List Int → (List Int → α) → α
 | [], k => k []
 | z :: r, k => nfZ z fun z => forceL r fun r => k (z :: r)
theorem forceL_eq {α : Type} : ∀ (l : List Int) (k : List Int → α), forceL l k = k l
 | [], _ => rfl
 | z :: r, k => by unfold forceL; rw [nfZ_eq, forceL_eq r]
theorem range_self {l : List Int} {n : Nat} (h : l.length = n) : ((List.range n).map fun j => l.getD j 0) = l := by
 refine List.ext_getElem (by simp [h]) fun i h1 h2 => ?_
 rw [List.getElem_map, List.getElem_range, List.getD_eq_getElem?_getD, List.getElem?_eq_getElem h2]
 rfl
end Go.Proofs.Ytojpmbkbeoolcaa
