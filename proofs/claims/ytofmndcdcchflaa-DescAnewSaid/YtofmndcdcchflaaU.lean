/- a view as rows that unknown functions tell. -/
import Derived.Test.YtofmndcdcchflaaA
namespace Go.Proofs.Ytofmndcdcchflaa
open Go.Sx Go Go.DescNum
set_option maxRecDepth 100000
theorem row_fn {E : Env} {r : Nat} (hr : 1000000 ≤ r) {l : List Int} (hl : (l.length : Int) ≤ hi64) (h64 : ∀ z ∈ l, in64 z) (hf : ∀ xs, E.f r xs = clampZ (rowFn l xs)) : E.row r = l := by
 have h0 : E.f r [] = l.length := by
  rw [hf]
  exact clampZ_of (by unfold in64 lo64; show _ ≤ (l.length : Int) ∧ (l.length : Int) ≤ _; unfold hi64 at hl ⊢; omega)
 unfold Env.row
 rw [if_neg (by omega), if_neg (by omega), h0, Int.toNat_natCast]
 refine List.ext_getElem? fun j => ?_
 rw [List.getElem?_map]
 by_cases hj : j < l.length
 ·rw [List.getElem?_range hj, List.getElem?_eq_getElem hj]
  show some (E.f r [(j : Int)]) = _
  rw [hf]
  show some (clampZ (l.getD (j : Int).toNat 0)) = _
  rw [Int.toNat_natCast, List.getD_eq_getElem?_getD, List.getElem?_eq_getElem hj]
  show some (clampZ l[j]) = _
  rw [clampZ_of (h64 _ (List.getElem_mem hj))]
 ·rw [List.getElem?_eq_none (by simpa using hj), List.getElem?_eq_none (by omega)]
  rfl
theorem ev_minus (E : Env) (a b : IE) : ev E (minus a b) = ev E a - ev E b := by
 unfold minus
 rw [ev_add, ev_mul, ev_lit]
 omega
noncomputable def oneBx (id : Nat) (x : Fr → X (SX × Fr)) : BX := fun i => cond (Nat.beq i id) (some x) none
theorem oneBx_ok {G : Gf} {P : Program} {id : Nat} {x : Fr → X (SX × Fr)} {c b : Code} (hb : blocksOf id c = [b]) (hx : CodeOk G P b x) : BlocksOk G P (oneBx id x) c := by
 intro i sp h c' hc'
 unfold oneBx at h
 cases hi : Nat.beq i id with
 | false => rw [hi] at h; cases h
 | true =>
  rw [hi] at h
  cases h
  have hi := Nat.eq_of_beq_eq_true hi
  subst hi
  rw [hb] at hc'
  rcases List.mem_singleton.1 hc' with rfl
  exact hx
structure View (V : List Int) : Prop where
 nums : ∀ z ∈ V, in64 z
theorem getD_in {V : List Int} (h : View V) (j : Nat) : in64 (V.getD j 0) := by
 rw [List.getD_eq_getElem?_getD]
 cases hx : V[j]? with
 | none => constructor <;> decide
 | some x => exact h.nums x (List.mem_of_getElem? hx)
theorem smallU {z : Int} (h0 : 0 ≤ z) (h1 : z ≤ 1000000) : clampZ z = z := clampZ_of (by unfold in64 lo64 hi64; omega)
section
variable {V : List Int} (h : View V) {E : Env} (hE : E.f = G0 V)
include h hE
theorem rowE : E.row 1000003 = entsL V (knowns V 16) := row_fn (by omega) (by
 have := cnt_le (V := V) 16
 rw [entsL_len]
 unfold cnt at this
 unfold hi64
 omega) (fun z hz => by
 obtain ⟨i, hi, hz⟩ := List.mem_flatMap.1 hz
 simp only [List.mem_cons, List.not_mem_nil, or_false] at hz
 rcases hz with rfl | rfl | rfl
 ·unfold knowns at hi
  have := List.mem_range.1 (List.mem_filter.1 hi).1
  unfold in64 lo64 hi64
  omega
 ·exact getD_in h _
 ·exact getD_in h _) (fun xs => by rw [hE]; rfl)
theorem rowWas : E.row 1000004 = wasL V := row_fn (by omega) (by unfold wasL hi64; simp) (fun z hz => by
 obtain ⟨i, _, rfl⟩ := List.mem_map.1 hz
 exact getD_in h _) (fun xs => by rw [hE]; rfl)
theorem rowNow : E.row 1000005 = nowL V := row_fn (by omega) (by unfold nowL hi64; simp) (fun z hz => by
 obtain ⟨i, _, rfl⟩ := List.mem_map.1 hz
 exact getD_in h _) (fun xs => by rw [hE]; rfl)
omit h in
theorem ev1101 (i : Nat) (hi : i ≤ 16) : ev E (g1 1101 (.lit i)) = cnt V i := by
 have h1 := cnt_le (V := V) i
 unfold g1
 rw [ev_app, evA_arg, evA_no, hE, ev_lit]
 have e : fz V 1101 [(i : Int)] = cnt V i := by
  show ((cnt V ((i : Int)).toNat : Nat) : Int) = _
  rw [Int.toNat_natCast]
 show clampZ (fz V 1101 [(i : Int)]) = _
 rw [e]
 exact smallU (by omega) (by omega)
omit h in
theorem ev1106 : ev E (g0 1106) = cnt V 16 := by
 have h1 := cnt_le (V := V) 16
 unfold g0
 rw [ev_app, evA_no, hE]
 show clampZ (cnt V 16 : Int) = _
 exact smallU (by omega) (by omega)
omit h in
theorem ev1110 (i : Nat) : ev E (g1 1110 (.lit i)) = if known V i then 1 else 0 := by
 unfold g1
 rw [ev_app, evA_arg, evA_no, hE, ev_lit]
 have e : fz V 1110 [(i : Int)] = if known V i then 1 else 0 := by
  show (if known V ((i : Int)).toNat then (1 : Int) else 0) = _
  rw [Int.toNat_natCast]
 show clampZ (fz V 1110 [(i : Int)]) = _
 rw [e]
 split <;> exact smallU (by decide) (by decide)
end
noncomputable def kB (i : Nat) : BE := .eq (g1 1110 (.lit i)) (.lit 1)
theorem kB_ev {V : List Int} {E : Env} (hE : E.f = G0 V) (i : Nat) : evB E (kB i) = known V i := by
 show decide (ev E (g1 1110 (.lit i)) = 1) = _
 rw [ev1110 hE]
 cases known V i <;> rfl
noncomputable def viewC : SV := (List.range 16).foldr (fun i r => .cons (.bool (kB i)) r) (.cons (.arr .i64 1000004 (.lit 16) .nil) (.cons (.arr .i64 1000005 (.lit 16) .nil) .nil))
noncomputable def flagsC : SV := (List.range 16).foldr (fun i r => .cons (.bool (kB i)) r) .nil
noncomputable def leaf (ls : List (SV × Mem)) (q : SV × Mem) : Bool := anyS (fun l => !l.1.isNil && fits 1 [l.1] l.2 [q.1] q.2) ls
end Go.Proofs.Ytofmndcdcchflaa
