/- A number's ranges, gone through one by one. -/
import Derived.Test.YthhjijadllpcpaaSxZa
namespace Go.Sx
open Go
/-- the ranges follow each other from lo to hi, with no gap -/
def coverB (hi : Int) : Int → List Rng → Bool
  | lo, [] => decide (hi < lo)
  | lo, c :: l => decide (c.1 ≤ lo) && coverB hi (c.2 + 1) l
theorem cover_ok {hi z : Int} (hz : z ≤ hi) : ∀ (l : List Rng) (lo : Int), coverB hi lo l = true → lo ≤ z → ∃ c ∈ l, c.1 ≤ z ∧ z ≤ c.2 := by
  intro l
  induction l with
  | nil => intro lo h hl; simp only [coverB, decide_eq_true_eq] at h; omega
  | cons c l ih =>
    intro lo h hl
    simp only [coverB, Bool.and_eq_true, decide_eq_true_eq] at h
    by_cases hc : z ≤ c.2
    · exact ⟨c, List.mem_cons_self, by omega, hc⟩
    · obtain ⟨d, hd, h1⟩ := ih _ h.2 (by omega)
      exact ⟨d, List.mem_cons_of_mem _ hd, h1⟩
/-- from lo to hi one by one, and what lies beyond -/
def one (lo hi : Int) : List Rng := (List.range (hi - lo + 1).toNat).map fun (k : Nat) => (lo + (k : Int), lo + (k : Int))
def ones (lo hi : Int) : List Rng := (lo64, lo - 1) :: one lo hi ++ [(hi + 1, hi64)]
theorem cover64 {l : List Rng} (h : coverB hi64 lo64 l = true) {z : Int} (hz : in64 z) : ∃ c ∈ l, c.1 ≤ z ∧ z ≤ c.2 := cover_ok hz.2 l lo64 h hz.1
/-- the masked number's values -/
theorem cover_and {l : List Rng} {m : Int} (h0 : 0 ≤ m) (h1 : m ≤ hi64) (h : coverB m 0 l = true) (E : Env) (e : IE) :
    ∃ c ∈ l, FactOk E (.bit .and .i64 e (.lit m), c.1, c.2) := by
  have k := and_in .i64 (ev E e) m h0 h1
  exact cover_ok k.2 l 0 h k.1
theorem all_ok {α : Type} {l : List α} {p : α → Bool} (h : l.all p = true) {x : α} (hx : x ∈ l) : p x = true := List.all_eq_true.1 h x hx
end Go.Sx
