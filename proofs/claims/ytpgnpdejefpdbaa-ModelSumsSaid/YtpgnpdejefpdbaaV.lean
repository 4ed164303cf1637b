/- ModelSums: the cases of a round, and that they are all. -/
import Derived.Test.YtpgnpdejefpdbaaU
import Derived.Test.YtpgnpdejefpdbaaD
namespace Go.Proofs.Ytpgnpdejefpdbaa
open Go.Sx Go Go.ChangeShapes Go.WideShapes Go.ChangeAt Go.RowKit Go.Deep
set_option maxRecDepth 100000
noncomputable def trW (w : List Bool) (a b : Nat) : List Fact := cond (!Nat.beq a b && (w[a]?).getD false && (w[b]?).getD false) (trF w a b) []
noncomputable def eqF (e : IE) (n : Nat) : Fact := (e, (n : Int), (n : Int))
noncomputable def caseU (w : List Bool) (n : Nat) : List Fact := if n < 12 then [eqF eK (n / 4), eqF eA (n % 4)] else eqF eK 3 :: eqF eA ((n - 12) / 4) :: eqF eB ((n - 12) % 4) :: trW w ((n - 12) / 4) ((n - 12) % 4)
noncomputable def candU (w : List Bool) (n : Nat) : List Bool := if n < 4 then w.set n true else if n < 8 then w else if n < 12 then w.set (n - 8) false else w
noncomputable def uOk (w : List Bool) (n : Nat) : Bool := hOk w (candU w n) (caseU w n)
noncomputable def sumZ (E : Env) : List Bool → Nat → Int
 | [], _ => 0
 | true :: r, i => ev E (balE i) + sumZ E r (i + 1)
 | false :: r, i => sumZ E r (i + 1)
theorem ev_sumOf (E : Env) : ∀ (w : List Bool) (i : Nat), ev E (sumOf w i) = sumZ E w i
 | [], _ => rfl
 | true :: r, i => by
  show ev E (mkAdd (balE i) (sumOf r (i + 1))) = _
  rw [mkAdd_ok, ev_sumOf E r]; rfl
 | false :: r, i => ev_sumOf E r (i + 1)
theorem bal_pos {E : Env} : ∀ {w : List Bool} {i : Nat}, (∀ f ∈ balF w i, FactOk E f) → ∀ j, w[j]? = some true → 0 ≤ ev E (balE (i + j)) ∧ ev E (balE (i + j)) ≤ 1048575
 | [], _, _, j, hj => by simp at hj
 | c :: r, i, h, 0, hj => by
  simp only [List.getElem?_cons_zero, Option.some.injEq] at hj
  subst hj
  exact h (balE i, 0, 1048575) List.mem_cons_self
 | c :: r, i, h, j + 1, hj => by
  have h2 : ∀ f ∈ balF r (i + 1), FactOk E f := fun f hf => h f (by cases c <;> exact List.mem_cons_of_mem _ hf)
  have := bal_pos h2 j (by simpa using hj)
  rw [show i + 1 + j = i + (j + 1) by omega] at this
  exact this
theorem sumZ_nonneg {E : Env} : ∀ {w : List Bool} {i : Nat}, (∀ j, w[j]? = some true → 0 ≤ ev E (balE (i + j))) → 0 ≤ sumZ E w i
 | [], _, _ => Int.le_refl 0
 | c :: r, i, h => by
  have ih : 0 ≤ sumZ E r (i + 1) := sumZ_nonneg fun j hj => by
   have := h (j + 1) (by simpa using hj)
   rw [show i + (j + 1) = i + 1 + j by omega] at this
   exact this
  cases c with
  | true =>
   have := h 0 rfl
   show 0 ≤ ev E (balE i) + sumZ E r (i + 1)
   rw [Nat.add_zero] at this
   omega
  | false => exact ih
theorem sumZ_set {E : Env} : ∀ {w : List Bool} {i j : Nat}, w[j]? = some true → sumZ E (w.set j false) i + ev E (balE (i + j)) = sumZ E w i
 | [], _, j, hj => by simp at hj
 | c :: r, i, 0, hj => by
  simp only [List.getElem?_cons_zero, Option.some.injEq] at hj
  subst hj
  show sumZ E r (i + 1) + ev E (balE i) = ev E (balE i) + sumZ E r (i + 1)
  omega
 | c :: r, i, j + 1, hj => by
  have ih := sumZ_set (E := E) (w := r) (i := i + 1) (j := j) (by simpa using hj)
  rw [show i + 1 + j = i + (j + 1) by omega] at ih
  cases c with
  | true =>
   show ev E (balE i) + sumZ E (r.set j false) (i + 1) + ev E (balE (i + (j + 1))) = ev E (balE i) + sumZ E r (i + 1)
   omega
  | false => exact ih
theorem set_sub {w : List Bool} {j k : Nat} (h : (w.set j false)[k]? = some true) : w[k]? = some true := by
 rw [List.getElem?_set] at h
 split at h
 ·split at h <;> cases h
 ·exact h
theorem getD_true {o : Option Bool} (h : o.getD false = true) : o = some true := by cases o with
 | none => cases h
 | some c => exact congrArg some h
theorem less_mem {w : List Bool} {f : Fact} : ∀ {l : List (Nat × List Bool)}, f ∈ lessF w l → ∃ p ∈ l, w[p.1]? = some true ∧ (f = (mkSub (sumOf p.2 0) (mkSub (.var 30) (balE p.1)), 0, 0) ∨ f = (mkSub (mkSub (.var 30) (balE p.1)) (sumOf p.2 0), 0, 0) ∨ f = (mkSub (.var 30) (balE p.1), 0, 2520))
 | [], h => by cases h
 | (j, v) :: r, h => by
  unfold lessF at h
  cases hc : (w[j]?).getD false with
  | false =>
   rw [hc] at h
   obtain ⟨p, hp, h1⟩ := less_mem (l := r) h
   exact ⟨p, List.mem_cons_of_mem _ hp, h1⟩
  | true =>
   rw [hc] at h
   dsimp only [cond] at h
   have here := getD_true hc
   rcases List.mem_cons.1 h with rfl | h
   ·exact ⟨_, List.mem_cons_self, here, .inl rfl⟩
   rcases List.mem_cons.1 h with rfl | h
   ·exact ⟨_, List.mem_cons_self, here, .inr (.inl rfl)⟩
   rcases List.mem_cons.1 h with rfl | h
   ·exact ⟨_, List.mem_cons_self, here, .inr (.inr rfl)⟩
   obtain ⟨p, hp, h1⟩ := less_mem (l := r) h
   exact ⟨p, List.mem_cons_of_mem _ hp, h1⟩
theorem less_ok {E : Env} {w : List Bool} (hb : ∀ f ∈ balF w 0, FactOk E f) (hS : sumZ E w 0 = ev E (.var 30)) (hr : ev E (.var 30) ≤ 2520) : ∀ f ∈ lessW w, FactOk E f := by
 intro f hf
 unfold lessW at hf
 obtain ⟨p, hp, h1, h2⟩ := less_mem hf
 obtain ⟨j, _, rfl⟩ := List.mem_map.1 hp
 have pos := bal_pos hb
 have e1 := sumZ_set (E := E) (i := 0) h1
 have e2 := (pos j h1)
 have e3 : 0 ≤ sumZ E (w.set j false) 0 := sumZ_nonneg fun k hk => (pos k (set_sub hk)).1
 rw [Nat.zero_add] at e1 e2
 dsimp only at h2 e1
 rcases h2 with rfl | rfl | rfl <;> unfold FactOk <;> dsimp only
 ·rw [mkSub_ok, mkSub_ok, ev_sumOf]; omega
 ·rw [mkSub_ok, mkSub_ok, ev_sumOf]; omega
 ·rw [mkSub_ok]; omega
noncomputable def opn (a : Nat) : List Bool → Nat → Int
 | [], _ => 0
 | true :: r, i => (if i = a then 1 else 0) + opn a r (i + 1)
 | false :: r, i => opn a r (i + 1)
theorem opn_lt {a : Nat} : ∀ {w : List Bool} {i : Nat}, a < i → opn a w i = 0
 | [], _, _ => rfl
 | true :: r, i, h => by
  show (if i = a then 1 else 0) + opn a r (i + 1) = 0
  rw [if_neg (by omega), opn_lt (by omega)]; rfl
 | false :: r, i, h => opn_lt (w := r) (i := i + 1) (by omega)
theorem opn_of : ∀ {w : List Bool} {i j : Nat}, w[j]? = some true → opn (i + j) w i = 1
 | [], _, j, hj => by simp at hj
 | c :: r, i, 0, hj => by
  simp only [List.getElem?_cons_zero, Option.some.injEq] at hj
  subst hj
  show (if i = i + 0 then 1 else 0) + opn (i + 0) r (i + 1) = 1
  rw [if_pos (show i = i + 0 from rfl), opn_lt (by omega)]; rfl
 | c :: r, i, j + 1, hj => by
  have ih := opn_of (w := r) (i := i + 1) (j := j) (by simpa using hj)
  rw [show i + 1 + j = i + (j + 1) by omega] at ih
  cases c with
  | true =>
   show (if i = i + (j + 1) then 1 else 0) + opn (i + (j + 1)) r (i + 1) = 1
   rw [if_neg (by omega), ih]; rfl
  | false => exact ih
theorem ev_sumTr {E : Env} {a b : Nat} (hab : a ≠ b) : ∀ (w : List Bool) (i : Nat) (acc : IE), ev E (sumTr a b w i acc) + opn a w i * ev E eX = ev E acc + sumZ E w i + opn b w i * ev E eX
 | [], i, acc => by
  show ev E acc + 0 * ev E eX = ev E acc + 0 + 0 * ev E eX
  omega
 | false :: r, i, acc => ev_sumTr hab r (i + 1) acc
 | true :: r, i, acc => by
  have ih := ev_sumTr (E := E) hab r (i + 1) (mkAdd acc (cond (Nat.beq i a) (mkSub (balE a) eX) (cond (Nat.beq i b) (mkAdd (balE b) eX) (balE i))))
  show ev E (sumTr a b r (i + 1) (mkAdd acc (cond (Nat.beq i a) (mkSub (balE a) eX) (cond (Nat.beq i b) (mkAdd (balE b) eX) (balE i))))) + ((if i = a then 1 else 0) + opn a r (i + 1)) * ev E eX = ev E acc + (ev E (balE i) + sumZ E r (i + 1)) + ((if i = b then 1 else 0) + opn b r (i + 1)) * ev E eX
  rw [mkAdd_ok] at ih
  rw [Int.add_mul, Int.add_mul]
  by_cases ha : i = a
  ·subst ha
   rw [Nat.beq_refl] at ih ⊢
   dsimp only [cond] at ih ⊢
   rw [mkSub_ok] at ih
   rw [if_pos rfl, if_neg hab, Int.one_mul, Int.zero_mul]
   omega
  ·have h1 : Nat.beq i a = false := by
    cases hq : Nat.beq i a with
    | false => rfl
    | true => exact absurd (Nat.eq_of_beq_eq_true hq) ha
   rw [h1] at ih ⊢
   dsimp only [cond] at ih ⊢
   rw [if_neg ha, Int.zero_mul]
   by_cases hb : i = b
   ·subst hb
    rw [Nat.beq_refl] at ih ⊢
    dsimp only [cond] at ih ⊢
    rw [mkAdd_ok] at ih
    rw [if_pos rfl, Int.one_mul]
    omega
   ·have h2 : Nat.beq i b = false := by
     cases hq : Nat.beq i b with
     | false => rfl
     | true => exact absurd (Nat.eq_of_beq_eq_true hq) hb
    rw [h2] at ih ⊢
    dsimp only at ih ⊢
    rw [if_neg hb, Int.zero_mul]
    omega
theorem tr_ok {E : Env} {w : List Bool} (hS : sumZ E w 0 = ev E (.var 30)) (a b : Nat) : ∀ f ∈ trW w a b, FactOk E f := by
 intro f hf
 unfold trW at hf
 cases hc : (!Nat.beq a b && (w[a]?).getD false && (w[b]?).getD false) with
 | false => rw [hc] at hf; cases hf
 | true =>
  rw [hc] at hf
  simp only [Bool.and_eq_true, Bool.not_eq_true'] at hc
  obtain ⟨⟨h1, h2⟩, h3⟩ := hc
  have hab : a ≠ b := fun h => by rw [h, Nat.beq_refl] at h1; cases h1
  have e := ev_sumTr (E := E) hab w 0 (.lit 0)
  have o1 := opn_of (i := 0) (getD_true h2)
  have o2 := opn_of (i := 0) (getD_true h3)
  rw [Nat.zero_add] at o1 o2
  rw [o1, o2, ev_lit] at e
  dsimp only [cond] at hf
  unfold trF at hf
  simp only [List.mem_cons, List.not_mem_nil, or_false] at hf
  rcases hf with rfl | rfl <;> unfold FactOk <;> dsimp only <;> rw [mkSub_ok] <;> omega
theorem rngK : rng [] eK = (0, 3) := by kernel_rfl
theorem rngA : rng [] eA = (0, 3) := by kernel_rfl
theorem rngB_ : rng [] eB = (0, 3) := by kernel_rfl
theorem eqF_ok {E : Env} {e : IE} {n : Nat} (h : ev E e = n) : FactOk E (eqF e n) := by unfold FactOk eqF; dsimp only; omega
theorem nat3 {z : Int} (h0 : 0 ≤ z) (h1 : z ≤ 3) : ∃ n : Nat, n < 4 ∧ z = n := ⟨z.toNat, by omega, by omega⟩
theorem coverU {E : Env} (hE : E.Ok) {w : List Bool} (hf : ∀ f ∈ (headU w).mem.know.facts, FactOk E f) : ∃ n, n < 28 ∧ ∀ f ∈ caseU w n ++ lessW w, FactOk E f := by
 have none : ∀ f ∈ ([] : List Fact), FactOk E f := fun _ h => by cases h
 have hk := rng_ok hE none eK
 have ha := rng_ok hE none eA
 have hb := rng_ok hE none eB
 rw [rngK] at hk
 rw [rngA] at ha
 rw [rngB_] at hb
 obtain ⟨k, k4, ek⟩ := nat3 hk.1 hk.2
 obtain ⟨a, a4, ea⟩ := nat3 ha.1 ha.2
 obtain ⟨b, b4, eb⟩ := nat3 hb.1 hb.2
 have hbal : ∀ f ∈ balF w 0, FactOk E f := fun f h => hf f (List.mem_append_left _ h)
 have h30 := hf (.var 30, 0, 2520) (List.mem_append_right _ (List.mem_cons_of_mem _ List.mem_cons_self))
 have hD := hf (mkSub (sumOf w 0) (.var 30), 0, 0) (List.mem_append_right _ (List.mem_cons_of_mem _ (List.mem_cons_of_mem _ (List.mem_cons_of_mem _ List.mem_cons_self))))
 unfold FactOk at h30 hD
 dsimp only at h30 hD
 rw [mkSub_ok, ev_sumOf] at hD
 have hS : sumZ E w 0 = ev E (.var 30) := by omega
 have hless := less_ok hbal hS h30.2
 by_cases h3 : k < 3
 ·refine ⟨4 * k + a, by omega, fun f h => (List.mem_append.1 h).elim (fun h => ?_) (hless f)⟩
  unfold caseU at h
  rw [if_pos (by omega), show (4 * k + a) / 4 = k by omega, show (4 * k + a) % 4 = a by omega] at h
  simp only [List.mem_cons, List.not_mem_nil, or_false] at h
  rcases h with rfl | rfl
  ·exact eqF_ok ek
  ·exact eqF_ok ea
 ·obtain rfl : k = 3 := by omega
  refine ⟨12 + (4 * a + b), by omega, fun f h => (List.mem_append.1 h).elim (fun h => ?_) (hless f)⟩
  unfold caseU at h
  rw [if_neg (by omega), Nat.add_sub_cancel_left, show (4 * a + b) / 4 = a by omega, show (4 * a + b) % 4 = b by omega] at h
  rcases List.mem_cons.1 h with rfl | h
  ·exact eqF_ok ek
  rcases List.mem_cons.1 h with rfl | h
  ·exact eqF_ok ea
  rcases List.mem_cons.1 h with rfl | h
  ·exact eqF_ok eb
  ·exact tr_ok hS a b f h
theorem ws_all : ∀ a b c d : Bool, [a, b, c, d] ∈ wsU := by decide
theorem ws_len {w : List Bool} (h : w ∈ wsU) : ∃ a b c d, w = [a, b, c, d] := by
 have e : (wsU.all fun w => Nat.beq w.length 4) = true := by kernel_rfl
 exact len4 (Nat.eq_of_beq_eq_true (List.all_eq_true.1 e w h))
theorem cand_in {w : List Bool} (h : w ∈ wsU) (n : Nat) : candU w n ∈ wsU := by
 obtain ⟨a, b, c, d, rfl⟩ := ws_len h
 have st : ∀ (j : Nat) (v : Bool), [a, b, c, d].set j v ∈ wsU := fun j v => by
  obtain ⟨a', b', c', d', e⟩ := len4 (l := [a, b, c, d].set j v) (by simp)
  rw [e]
  exact ws_all _ _ _ _
 unfold candU
 split
 ·exact st _ _
 ·split
  ·exact h
  ·split
   ·exact st _ _
   ·exact h
theorem uOk_head {w : List Bool} (h : w ∈ wsU) {n : Nat} (hu : uOk w n = true) : headOk (tabJ []) cxU (fun _ => none) none 400 0 (loopBody 0 (bodyOf Try.f4)) 12 headsU [leaveU] ((headU w).more (caseU w n ++ lessW w)) = true := by
 unfold uOk hOk at hu
 refine headOk_sub (fun x hx => ?_) hu
 simp only [List.mem_cons, List.not_mem_nil, or_false] at hx
 rcases hx with rfl | rfl
 ·exact List.mem_map_of_mem h
 ·exact List.mem_map_of_mem (cand_in h n)
noncomputable def loopU : Fr → X (SX × Fr) := loopP 12 headsU [leaveU]
noncomputable def runU : List SV → X SV := callF (tabJ []) (spOf spU) (bxOf [(4, 0, loopU)]) 400 12 4
noncomputable def okSum : Bool := allOf (runU [xsV] (slMem [xsE] (slF 2 3 4 hi64) 10)) isTrue
noncomputable def okSumN : Bool := allOf (funL spU 4 [.nils] (slMem [] [] 10)) isTrue
end Go.Proofs.Ytpgnpdejefpdbaa
