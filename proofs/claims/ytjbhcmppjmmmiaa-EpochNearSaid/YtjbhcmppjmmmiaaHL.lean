/- EpochNear: its loop by the rounds. -/
import Derived.Test.YtjbhcmppjmmmiaaHa
import Derived.Test.YtjbhcmppjmmmiaaHb
import Derived.Test.YtjbhcmppjmmmiaaHc
import Derived.Test.YtjbhcmppjmmmiaaHd
import Derived.Test.YtjbhcmppjmmmiaaHe
import Derived.Test.YtjbhcmppjmmmiaaHf
import Derived.Test.YtjbhcmppjmmmiaaHg
import Derived.Test.YtjbhcmppjmmmiaaHh
import Derived.Test.YtjbhcmppjmmmiaaHi
import Derived.Test.YtjbhcmppjmmmiaaHj
import Derived.Test.YtjbhcmppjmmmiaaHk
import Derived.Test.YtjbhcmppjmmmiaaHl
import Derived.Test.YtjbhcmppjmmmiaaZ
namespace Go.Proofs.Ytjbhcmppjmmmiaa
open Go.Sx Go
set_option maxRecDepth 100000
noncomputable def headsH : List HeadT := (List.range 64).map fun n => headH (n / 8) (n % 8)
theorem memH {a b : Nat} (ha : a < 8) (hb : b < 8) : headH a b ∈ headsH := List.mem_map.2 ⟨8 * a + b, List.mem_range.2 (by omega), by
 show headH ((8 * a + b) / 8) ((8 * a + b) % 8) = _
 rw [show (8 * a + b) / 8 = a by omega, show (8 * a + b) % 8 = b by omega]⟩
theorem okH_sub {a b k t j : Nat} (hn : ∀ p ∈ nextH a b k t, p.1 < 8 ∧ p.2 < 8) (h : okH a b k t j = true) : headOkT (tabJ []) cxG (fun _ => none) none 400 0 bodyH 100 grpsH headsH [leaveH] (headH a b) (caseH a b k t) j = true :=
 headOkT_sub (fun x hx => by
  obtain ⟨p, hp, rfl⟩ := List.mem_map.1 hx
  exact memH (hn p hp).1 (hn p hp).2) h
noncomputable def casesH (a b : Nat) : List CaseT := [caseH a b 0 0, caseH a b 0 1, caseH a b 0 2, caseH a b 1 0, caseH a b 1 1, caseH a b 1 2]
theorem coverH {E : Env} (a b : Nat) : ∃ c ∈ casesH a b, (∀ f ∈ c.fs, FactOk E f) ∧ ∀ x ∈ c.bs, evB E x = true := by
 have hk : 0 ≤ ev E opH ∧ ev E opH ≤ 1 := by
  unfold opH
  rw [ev_bit, ev_lit]
  exact and_in .i64 _ 1 (by decide) (by decide)
 have hv : 0 ≤ ev E (.bit .and .i64 (.sel 14 iH) (.lit 1023)) := by
  rw [ev_bit, ev_lit]
  exact (and_in .i64 _ 1023 (by decide) (by decide)).1
 have hw : 0 ≤ ev E whoH ∧ ev E whoH ≤ 2 := by
  unfold whoH
  rw [ev_rem, ev_lit, Int.tmod_eq_emod_of_nonneg hv]
  omega
 have two : ∀ {k t : Int}, ev E opH = k → ev E whoH = t → ∀ f ∈ [((opH, k, k) : Fact), (whoH, t, t)], FactOk E f := fun h1 h2 f hf => by
  simp only [List.mem_cons, List.not_mem_nil, or_false] at hf
  rcases hf with rfl | rfl
  ·unfold FactOk
   dsimp only
   omega
  ·unfold FactOk
   dsimp only
   omega
 have nob : ∀ x ∈ ([] : List BE), evB E x = true := fun _ h => (by cases h)
 rcases (by omega : ev E opH = 0 ∨ ev E opH = 1) with h | h <;> rcases (by omega : ev E whoH = 0 ∨ ev E whoH = 1 ∨ ev E whoH = 2) with g | g | g
 ·exact ⟨_, List.mem_of_getElem? (i := 0) rfl, two h g, nob⟩
 ·exact ⟨_, List.mem_of_getElem? (i := 1) rfl, two h g, nob⟩
 ·exact ⟨_, List.mem_of_getElem? (i := 2) rfl, two h g, nob⟩
 ·exact ⟨_, List.mem_of_getElem? (i := 3) rfl, two h g, nob⟩
 ·exact ⟨_, List.mem_of_getElem? (i := 4) rfl, two h g, nob⟩
 ·exact ⟨_, List.mem_of_getElem? (i := 5) rfl, two h g, nob⟩
theorem two2 {n : Nat} (h : n < Nat.max 1 2) : n = 0 ∨ n = 1 := by
 have : n < 2 := h
 omega
theorem four4 {n : Nat} (h : n < Nat.max 1 4) : n = 0 ∨ n = 1 ∨ n = 2 ∨ n = 3 := by
 have : n < 4 := h
 omega
theorem one1 {n : Nat} (h : n < 1) : n = 0 := by omega
theorem hH00 : ∀ c ∈ casesH 0 0, ∀ t < nTem grpsH c, headOkT (tabJ []) cxG (fun _ => none) none 400 0 bodyH 100 grpsH headsH [leaveH] (headH 0 0) c t = true := by
 intro c hc t ht
 unfold casesH at hc
 simp only [List.mem_cons, List.not_mem_nil, or_false] at hc
 rcases hc with rfl | rfl | rfl | rfl | rfl | rfl
 ·obtain rfl := one1 ht
  exact okH_sub (k := 0) (t := 0) (by decide) h00_000
 ·obtain rfl := one1 ht
  exact okH_sub (k := 0) (t := 1) (by decide) h00_010
 ·obtain rfl := one1 ht
  exact okH_sub (k := 0) (t := 2) (by decide) h00_020
 ·obtain rfl := one1 ht
  exact okH_sub (k := 1) (t := 0) (by decide) h00_100
 ·obtain rfl := one1 ht
  exact okH_sub (k := 1) (t := 1) (by decide) h00_110
 ·obtain rfl := one1 ht
  exact okH_sub (k := 1) (t := 2) (by decide) h00_120
theorem hH01 : ∀ c ∈ casesH 0 1, ∀ t < nTem grpsH c, headOkT (tabJ []) cxG (fun _ => none) none 400 0 bodyH 100 grpsH headsH [leaveH] (headH 0 1) c t = true := by
 intro c hc t ht
 unfold casesH at hc
 simp only [List.mem_cons, List.not_mem_nil, or_false] at hc
 rcases hc with rfl | rfl | rfl | rfl | rfl | rfl
 ·rcases four4 ht with rfl | rfl | rfl | rfl
  ·exact okH_sub (k := 0) (t := 0) (by decide) h01_000
  ·exact okH_sub (k := 0) (t := 0) (by decide) h01_001
  ·exact okH_sub (k := 0) (t := 0) (by decide) h01_002
  ·exact okH_sub (k := 0) (t := 0) (by decide) h01_003
 ·obtain rfl := one1 ht
  exact okH_sub (k := 0) (t := 1) (by decide) h01_010
 ·obtain rfl := one1 ht
  exact okH_sub (k := 0) (t := 2) (by decide) h01_020
 ·obtain rfl := one1 ht
  exact okH_sub (k := 1) (t := 0) (by decide) h01_100
 ·obtain rfl := one1 ht
  exact okH_sub (k := 1) (t := 1) (by decide) h01_110
 ·obtain rfl := one1 ht
  exact okH_sub (k := 1) (t := 2) (by decide) h01_120
theorem hH02 : ∀ c ∈ casesH 0 2, ∀ t < nTem grpsH c, headOkT (tabJ []) cxG (fun _ => none) none 400 0 bodyH 100 grpsH headsH [leaveH] (headH 0 2) c t = true := by
 intro c hc t ht
 unfold casesH at hc
 simp only [List.mem_cons, List.not_mem_nil, or_false] at hc
 rcases hc with rfl | rfl | rfl | rfl | rfl | rfl
 ·obtain rfl := one1 ht
  exact okH_sub (k := 0) (t := 0) (by decide) h02_000
 ·rcases four4 ht with rfl | rfl | rfl | rfl
  ·exact okH_sub (k := 0) (t := 1) (by decide) h02_010
  ·exact okH_sub (k := 0) (t := 1) (by decide) h02_011
  ·exact okH_sub (k := 0) (t := 1) (by decide) h02_012
  ·exact okH_sub (k := 0) (t := 1) (by decide) h02_013
 ·obtain rfl := one1 ht
  exact okH_sub (k := 0) (t := 2) (by decide) h02_020
 ·obtain rfl := one1 ht
  exact okH_sub (k := 1) (t := 0) (by decide) h02_100
 ·obtain rfl := one1 ht
  exact okH_sub (k := 1) (t := 1) (by decide) h02_110
 ·obtain rfl := one1 ht
  exact okH_sub (k := 1) (t := 2) (by decide) h02_120
theorem hH03 : ∀ c ∈ casesH 0 3, ∀ t < nTem grpsH c, headOkT (tabJ []) cxG (fun _ => none) none 400 0 bodyH 100 grpsH headsH [leaveH] (headH 0 3) c t = true := by
 intro c hc t ht
 unfold casesH at hc
 simp only [List.mem_cons, List.not_mem_nil, or_false] at hc
 rcases hc with rfl | rfl | rfl | rfl | rfl | rfl
 ·rcases four4 ht with rfl | rfl | rfl | rfl
  ·exact okH_sub (k := 0) (t := 0) (by decide) h03_000
  ·exact okH_sub (k := 0) (t := 0) (by decide) h03_001
  ·exact okH_sub (k := 0) (t := 0) (by decide) h03_002
  ·exact okH_sub (k := 0) (t := 0) (by decide) h03_003
 ·rcases four4 ht with rfl | rfl | rfl | rfl
  ·exact okH_sub (k := 0) (t := 1) (by decide) h03_010
  ·exact okH_sub (k := 0) (t := 1) (by decide) h03_011
  ·exact okH_sub (k := 0) (t := 1) (by decide) h03_012
  ·exact okH_sub (k := 0) (t := 1) (by decide) h03_013
 ·obtain rfl := one1 ht
  exact okH_sub (k := 0) (t := 2) (by decide) h03_020
 ·obtain rfl := one1 ht
  exact okH_sub (k := 1) (t := 0) (by decide) h03_100
 ·obtain rfl := one1 ht
  exact okH_sub (k := 1) (t := 1) (by decide) h03_110
 ·obtain rfl := one1 ht
  exact okH_sub (k := 1) (t := 2) (by decide) h03_120
theorem hH04 : ∀ c ∈ casesH 0 4, ∀ t < nTem grpsH c, headOkT (tabJ []) cxG (fun _ => none) none 400 0 bodyH 100 grpsH headsH [leaveH] (headH 0 4) c t = true := by
 intro c hc t ht
 unfold casesH at hc
 simp only [List.mem_cons, List.not_mem_nil, or_false] at hc
 rcases hc with rfl | rfl | rfl | rfl | rfl | rfl
 ·obtain rfl := one1 ht
  exact okH_sub (k := 0) (t := 0) (by decide) h04_000
 ·obtain rfl := one1 ht
  exact okH_sub (k := 0) (t := 1) (by decide) h04_010
 ·rcases four4 ht with rfl | rfl | rfl | rfl
  ·exact okH_sub (k := 0) (t := 2) (by decide) h04_020
  ·exact okH_sub (k := 0) (t := 2) (by decide) h04_021
  ·exact okH_sub (k := 0) (t := 2) (by decide) h04_022
  ·exact okH_sub (k := 0) (t := 2) (by decide) h04_023
 ·obtain rfl := one1 ht
  exact okH_sub (k := 1) (t := 0) (by decide) h04_100
 ·obtain rfl := one1 ht
  exact okH_sub (k := 1) (t := 1) (by decide) h04_110
 ·obtain rfl := one1 ht
  exact okH_sub (k := 1) (t := 2) (by decide) h04_120
theorem hH05 : ∀ c ∈ casesH 0 5, ∀ t < nTem grpsH c, headOkT (tabJ []) cxG (fun _ => none) none 400 0 bodyH 100 grpsH headsH [leaveH] (headH 0 5) c t = true := by
 intro c hc t ht
 unfold casesH at hc
 simp only [List.mem_cons, List.not_mem_nil, or_false] at hc
 rcases hc with rfl | rfl | rfl | rfl | rfl | rfl
 ·rcases four4 ht with rfl | rfl | rfl | rfl
  ·exact okH_sub (k := 0) (t := 0) (by decide) h05_000
  ·exact okH_sub (k := 0) (t := 0) (by decide) h05_001
  ·exact okH_sub (k := 0) (t := 0) (by decide) h05_002
  ·exact okH_sub (k := 0) (t := 0) (by decide) h05_003
 ·obtain rfl := one1 ht
  exact okH_sub (k := 0) (t := 1) (by decide) h05_010
 ·rcases four4 ht with rfl | rfl | rfl | rfl
  ·exact okH_sub (k := 0) (t := 2) (by decide) h05_020
  ·exact okH_sub (k := 0) (t := 2) (by decide) h05_021
  ·exact okH_sub (k := 0) (t := 2) (by decide) h05_022
  ·exact okH_sub (k := 0) (t := 2) (by decide) h05_023
 ·obtain rfl := one1 ht
  exact okH_sub (k := 1) (t := 0) (by decide) h05_100
 ·obtain rfl := one1 ht
  exact okH_sub (k := 1) (t := 1) (by decide) h05_110
 ·obtain rfl := one1 ht
  exact okH_sub (k := 1) (t := 2) (by decide) h05_120
theorem hH06 : ∀ c ∈ casesH 0 6, ∀ t < nTem grpsH c, headOkT (tabJ []) cxG (fun _ => none) none 400 0 bodyH 100 grpsH headsH [leaveH] (headH 0 6) c t = true := by
 intro c hc t ht
 unfold casesH at hc
 simp only [List.mem_cons, List.not_mem_nil, or_false] at hc
 rcases hc with rfl | rfl | rfl | rfl | rfl | rfl
 ·obtain rfl := one1 ht
  exact okH_sub (k := 0) (t := 0) (by decide) h06_000
 ·rcases four4 ht with rfl | rfl | rfl | rfl
  ·exact okH_sub (k := 0) (t := 1) (by decide) h06_010
  ·exact okH_sub (k := 0) (t := 1) (by decide) h06_011
  ·exact okH_sub (k := 0) (t := 1) (by decide) h06_012
  ·exact okH_sub (k := 0) (t := 1) (by decide) h06_013
 ·rcases four4 ht with rfl | rfl | rfl | rfl
  ·exact okH_sub (k := 0) (t := 2) (by decide) h06_020
  ·exact okH_sub (k := 0) (t := 2) (by decide) h06_021
  ·exact okH_sub (k := 0) (t := 2) (by decide) h06_022
  ·exact okH_sub (k := 0) (t := 2) (by decide) h06_023
 ·obtain rfl := one1 ht
  exact okH_sub (k := 1) (t := 0) (by decide) h06_100
 ·obtain rfl := one1 ht
  exact okH_sub (k := 1) (t := 1) (by decide) h06_110
 ·obtain rfl := one1 ht
  exact okH_sub (k := 1) (t := 2) (by decide) h06_120
theorem hH07 : ∀ c ∈ casesH 0 7, ∀ t < nTem grpsH c, headOkT (tabJ []) cxG (fun _ => none) none 400 0 bodyH 100 grpsH headsH [leaveH] (headH 0 7) c t = true := by
 intro c hc t ht
 unfold casesH at hc
 simp only [List.mem_cons, List.not_mem_nil, or_false] at hc
 rcases hc with rfl | rfl | rfl | rfl | rfl | rfl
 ·rcases four4 ht with rfl | rfl | rfl | rfl
  ·exact okH_sub (k := 0) (t := 0) (by decide) h07_000
  ·exact okH_sub (k := 0) (t := 0) (by decide) h07_001
  ·exact okH_sub (k := 0) (t := 0) (by decide) h07_002
  ·exact okH_sub (k := 0) (t := 0) (by decide) h07_003
 ·rcases four4 ht with rfl | rfl | rfl | rfl
  ·exact okH_sub (k := 0) (t := 1) (by decide) h07_010
  ·exact okH_sub (k := 0) (t := 1) (by decide) h07_011
  ·exact okH_sub (k := 0) (t := 1) (by decide) h07_012
  ·exact okH_sub (k := 0) (t := 1) (by decide) h07_013
 ·rcases four4 ht with rfl | rfl | rfl | rfl
  ·exact okH_sub (k := 0) (t := 2) (by decide) h07_020
  ·exact okH_sub (k := 0) (t := 2) (by decide) h07_021
  ·exact okH_sub (k := 0) (t := 2) (by decide) h07_022
  ·exact okH_sub (k := 0) (t := 2) (by decide) h07_023
 ·obtain rfl := one1 ht
  exact okH_sub (k := 1) (t := 0) (by decide) h07_100
 ·obtain rfl := one1 ht
  exact okH_sub (k := 1) (t := 1) (by decide) h07_110
 ·obtain rfl := one1 ht
  exact okH_sub (k := 1) (t := 2) (by decide) h07_120
theorem hH10 : ∀ c ∈ casesH 1 0, ∀ t < nTem grpsH c, headOkT (tabJ []) cxG (fun _ => none) none 400 0 bodyH 100 grpsH headsH [leaveH] (headH 1 0) c t = true := by
 intro c hc t ht
 unfold casesH at hc
 simp only [List.mem_cons, List.not_mem_nil, or_false] at hc
 rcases hc with rfl | rfl | rfl | rfl | rfl | rfl
 ·obtain rfl := one1 ht
  exact okH_sub (k := 0) (t := 0) (by decide) h10_000
 ·obtain rfl := one1 ht
  exact okH_sub (k := 0) (t := 1) (by decide) h10_010
 ·obtain rfl := one1 ht
  exact okH_sub (k := 0) (t := 2) (by decide) h10_020
 ·rcases two2 ht with rfl | rfl
  ·exact okH_sub (k := 1) (t := 0) (by decide) h10_100
  ·exact okH_sub (k := 1) (t := 0) (by decide) h10_101
 ·obtain rfl := one1 ht
  exact okH_sub (k := 1) (t := 1) (by decide) h10_110
 ·obtain rfl := one1 ht
  exact okH_sub (k := 1) (t := 2) (by decide) h10_120
theorem hH11 : ∀ c ∈ casesH 1 1, ∀ t < nTem grpsH c, headOkT (tabJ []) cxG (fun _ => none) none 400 0 bodyH 100 grpsH headsH [leaveH] (headH 1 1) c t = true := by
 intro c hc t ht
 unfold casesH at hc
 simp only [List.mem_cons, List.not_mem_nil, or_false] at hc
 rcases hc with rfl | rfl | rfl | rfl | rfl | rfl
 ·rcases four4 ht with rfl | rfl | rfl | rfl
  ·exact okH_sub (k := 0) (t := 0) (by decide) h11_000
  ·exact okH_sub (k := 0) (t := 0) (by decide) h11_001
  ·exact okH_sub (k := 0) (t := 0) (by decide) h11_002
  ·exact okH_sub (k := 0) (t := 0) (by decide) h11_003
 ·obtain rfl := one1 ht
  exact okH_sub (k := 0) (t := 1) (by decide) h11_010
 ·obtain rfl := one1 ht
  exact okH_sub (k := 0) (t := 2) (by decide) h11_020
 ·rcases two2 ht with rfl | rfl
  ·exact okH_sub (k := 1) (t := 0) (by decide) h11_100
  ·exact okH_sub (k := 1) (t := 0) (by decide) h11_101
 ·obtain rfl := one1 ht
  exact okH_sub (k := 1) (t := 1) (by decide) h11_110
 ·obtain rfl := one1 ht
  exact okH_sub (k := 1) (t := 2) (by decide) h11_120
theorem hH12 : ∀ c ∈ casesH 1 2, ∀ t < nTem grpsH c, headOkT (tabJ []) cxG (fun _ => none) none 400 0 bodyH 100 grpsH headsH [leaveH] (headH 1 2) c t = true := by
 intro c hc t ht
 unfold casesH at hc
 simp only [List.mem_cons, List.not_mem_nil, or_false] at hc
 rcases hc with rfl | rfl | rfl | rfl | rfl | rfl
 ·obtain rfl := one1 ht
  exact okH_sub (k := 0) (t := 0) (by decide) h12_000
 ·rcases four4 ht with rfl | rfl | rfl | rfl
  ·exact okH_sub (k := 0) (t := 1) (by decide) h12_010
  ·exact okH_sub (k := 0) (t := 1) (by decide) h12_011
  ·exact okH_sub (k := 0) (t := 1) (by decide) h12_012
  ·exact okH_sub (k := 0) (t := 1) (by decide) h12_013
 ·obtain rfl := one1 ht
  exact okH_sub (k := 0) (t := 2) (by decide) h12_020
 ·rcases two2 ht with rfl | rfl
  ·exact okH_sub (k := 1) (t := 0) (by decide) h12_100
  ·exact okH_sub (k := 1) (t := 0) (by decide) h12_101
 ·obtain rfl := one1 ht
  exact okH_sub (k := 1) (t := 1) (by decide) h12_110
 ·obtain rfl := one1 ht
  exact okH_sub (k := 1) (t := 2) (by decide) h12_120
theorem hH13 : ∀ c ∈ casesH 1 3, ∀ t < nTem grpsH c, headOkT (tabJ []) cxG (fun _ => none) none 400 0 bodyH 100 grpsH headsH [leaveH] (headH 1 3) c t = true := by
 intro c hc t ht
 unfold casesH at hc
 simp only [List.mem_cons, List.not_mem_nil, or_false] at hc
 rcases hc with rfl | rfl | rfl | rfl | rfl | rfl
 ·rcases four4 ht with rfl | rfl | rfl | rfl
  ·exact okH_sub (k := 0) (t := 0) (by decide) h13_000
  ·exact okH_sub (k := 0) (t := 0) (by decide) h13_001
  ·exact okH_sub (k := 0) (t := 0) (by decide) h13_002
  ·exact okH_sub (k := 0) (t := 0) (by decide) h13_003
 ·rcases four4 ht with rfl | rfl | rfl | rfl
  ·exact okH_sub (k := 0) (t := 1) (by decide) h13_010
  ·exact okH_sub (k := 0) (t := 1) (by decide) h13_011
  ·exact okH_sub (k := 0) (t := 1) (by decide) h13_012
  ·exact okH_sub (k := 0) (t := 1) (by decide) h13_013
 ·obtain rfl := one1 ht
  exact okH_sub (k := 0) (t := 2) (by decide) h13_020
 ·rcases two2 ht with rfl | rfl
  ·exact okH_sub (k := 1) (t := 0) (by decide) h13_100
  ·exact okH_sub (k := 1) (t := 0) (by decide) h13_101
 ·obtain rfl := one1 ht
  exact okH_sub (k := 1) (t := 1) (by decide) h13_110
 ·obtain rfl := one1 ht
  exact okH_sub (k := 1) (t := 2) (by decide) h13_120
theorem hH14 : ∀ c ∈ casesH 1 4, ∀ t < nTem grpsH c, headOkT (tabJ []) cxG (fun _ => none) none 400 0 bodyH 100 grpsH headsH [leaveH] (headH 1 4) c t = true := by
 intro c hc t ht
 unfold casesH at hc
 simp only [List.mem_cons, List.not_mem_nil, or_false] at hc
 rcases hc with rfl | rfl | rfl | rfl | rfl | rfl
 ·obtain rfl := one1 ht
  exact okH_sub (k := 0) (t := 0) (by decide) h14_000
 ·obtain rfl := one1 ht
  exact okH_sub (k := 0) (t := 1) (by decide) h14_010
 ·rcases four4 ht with rfl | rfl | rfl | rfl
  ·exact okH_sub (k := 0) (t := 2) (by decide) h14_020
  ·exact okH_sub (k := 0) (t := 2) (by decide) h14_021
  ·exact okH_sub (k := 0) (t := 2) (by decide) h14_022
  ·exact okH_sub (k := 0) (t := 2) (by decide) h14_023
 ·rcases two2 ht with rfl | rfl
  ·exact okH_sub (k := 1) (t := 0) (by decide) h14_100
  ·exact okH_sub (k := 1) (t := 0) (by decide) h14_101
 ·obtain rfl := one1 ht
  exact okH_sub (k := 1) (t := 1) (by decide) h14_110
 ·obtain rfl := one1 ht
  exact okH_sub (k := 1) (t := 2) (by decide) h14_120
theorem hH15 : ∀ c ∈ casesH 1 5, ∀ t < nTem grpsH c, headOkT (tabJ []) cxG (fun _ => none) none 400 0 bodyH 100 grpsH headsH [leaveH] (headH 1 5) c t = true := by
 intro c hc t ht
 unfold casesH at hc
 simp only [List.mem_cons, List.not_mem_nil, or_false] at hc
 rcases hc with rfl | rfl | rfl | rfl | rfl | rfl
 ·rcases four4 ht with rfl | rfl | rfl | rfl
  ·exact okH_sub (k := 0) (t := 0) (by decide) h15_000
  ·exact okH_sub (k := 0) (t := 0) (by decide) h15_001
  ·exact okH_sub (k := 0) (t := 0) (by decide) h15_002
  ·exact okH_sub (k := 0) (t := 0) (by decide) h15_003
 ·obtain rfl := one1 ht
  exact okH_sub (k := 0) (t := 1) (by decide) h15_010
 ·rcases four4 ht with rfl | rfl | rfl | rfl
  ·exact okH_sub (k := 0) (t := 2) (by decide) h15_020
  ·exact okH_sub (k := 0) (t := 2) (by decide) h15_021
  ·exact okH_sub (k := 0) (t := 2) (by decide) h15_022
  ·exact okH_sub (k := 0) (t := 2) (by decide) h15_023
 ·rcases two2 ht with rfl | rfl
  ·exact okH_sub (k := 1) (t := 0) (by decide) h15_100
  ·exact okH_sub (k := 1) (t := 0) (by decide) h15_101
 ·obtain rfl := one1 ht
  exact okH_sub (k := 1) (t := 1) (by decide) h15_110
 ·obtain rfl := one1 ht
  exact okH_sub (k := 1) (t := 2) (by decide) h15_120
theorem hH16 : ∀ c ∈ casesH 1 6, ∀ t < nTem grpsH c, headOkT (tabJ []) cxG (fun _ => none) none 400 0 bodyH 100 grpsH headsH [leaveH] (headH 1 6) c t = true := by
 intro c hc t ht
 unfold casesH at hc
 simp only [List.mem_cons, List.not_mem_nil, or_false] at hc
 rcases hc with rfl | rfl | rfl | rfl | rfl | rfl
 ·obtain rfl := one1 ht
  exact okH_sub (k := 0) (t := 0) (by decide) h16_000
 ·rcases four4 ht with rfl | rfl | rfl | rfl
  ·exact okH_sub (k := 0) (t := 1) (by decide) h16_010
  ·exact okH_sub (k := 0) (t := 1) (by decide) h16_011
  ·exact okH_sub (k := 0) (t := 1) (by decide) h16_012
  ·exact okH_sub (k := 0) (t := 1) (by decide) h16_013
 ·rcases four4 ht with rfl | rfl | rfl | rfl
  ·exact okH_sub (k := 0) (t := 2) (by decide) h16_020
  ·exact okH_sub (k := 0) (t := 2) (by decide) h16_021
  ·exact okH_sub (k := 0) (t := 2) (by decide) h16_022
  ·exact okH_sub (k := 0) (t := 2) (by decide) h16_023
 ·rcases two2 ht with rfl | rfl
  ·exact okH_sub (k := 1) (t := 0) (by decide) h16_100
  ·exact okH_sub (k := 1) (t := 0) (by decide) h16_101
 ·obtain rfl := one1 ht
  exact okH_sub (k := 1) (t := 1) (by decide) h16_110
 ·obtain rfl := one1 ht
  exact okH_sub (k := 1) (t := 2) (by decide) h16_120
theorem hH17 : ∀ c ∈ casesH 1 7, ∀ t < nTem grpsH c, headOkT (tabJ []) cxG (fun _ => none) none 400 0 bodyH 100 grpsH headsH [leaveH] (headH 1 7) c t = true := by
 intro c hc t ht
 unfold casesH at hc
 simp only [List.mem_cons, List.not_mem_nil, or_false] at hc
 rcases hc with rfl | rfl | rfl | rfl | rfl | rfl
 ·rcases four4 ht with rfl | rfl | rfl | rfl
  ·exact okH_sub (k := 0) (t := 0) (by decide) h17_000
  ·exact okH_sub (k := 0) (t := 0) (by decide) h17_001
  ·exact okH_sub (k := 0) (t := 0) (by decide) h17_002
  ·exact okH_sub (k := 0) (t := 0) (by decide) h17_003
 ·rcases four4 ht with rfl | rfl | rfl | rfl
  ·exact okH_sub (k := 0) (t := 1) (by decide) h17_010
  ·exact okH_sub (k := 0) (t := 1) (by decide) h17_011
  ·exact okH_sub (k := 0) (t := 1) (by decide) h17_012
  ·exact okH_sub (k := 0) (t := 1) (by decide) h17_013
 ·rcases four4 ht with rfl | rfl | rfl | rfl
  ·exact okH_sub (k := 0) (t := 2) (by decide) h17_020
  ·exact okH_sub (k := 0) (t := 2) (by decide) h17_021
  ·exact okH_sub (k := 0) (t := 2) (by decide) h17_022
  ·exact okH_sub (k := 0) (t := 2) (by decide) h17_023
 ·rcases two2 ht with rfl | rfl
  ·exact okH_sub (k := 1) (t := 0) (by decide) h17_100
  ·exact okH_sub (k := 1) (t := 0) (by decide) h17_101
 ·obtain rfl := one1 ht
  exact okH_sub (k := 1) (t := 1) (by decide) h17_110
 ·obtain rfl := one1 ht
  exact okH_sub (k := 1) (t := 2) (by decide) h17_120
theorem hH20 : ∀ c ∈ casesH 2 0, ∀ t < nTem grpsH c, headOkT (tabJ []) cxG (fun _ => none) none 400 0 bodyH 100 grpsH headsH [leaveH] (headH 2 0) c t = true := by
 intro c hc t ht
 unfold casesH at hc
 simp only [List.mem_cons, List.not_mem_nil, or_false] at hc
 rcases hc with rfl | rfl | rfl | rfl | rfl | rfl
 ·obtain rfl := one1 ht
  exact okH_sub (k := 0) (t := 0) (by decide) h20_000
 ·obtain rfl := one1 ht
  exact okH_sub (k := 0) (t := 1) (by decide) h20_010
 ·obtain rfl := one1 ht
  exact okH_sub (k := 0) (t := 2) (by decide) h20_020
 ·obtain rfl := one1 ht
  exact okH_sub (k := 1) (t := 0) (by decide) h20_100
 ·rcases two2 ht with rfl | rfl
  ·exact okH_sub (k := 1) (t := 1) (by decide) h20_110
  ·exact okH_sub (k := 1) (t := 1) (by decide) h20_111
 ·obtain rfl := one1 ht
  exact okH_sub (k := 1) (t := 2) (by decide) h20_120
theorem hH21 : ∀ c ∈ casesH 2 1, ∀ t < nTem grpsH c, headOkT (tabJ []) cxG (fun _ => none) none 400 0 bodyH 100 grpsH headsH [leaveH] (headH 2 1) c t = true := by
 intro c hc t ht
 unfold casesH at hc
 simp only [List.mem_cons, List.not_mem_nil, or_false] at hc
 rcases hc with rfl | rfl | rfl | rfl | rfl | rfl
 ·rcases four4 ht with rfl | rfl | rfl | rfl
  ·exact okH_sub (k := 0) (t := 0) (by decide) h21_000
  ·exact okH_sub (k := 0) (t := 0) (by decide) h21_001
  ·exact okH_sub (k := 0) (t := 0) (by decide) h21_002
  ·exact okH_sub (k := 0) (t := 0) (by decide) h21_003
 ·obtain rfl := one1 ht
  exact okH_sub (k := 0) (t := 1) (by decide) h21_010
 ·obtain rfl := one1 ht
  exact okH_sub (k := 0) (t := 2) (by decide) h21_020
 ·obtain rfl := one1 ht
  exact okH_sub (k := 1) (t := 0) (by decide) h21_100
 ·rcases two2 ht with rfl | rfl
  ·exact okH_sub (k := 1) (t := 1) (by decide) h21_110
  ·exact okH_sub (k := 1) (t := 1) (by decide) h21_111
 ·obtain rfl := one1 ht
  exact okH_sub (k := 1) (t := 2) (by decide) h21_120
theorem hH22 : ∀ c ∈ casesH 2 2, ∀ t < nTem grpsH c, headOkT (tabJ []) cxG (fun _ => none) none 400 0 bodyH 100 grpsH headsH [leaveH] (headH 2 2) c t = true := by
 intro c hc t ht
 unfold casesH at hc
 simp only [List.mem_cons, List.not_mem_nil, or_false] at hc
 rcases hc with rfl | rfl | rfl | rfl | rfl | rfl
 ·obtain rfl := one1 ht
  exact okH_sub (k := 0) (t := 0) (by decide) h22_000
 ·rcases four4 ht with rfl | rfl | rfl | rfl
  ·exact okH_sub (k := 0) (t := 1) (by decide) h22_010
  ·exact okH_sub (k := 0) (t := 1) (by decide) h22_011
  ·exact okH_sub (k := 0) (t := 1) (by decide) h22_012
  ·exact okH_sub (k := 0) (t := 1) (by decide) h22_013
 ·obtain rfl := one1 ht
  exact okH_sub (k := 0) (t := 2) (by decide) h22_020
 ·obtain rfl := one1 ht
  exact okH_sub (k := 1) (t := 0) (by decide) h22_100
 ·rcases two2 ht with rfl | rfl
  ·exact okH_sub (k := 1) (t := 1) (by decide) h22_110
  ·exact okH_sub (k := 1) (t := 1) (by decide) h22_111
 ·obtain rfl := one1 ht
  exact okH_sub (k := 1) (t := 2) (by decide) h22_120
theorem hH23 : ∀ c ∈ casesH 2 3, ∀ t < nTem grpsH c, headOkT (tabJ []) cxG (fun _ => none) none 400 0 bodyH 100 grpsH headsH [leaveH] (headH 2 3) c t = true := by
 intro c hc t ht
 unfold casesH at hc
 simp only [List.mem_cons, List.not_mem_nil, or_false] at hc
 rcases hc with rfl | rfl | rfl | rfl | rfl | rfl
 ·rcases four4 ht with rfl | rfl | rfl | rfl
  ·exact okH_sub (k := 0) (t := 0) (by decide) h23_000
  ·exact okH_sub (k := 0) (t := 0) (by decide) h23_001
  ·exact okH_sub (k := 0) (t := 0) (by decide) h23_002
  ·exact okH_sub (k := 0) (t := 0) (by decide) h23_003
 ·rcases four4 ht with rfl | rfl | rfl | rfl
  ·exact okH_sub (k := 0) (t := 1) (by decide) h23_010
  ·exact okH_sub (k := 0) (t := 1) (by decide) h23_011
  ·exact okH_sub (k := 0) (t := 1) (by decide) h23_012
  ·exact okH_sub (k := 0) (t := 1) (by decide) h23_013
 ·obtain rfl := one1 ht
  exact okH_sub (k := 0) (t := 2) (by decide) h23_020
 ·obtain rfl := one1 ht
  exact okH_sub (k := 1) (t := 0) (by decide) h23_100
 ·rcases two2 ht with rfl | rfl
  ·exact okH_sub (k := 1) (t := 1) (by decide) h23_110
  ·exact okH_sub (k := 1) (t := 1) (by decide) h23_111
 ·obtain rfl := one1 ht
  exact okH_sub (k := 1) (t := 2) (by decide) h23_120
theorem hH24 : ∀ c ∈ casesH 2 4, ∀ t < nTem grpsH c, headOkT (tabJ []) cxG (fun _ => none) none 400 0 bodyH 100 grpsH headsH [leaveH] (headH 2 4) c t = true := by
 intro c hc t ht
 unfold casesH at hc
 simp only [List.mem_cons, List.not_mem_nil, or_false] at hc
 rcases hc with rfl | rfl | rfl | rfl | rfl | rfl
 ·obtain rfl := one1 ht
  exact okH_sub (k := 0) (t := 0) (by decide) h24_000
 ·obtain rfl := one1 ht
  exact okH_sub (k := 0) (t := 1) (by decide) h24_010
 ·rcases four4 ht with rfl | rfl | rfl | rfl
  ·exact okH_sub (k := 0) (t := 2) (by decide) h24_020
  ·exact okH_sub (k := 0) (t := 2) (by decide) h24_021
  ·exact okH_sub (k := 0) (t := 2) (by decide) h24_022
  ·exact okH_sub (k := 0) (t := 2) (by decide) h24_023
 ·obtain rfl := one1 ht
  exact okH_sub (k := 1) (t := 0) (by decide) h24_100
 ·rcases two2 ht with rfl | rfl
  ·exact okH_sub (k := 1) (t := 1) (by decide) h24_110
  ·exact okH_sub (k := 1) (t := 1) (by decide) h24_111
 ·obtain rfl := one1 ht
  exact okH_sub (k := 1) (t := 2) (by decide) h24_120
theorem hH25 : ∀ c ∈ casesH 2 5, ∀ t < nTem grpsH c, headOkT (tabJ []) cxG (fun _ => none) none 400 0 bodyH 100 grpsH headsH [leaveH] (headH 2 5) c t = true := by
 intro c hc t ht
 unfold casesH at hc
 simp only [List.mem_cons, List.not_mem_nil, or_false] at hc
 rcases hc with rfl | rfl | rfl | rfl | rfl | rfl
 ·rcases four4 ht with rfl | rfl | rfl | rfl
  ·exact okH_sub (k := 0) (t := 0) (by decide) h25_000
  ·exact okH_sub (k := 0) (t := 0) (by decide) h25_001
  ·exact okH_sub (k := 0) (t := 0) (by decide) h25_002
  ·exact okH_sub (k := 0) (t := 0) (by decide) h25_003
 ·obtain rfl := one1 ht
  exact okH_sub (k := 0) (t := 1) (by decide) h25_010
 ·rcases four4 ht with rfl | rfl | rfl | rfl
  ·exact okH_sub (k := 0) (t := 2) (by decide) h25_020
  ·exact okH_sub (k := 0) (t := 2) (by decide) h25_021
  ·exact okH_sub (k := 0) (t := 2) (by decide) h25_022
  ·exact okH_sub (k := 0) (t := 2) (by decide) h25_023
 ·obtain rfl := one1 ht
  exact okH_sub (k := 1) (t := 0) (by decide) h25_100
 ·rcases two2 ht with rfl | rfl
  ·exact okH_sub (k := 1) (t := 1) (by decide) h25_110
  ·exact okH_sub (k := 1) (t := 1) (by decide) h25_111
 ·obtain rfl := one1 ht
  exact okH_sub (k := 1) (t := 2) (by decide) h25_120
theorem hH26 : ∀ c ∈ casesH 2 6, ∀ t < nTem grpsH c, headOkT (tabJ []) cxG (fun _ => none) none 400 0 bodyH 100 grpsH headsH [leaveH] (headH 2 6) c t = true := by
 intro c hc t ht
 unfold casesH at hc
 simp only [List.mem_cons, List.not_mem_nil, or_false] at hc
 rcases hc with rfl | rfl | rfl | rfl | rfl | rfl
 ·obtain rfl := one1 ht
  exact okH_sub (k := 0) (t := 0) (by decide) h26_000
 ·rcases four4 ht with rfl | rfl | rfl | rfl
  ·exact okH_sub (k := 0) (t := 1) (by decide) h26_010
  ·exact okH_sub (k := 0) (t := 1) (by decide) h26_011
  ·exact okH_sub (k := 0) (t := 1) (by decide) h26_012
  ·exact okH_sub (k := 0) (t := 1) (by decide) h26_013
 ·rcases four4 ht with rfl | rfl | rfl | rfl
  ·exact okH_sub (k := 0) (t := 2) (by decide) h26_020
  ·exact okH_sub (k := 0) (t := 2) (by decide) h26_021
  ·exact okH_sub (k := 0) (t := 2) (by decide) h26_022
  ·exact okH_sub (k := 0) (t := 2) (by decide) h26_023
 ·obtain rfl := one1 ht
  exact okH_sub (k := 1) (t := 0) (by decide) h26_100
 ·rcases two2 ht with rfl | rfl
  ·exact okH_sub (k := 1) (t := 1) (by decide) h26_110
  ·exact okH_sub (k := 1) (t := 1) (by decide) h26_111
 ·obtain rfl := one1 ht
  exact okH_sub (k := 1) (t := 2) (by decide) h26_120
theorem hH27 : ∀ c ∈ casesH 2 7, ∀ t < nTem grpsH c, headOkT (tabJ []) cxG (fun _ => none) none 400 0 bodyH 100 grpsH headsH [leaveH] (headH 2 7) c t = true := by
 intro c hc t ht
 unfold casesH at hc
 simp only [List.mem_cons, List.not_mem_nil, or_false] at hc
 rcases hc with rfl | rfl | rfl | rfl | rfl | rfl
 ·rcases four4 ht with rfl | rfl | rfl | rfl
  ·exact okH_sub (k := 0) (t := 0) (by decide) h27_000
  ·exact okH_sub (k := 0) (t := 0) (by decide) h27_001
  ·exact okH_sub (k := 0) (t := 0) (by decide) h27_002
  ·exact okH_sub (k := 0) (t := 0) (by decide) h27_003
 ·rcases four4 ht with rfl | rfl | rfl | rfl
  ·exact okH_sub (k := 0) (t := 1) (by decide) h27_010
  ·exact okH_sub (k := 0) (t := 1) (by decide) h27_011
  ·exact okH_sub (k := 0) (t := 1) (by decide) h27_012
  ·exact okH_sub (k := 0) (t := 1) (by decide) h27_013
 ·rcases four4 ht with rfl | rfl | rfl | rfl
  ·exact okH_sub (k := 0) (t := 2) (by decide) h27_020
  ·exact okH_sub (k := 0) (t := 2) (by decide) h27_021
  ·exact okH_sub (k := 0) (t := 2) (by decide) h27_022
  ·exact okH_sub (k := 0) (t := 2) (by decide) h27_023
 ·obtain rfl := one1 ht
  exact okH_sub (k := 1) (t := 0) (by decide) h27_100
 ·rcases two2 ht with rfl | rfl
  ·exact okH_sub (k := 1) (t := 1) (by decide) h27_110
  ·exact okH_sub (k := 1) (t := 1) (by decide) h27_111
 ·obtain rfl := one1 ht
  exact okH_sub (k := 1) (t := 2) (by decide) h27_120
theorem hH30 : ∀ c ∈ casesH 3 0, ∀ t < nTem grpsH c, headOkT (tabJ []) cxG (fun _ => none) none 400 0 bodyH 100 grpsH headsH [leaveH] (headH 3 0) c t = true := by
 intro c hc t ht
 unfold casesH at hc
 simp only [List.mem_cons, List.not_mem_nil, or_false] at hc
 rcases hc with rfl | rfl | rfl | rfl | rfl | rfl
 ·obtain rfl := one1 ht
  exact okH_sub (k := 0) (t := 0) (by decide) h30_000
 ·obtain rfl := one1 ht
  exact okH_sub (k := 0) (t := 1) (by decide) h30_010
 ·obtain rfl := one1 ht
  exact okH_sub (k := 0) (t := 2) (by decide) h30_020
 ·rcases two2 ht with rfl | rfl
  ·exact okH_sub (k := 1) (t := 0) (by decide) h30_100
  ·exact okH_sub (k := 1) (t := 0) (by decide) h30_101
 ·rcases two2 ht with rfl | rfl
  ·exact okH_sub (k := 1) (t := 1) (by decide) h30_110
  ·exact okH_sub (k := 1) (t := 1) (by decide) h30_111
 ·obtain rfl := one1 ht
  exact okH_sub (k := 1) (t := 2) (by decide) h30_120
theorem hH31 : ∀ c ∈ casesH 3 1, ∀ t < nTem grpsH c, headOkT (tabJ []) cxG (fun _ => none) none 400 0 bodyH 100 grpsH headsH [leaveH] (headH 3 1) c t = true := by
 intro c hc t ht
 unfold casesH at hc
 simp only [List.mem_cons, List.not_mem_nil, or_false] at hc
 rcases hc with rfl | rfl | rfl | rfl | rfl | rfl
 ·rcases four4 ht with rfl | rfl | rfl | rfl
  ·exact okH_sub (k := 0) (t := 0) (by decide) h31_000
  ·exact okH_sub (k := 0) (t := 0) (by decide) h31_001
  ·exact okH_sub (k := 0) (t := 0) (by decide) h31_002
  ·exact okH_sub (k := 0) (t := 0) (by decide) h31_003
 ·obtain rfl := one1 ht
  exact okH_sub (k := 0) (t := 1) (by decide) h31_010
 ·obtain rfl := one1 ht
  exact okH_sub (k := 0) (t := 2) (by decide) h31_020
 ·rcases two2 ht with rfl | rfl
  ·exact okH_sub (k := 1) (t := 0) (by decide) h31_100
  ·exact okH_sub (k := 1) (t := 0) (by decide) h31_101
 ·rcases two2 ht with rfl | rfl
  ·exact okH_sub (k := 1) (t := 1) (by decide) h31_110
  ·exact okH_sub (k := 1) (t := 1) (by decide) h31_111
 ·obtain rfl := one1 ht
  exact okH_sub (k := 1) (t := 2) (by decide) h31_120
theorem hH32 : ∀ c ∈ casesH 3 2, ∀ t < nTem grpsH c, headOkT (tabJ []) cxG (fun _ => none) none 400 0 bodyH 100 grpsH headsH [leaveH] (headH 3 2) c t = true := by
 intro c hc t ht
 unfold casesH at hc
 simp only [List.mem_cons, List.not_mem_nil, or_false] at hc
 rcases hc with rfl | rfl | rfl | rfl | rfl | rfl
 ·obtain rfl := one1 ht
  exact okH_sub (k := 0) (t := 0) (by decide) h32_000
 ·rcases four4 ht with rfl | rfl | rfl | rfl
  ·exact okH_sub (k := 0) (t := 1) (by decide) h32_010
  ·exact okH_sub (k := 0) (t := 1) (by decide) h32_011
  ·exact okH_sub (k := 0) (t := 1) (by decide) h32_012
  ·exact okH_sub (k := 0) (t := 1) (by decide) h32_013
 ·obtain rfl := one1 ht
  exact okH_sub (k := 0) (t := 2) (by decide) h32_020
 ·rcases two2 ht with rfl | rfl
  ·exact okH_sub (k := 1) (t := 0) (by decide) h32_100
  ·exact okH_sub (k := 1) (t := 0) (by decide) h32_101
 ·rcases two2 ht with rfl | rfl
  ·exact okH_sub (k := 1) (t := 1) (by decide) h32_110
  ·exact okH_sub (k := 1) (t := 1) (by decide) h32_111
 ·obtain rfl := one1 ht
  exact okH_sub (k := 1) (t := 2) (by decide) h32_120
theorem hH33 : ∀ c ∈ casesH 3 3, ∀ t < nTem grpsH c, headOkT (tabJ []) cxG (fun _ => none) none 400 0 bodyH 100 grpsH headsH [leaveH] (headH 3 3) c t = true := by
 intro c hc t ht
 unfold casesH at hc
 simp only [List.mem_cons, List.not_mem_nil, or_false] at hc
 rcases hc with rfl | rfl | rfl | rfl | rfl | rfl
 ·rcases four4 ht with rfl | rfl | rfl | rfl
  ·exact okH_sub (k := 0) (t := 0) (by decide) h33_000
  ·exact okH_sub (k := 0) (t := 0) (by decide) h33_001
  ·exact okH_sub (k := 0) (t := 0) (by decide) h33_002
  ·exact okH_sub (k := 0) (t := 0) (by decide) h33_003
 ·rcases four4 ht with rfl | rfl | rfl | rfl
  ·exact okH_sub (k := 0) (t := 1) (by decide) h33_010
  ·exact okH_sub (k := 0) (t := 1) (by decide) h33_011
  ·exact okH_sub (k := 0) (t := 1) (by decide) h33_012
  ·exact okH_sub (k := 0) (t := 1) (by decide) h33_013
 ·obtain rfl := one1 ht
  exact okH_sub (k := 0) (t := 2) (by decide) h33_020
 ·rcases two2 ht with rfl | rfl
  ·exact okH_sub (k := 1) (t := 0) (by decide) h33_100
  ·exact okH_sub (k := 1) (t := 0) (by decide) h33_101
 ·rcases two2 ht with rfl | rfl
  ·exact okH_sub (k := 1) (t := 1) (by decide) h33_110
  ·exact okH_sub (k := 1) (t := 1) (by decide) h33_111
 ·obtain rfl := one1 ht
  exact okH_sub (k := 1) (t := 2) (by decide) h33_120
theorem hH34 : ∀ c ∈ casesH 3 4, ∀ t < nTem grpsH c, headOkT (tabJ []) cxG (fun _ => none) none 400 0 bodyH 100 grpsH headsH [leaveH] (headH 3 4) c t = true := by
 intro c hc t ht
 unfold casesH at hc
 simp only [List.mem_cons, List.not_mem_nil, or_false] at hc
 rcases hc with rfl | rfl | rfl | rfl | rfl | rfl
 ·obtain rfl := one1 ht
  exact okH_sub (k := 0) (t := 0) (by decide) h34_000
 ·obtain rfl := one1 ht
  exact okH_sub (k := 0) (t := 1) (by decide) h34_010
 ·rcases four4 ht with rfl | rfl | rfl | rfl
  ·exact okH_sub (k := 0) (t := 2) (by decide) h34_020
  ·exact okH_sub (k := 0) (t := 2) (by decide) h34_021
  ·exact okH_sub (k := 0) (t := 2) (by decide) h34_022
  ·exact okH_sub (k := 0) (t := 2) (by decide) h34_023
 ·rcases two2 ht with rfl | rfl
  ·exact okH_sub (k := 1) (t := 0) (by decide) h34_100
  ·exact okH_sub (k := 1) (t := 0) (by decide) h34_101
 ·rcases two2 ht with rfl | rfl
  ·exact okH_sub (k := 1) (t := 1) (by decide) h34_110
  ·exact okH_sub (k := 1) (t := 1) (by decide) h34_111
 ·obtain rfl := one1 ht
  exact okH_sub (k := 1) (t := 2) (by decide) h34_120
theorem hH35 : ∀ c ∈ casesH 3 5, ∀ t < nTem grpsH c, headOkT (tabJ []) cxG (fun _ => none) none 400 0 bodyH 100 grpsH headsH [leaveH] (headH 3 5) c t = true := by
 intro c hc t ht
 unfold casesH at hc
 simp only [List.mem_cons, List.not_mem_nil, or_false] at hc
 rcases hc with rfl | rfl | rfl | rfl | rfl | rfl
 ·rcases four4 ht with rfl | rfl | rfl | rfl
  ·exact okH_sub (k := 0) (t := 0) (by decide) h35_000
  ·exact okH_sub (k := 0) (t := 0) (by decide) h35_001
  ·exact okH_sub (k := 0) (t := 0) (by decide) h35_002
  ·exact okH_sub (k := 0) (t := 0) (by decide) h35_003
 ·obtain rfl := one1 ht
  exact okH_sub (k := 0) (t := 1) (by decide) h35_010
 ·rcases four4 ht with rfl | rfl | rfl | rfl
  ·exact okH_sub (k := 0) (t := 2) (by decide) h35_020
  ·exact okH_sub (k := 0) (t := 2) (by decide) h35_021
  ·exact okH_sub (k := 0) (t := 2) (by decide) h35_022
  ·exact okH_sub (k := 0) (t := 2) (by decide) h35_023
 ·rcases two2 ht with rfl | rfl
  ·exact okH_sub (k := 1) (t := 0) (by decide) h35_100
  ·exact okH_sub (k := 1) (t := 0) (by decide) h35_101
 ·rcases two2 ht with rfl | rfl
  ·exact okH_sub (k := 1) (t := 1) (by decide) h35_110
  ·exact okH_sub (k := 1) (t := 1) (by decide) h35_111
 ·obtain rfl := one1 ht
  exact okH_sub (k := 1) (t := 2) (by decide) h35_120
theorem hH36 : ∀ c ∈ casesH 3 6, ∀ t < nTem grpsH c, headOkT (tabJ []) cxG (fun _ => none) none 400 0 bodyH 100 grpsH headsH [leaveH] (headH 3 6) c t = true := by
 intro c hc t ht
 unfold casesH at hc
 simp only [List.mem_cons, List.not_mem_nil, or_false] at hc
 rcases hc with rfl | rfl | rfl | rfl | rfl | rfl
 ·obtain rfl := one1 ht
  exact okH_sub (k := 0) (t := 0) (by decide) h36_000
 ·rcases four4 ht with rfl | rfl | rfl | rfl
  ·exact okH_sub (k := 0) (t := 1) (by decide) h36_010
  ·exact okH_sub (k := 0) (t := 1) (by decide) h36_011
  ·exact okH_sub (k := 0) (t := 1) (by decide) h36_012
  ·exact okH_sub (k := 0) (t := 1) (by decide) h36_013
 ·rcases four4 ht with rfl | rfl | rfl | rfl
  ·exact okH_sub (k := 0) (t := 2) (by decide) h36_020
  ·exact okH_sub (k := 0) (t := 2) (by decide) h36_021
  ·exact okH_sub (k := 0) (t := 2) (by decide) h36_022
  ·exact okH_sub (k := 0) (t := 2) (by decide) h36_023
 ·rcases two2 ht with rfl | rfl
  ·exact okH_sub (k := 1) (t := 0) (by decide) h36_100
  ·exact okH_sub (k := 1) (t := 0) (by decide) h36_101
 ·rcases two2 ht with rfl | rfl
  ·exact okH_sub (k := 1) (t := 1) (by decide) h36_110
  ·exact okH_sub (k := 1) (t := 1) (by decide) h36_111
 ·obtain rfl := one1 ht
  exact okH_sub (k := 1) (t := 2) (by decide) h36_120
theorem hH37 : ∀ c ∈ casesH 3 7, ∀ t < nTem grpsH c, headOkT (tabJ []) cxG (fun _ => none) none 400 0 bodyH 100 grpsH headsH [leaveH] (headH 3 7) c t = true := by
 intro c hc t ht
 unfold casesH at hc
 simp only [List.mem_cons, List.not_mem_nil, or_false] at hc
 rcases hc with rfl | rfl | rfl | rfl | rfl | rfl
 ·rcases four4 ht with rfl | rfl | rfl | rfl
  ·exact okH_sub (k := 0) (t := 0) (by decide) h37_000
  ·exact okH_sub (k := 0) (t := 0) (by decide) h37_001
  ·exact okH_sub (k := 0) (t := 0) (by decide) h37_002
  ·exact okH_sub (k := 0) (t := 0) (by decide) h37_003
 ·rcases four4 ht with rfl | rfl | rfl | rfl
  ·exact okH_sub (k := 0) (t := 1) (by decide) h37_010
  ·exact okH_sub (k := 0) (t := 1) (by decide) h37_011
  ·exact okH_sub (k := 0) (t := 1) (by decide) h37_012
  ·exact okH_sub (k := 0) (t := 1) (by decide) h37_013
 ·rcases four4 ht with rfl | rfl | rfl | rfl
  ·exact okH_sub (k := 0) (t := 2) (by decide) h37_020
  ·exact okH_sub (k := 0) (t := 2) (by decide) h37_021
  ·exact okH_sub (k := 0) (t := 2) (by decide) h37_022
  ·exact okH_sub (k := 0) (t := 2) (by decide) h37_023
 ·rcases two2 ht with rfl | rfl
  ·exact okH_sub (k := 1) (t := 0) (by decide) h37_100
  ·exact okH_sub (k := 1) (t := 0) (by decide) h37_101
 ·rcases two2 ht with rfl | rfl
  ·exact okH_sub (k := 1) (t := 1) (by decide) h37_110
  ·exact okH_sub (k := 1) (t := 1) (by decide) h37_111
 ·obtain rfl := one1 ht
  exact okH_sub (k := 1) (t := 2) (by decide) h37_120
theorem hH40 : ∀ c ∈ casesH 4 0, ∀ t < nTem grpsH c, headOkT (tabJ []) cxG (fun _ => none) none 400 0 bodyH 100 grpsH headsH [leaveH] (headH 4 0) c t = true := by
 intro c hc t ht
 unfold casesH at hc
 simp only [List.mem_cons, List.not_mem_nil, or_false] at hc
 rcases hc with rfl | rfl | rfl | rfl | rfl | rfl
 ·obtain rfl := one1 ht
  exact okH_sub (k := 0) (t := 0) (by decide) h40_000
 ·obtain rfl := one1 ht
  exact okH_sub (k := 0) (t := 1) (by decide) h40_010
 ·obtain rfl := one1 ht
  exact okH_sub (k := 0) (t := 2) (by decide) h40_020
 ·obtain rfl := one1 ht
  exact okH_sub (k := 1) (t := 0) (by decide) h40_100
 ·obtain rfl := one1 ht
  exact okH_sub (k := 1) (t := 1) (by decide) h40_110
 ·rcases two2 ht with rfl | rfl
  ·exact okH_sub (k := 1) (t := 2) (by decide) h40_120
  ·exact okH_sub (k := 1) (t := 2) (by decide) h40_121
theorem hH41 : ∀ c ∈ casesH 4 1, ∀ t < nTem grpsH c, headOkT (tabJ []) cxG (fun _ => none) none 400 0 bodyH 100 grpsH headsH [leaveH] (headH 4 1) c t = true := by
 intro c hc t ht
 unfold casesH at hc
 simp only [List.mem_cons, List.not_mem_nil, or_false] at hc
 rcases hc with rfl | rfl | rfl | rfl | rfl | rfl
 ·rcases four4 ht with rfl | rfl | rfl | rfl
  ·exact okH_sub (k := 0) (t := 0) (by decide) h41_000
  ·exact okH_sub (k := 0) (t := 0) (by decide) h41_001
  ·exact okH_sub (k := 0) (t := 0) (by decide) h41_002
  ·exact okH_sub (k := 0) (t := 0) (by decide) h41_003
 ·obtain rfl := one1 ht
  exact okH_sub (k := 0) (t := 1) (by decide) h41_010
 ·obtain rfl := one1 ht
  exact okH_sub (k := 0) (t := 2) (by decide) h41_020
 ·obtain rfl := one1 ht
  exact okH_sub (k := 1) (t := 0) (by decide) h41_100
 ·obtain rfl := one1 ht
  exact okH_sub (k := 1) (t := 1) (by decide) h41_110
 ·rcases two2 ht with rfl | rfl
  ·exact okH_sub (k := 1) (t := 2) (by decide) h41_120
  ·exact okH_sub (k := 1) (t := 2) (by decide) h41_121
theorem hH42 : ∀ c ∈ casesH 4 2, ∀ t < nTem grpsH c, headOkT (tabJ []) cxG (fun _ => none) none 400 0 bodyH 100 grpsH headsH [leaveH] (headH 4 2) c t = true := by
 intro c hc t ht
 unfold casesH at hc
 simp only [List.mem_cons, List.not_mem_nil, or_false] at hc
 rcases hc with rfl | rfl | rfl | rfl | rfl | rfl
 ·obtain rfl := one1 ht
  exact okH_sub (k := 0) (t := 0) (by decide) h42_000
 ·rcases four4 ht with rfl | rfl | rfl | rfl
  ·exact okH_sub (k := 0) (t := 1) (by decide) h42_010
  ·exact okH_sub (k := 0) (t := 1) (by decide) h42_011
  ·exact okH_sub (k := 0) (t := 1) (by decide) h42_012
  ·exact okH_sub (k := 0) (t := 1) (by decide) h42_013
 ·obtain rfl := one1 ht
  exact okH_sub (k := 0) (t := 2) (by decide) h42_020
 ·obtain rfl := one1 ht
  exact okH_sub (k := 1) (t := 0) (by decide) h42_100
 ·obtain rfl := one1 ht
  exact okH_sub (k := 1) (t := 1) (by decide) h42_110
 ·rcases two2 ht with rfl | rfl
  ·exact okH_sub (k := 1) (t := 2) (by decide) h42_120
  ·exact okH_sub (k := 1) (t := 2) (by decide) h42_121
theorem hH43 : ∀ c ∈ casesH 4 3, ∀ t < nTem grpsH c, headOkT (tabJ []) cxG (fun _ => none) none 400 0 bodyH 100 grpsH headsH [leaveH] (headH 4 3) c t = true := by
 intro c hc t ht
 unfold casesH at hc
 simp only [List.mem_cons, List.not_mem_nil, or_false] at hc
 rcases hc with rfl | rfl | rfl | rfl | rfl | rfl
 ·rcases four4 ht with rfl | rfl | rfl | rfl
  ·exact okH_sub (k := 0) (t := 0) (by decide) h43_000
  ·exact okH_sub (k := 0) (t := 0) (by decide) h43_001
  ·exact okH_sub (k := 0) (t := 0) (by decide) h43_002
  ·exact okH_sub (k := 0) (t := 0) (by decide) h43_003
 ·rcases four4 ht with rfl | rfl | rfl | rfl
  ·exact okH_sub (k := 0) (t := 1) (by decide) h43_010
  ·exact okH_sub (k := 0) (t := 1) (by decide) h43_011
  ·exact okH_sub (k := 0) (t := 1) (by decide) h43_012
  ·exact okH_sub (k := 0) (t := 1) (by decide) h43_013
 ·obtain rfl := one1 ht
  exact okH_sub (k := 0) (t := 2) (by decide) h43_020
 ·obtain rfl := one1 ht
  exact okH_sub (k := 1) (t := 0) (by decide) h43_100
 ·obtain rfl := one1 ht
  exact okH_sub (k := 1) (t := 1) (by decide) h43_110
 ·rcases two2 ht with rfl | rfl
  ·exact okH_sub (k := 1) (t := 2) (by decide) h43_120
  ·exact okH_sub (k := 1) (t := 2) (by decide) h43_121
theorem hH44 : ∀ c ∈ casesH 4 4, ∀ t < nTem grpsH c, headOkT (tabJ []) cxG (fun _ => none) none 400 0 bodyH 100 grpsH headsH [leaveH] (headH 4 4) c t = true := by
 intro c hc t ht
 unfold casesH at hc
 simp only [List.mem_cons, List.not_mem_nil, or_false] at hc
 rcases hc with rfl | rfl | rfl | rfl | rfl | rfl
 ·obtain rfl := one1 ht
  exact okH_sub (k := 0) (t := 0) (by decide) h44_000
 ·obtain rfl := one1 ht
  exact okH_sub (k := 0) (t := 1) (by decide) h44_010
 ·rcases four4 ht with rfl | rfl | rfl | rfl
  ·exact okH_sub (k := 0) (t := 2) (by decide) h44_020
  ·exact okH_sub (k := 0) (t := 2) (by decide) h44_021
  ·exact okH_sub (k := 0) (t := 2) (by decide) h44_022
  ·exact okH_sub (k := 0) (t := 2) (by decide) h44_023
 ·obtain rfl := one1 ht
  exact okH_sub (k := 1) (t := 0) (by decide) h44_100
 ·obtain rfl := one1 ht
  exact okH_sub (k := 1) (t := 1) (by decide) h44_110
 ·rcases two2 ht with rfl | rfl
  ·exact okH_sub (k := 1) (t := 2) (by decide) h44_120
  ·exact okH_sub (k := 1) (t := 2) (by decide) h44_121
theorem hH45 : ∀ c ∈ casesH 4 5, ∀ t < nTem grpsH c, headOkT (tabJ []) cxG (fun _ => none) none 400 0 bodyH 100 grpsH headsH [leaveH] (headH 4 5) c t = true := by
 intro c hc t ht
 unfold casesH at hc
 simp only [List.mem_cons, List.not_mem_nil, or_false] at hc
 rcases hc with rfl | rfl | rfl | rfl | rfl | rfl
 ·rcases four4 ht with rfl | rfl | rfl | rfl
  ·exact okH_sub (k := 0) (t := 0) (by decide) h45_000
  ·exact okH_sub (k := 0) (t := 0) (by decide) h45_001
  ·exact okH_sub (k := 0) (t := 0) (by decide) h45_002
  ·exact okH_sub (k := 0) (t := 0) (by decide) h45_003
 ·obtain rfl := one1 ht
  exact okH_sub (k := 0) (t := 1) (by decide) h45_010
 ·rcases four4 ht with rfl | rfl | rfl | rfl
  ·exact okH_sub (k := 0) (t := 2) (by decide) h45_020
  ·exact okH_sub (k := 0) (t := 2) (by decide) h45_021
  ·exact okH_sub (k := 0) (t := 2) (by decide) h45_022
  ·exact okH_sub (k := 0) (t := 2) (by decide) h45_023
 ·obtain rfl := one1 ht
  exact okH_sub (k := 1) (t := 0) (by decide) h45_100
 ·obtain rfl := one1 ht
  exact okH_sub (k := 1) (t := 1) (by decide) h45_110
 ·rcases two2 ht with rfl | rfl
  ·exact okH_sub (k := 1) (t := 2) (by decide) h45_120
  ·exact okH_sub (k := 1) (t := 2) (by decide) h45_121
theorem hH46 : ∀ c ∈ casesH 4 6, ∀ t < nTem grpsH c, headOkT (tabJ []) cxG (fun _ => none) none 400 0 bodyH 100 grpsH headsH [leaveH] (headH 4 6) c t = true := by
 intro c hc t ht
 unfold casesH at hc
 simp only [List.mem_cons, List.not_mem_nil, or_false] at hc
 rcases hc with rfl | rfl | rfl | rfl | rfl | rfl
 ·obtain rfl := one1 ht
  exact okH_sub (k := 0) (t := 0) (by decide) h46_000
 ·rcases four4 ht with rfl | rfl | rfl | rfl
  ·exact okH_sub (k := 0) (t := 1) (by decide) h46_010
  ·exact okH_sub (k := 0) (t := 1) (by decide) h46_011
  ·exact okH_sub (k := 0) (t := 1) (by decide) h46_012
  ·exact okH_sub (k := 0) (t := 1) (by decide) h46_013
 ·rcases four4 ht with rfl | rfl | rfl | rfl
  ·exact okH_sub (k := 0) (t := 2) (by decide) h46_020
  ·exact okH_sub (k := 0) (t := 2) (by decide) h46_021
  ·exact okH_sub (k := 0) (t := 2) (by decide) h46_022
  ·exact okH_sub (k := 0) (t := 2) (by decide) h46_023
 ·obtain rfl := one1 ht
  exact okH_sub (k := 1) (t := 0) (by decide) h46_100
 ·obtain rfl := one1 ht
  exact okH_sub (k := 1) (t := 1) (by decide) h46_110
 ·rcases two2 ht with rfl | rfl
  ·exact okH_sub (k := 1) (t := 2) (by decide) h46_120
  ·exact okH_sub (k := 1) (t := 2) (by decide) h46_121
theorem hH47 : ∀ c ∈ casesH 4 7, ∀ t < nTem grpsH c, headOkT (tabJ []) cxG (fun _ => none) none 400 0 bodyH 100 grpsH headsH [leaveH] (headH 4 7) c t = true := by
 intro c hc t ht
 unfold casesH at hc
 simp only [List.mem_cons, List.not_mem_nil, or_false] at hc
 rcases hc with rfl | rfl | rfl | rfl | rfl | rfl
 ·rcases four4 ht with rfl | rfl | rfl | rfl
  ·exact okH_sub (k := 0) (t := 0) (by decide) h47_000
  ·exact okH_sub (k := 0) (t := 0) (by decide) h47_001
  ·exact okH_sub (k := 0) (t := 0) (by decide) h47_002
  ·exact okH_sub (k := 0) (t := 0) (by decide) h47_003
 ·rcases four4 ht with rfl | rfl | rfl | rfl
  ·exact okH_sub (k := 0) (t := 1) (by decide) h47_010
  ·exact okH_sub (k := 0) (t := 1) (by decide) h47_011
  ·exact okH_sub (k := 0) (t := 1) (by decide) h47_012
  ·exact okH_sub (k := 0) (t := 1) (by decide) h47_013
 ·rcases four4 ht with rfl | rfl | rfl | rfl
  ·exact okH_sub (k := 0) (t := 2) (by decide) h47_020
  ·exact okH_sub (k := 0) (t := 2) (by decide) h47_021
  ·exact okH_sub (k := 0) (t := 2) (by decide) h47_022
  ·exact okH_sub (k := 0) (t := 2) (by decide) h47_023
 ·obtain rfl := one1 ht
  exact okH_sub (k := 1) (t := 0) (by decide) h47_100
 ·obtain rfl := one1 ht
  exact okH_sub (k := 1) (t := 1) (by decide) h47_110
 ·rcases two2 ht with rfl | rfl
  ·exact okH_sub (k := 1) (t := 2) (by decide) h47_120
  ·exact okH_sub (k := 1) (t := 2) (by decide) h47_121
theorem hH50 : ∀ c ∈ casesH 5 0, ∀ t < nTem grpsH c, headOkT (tabJ []) cxG (fun _ => none) none 400 0 bodyH 100 grpsH headsH [leaveH] (headH 5 0) c t = true := by
 intro c hc t ht
 unfold casesH at hc
 simp only [List.mem_cons, List.not_mem_nil, or_false] at hc
 rcases hc with rfl | rfl | rfl | rfl | rfl | rfl
 ·obtain rfl := one1 ht
  exact okH_sub (k := 0) (t := 0) (by decide) h50_000
 ·obtain rfl := one1 ht
  exact okH_sub (k := 0) (t := 1) (by decide) h50_010
 ·obtain rfl := one1 ht
  exact okH_sub (k := 0) (t := 2) (by decide) h50_020
 ·rcases two2 ht with rfl | rfl
  ·exact okH_sub (k := 1) (t := 0) (by decide) h50_100
  ·exact okH_sub (k := 1) (t := 0) (by decide) h50_101
 ·obtain rfl := one1 ht
  exact okH_sub (k := 1) (t := 1) (by decide) h50_110
 ·rcases two2 ht with rfl | rfl
  ·exact okH_sub (k := 1) (t := 2) (by decide) h50_120
  ·exact okH_sub (k := 1) (t := 2) (by decide) h50_121
theorem hH51 : ∀ c ∈ casesH 5 1, ∀ t < nTem grpsH c, headOkT (tabJ []) cxG (fun _ => none) none 400 0 bodyH 100 grpsH headsH [leaveH] (headH 5 1) c t = true := by
 intro c hc t ht
 unfold casesH at hc
 simp only [List.mem_cons, List.not_mem_nil, or_false] at hc
 rcases hc with rfl | rfl | rfl | rfl | rfl | rfl
 ·rcases four4 ht with rfl | rfl | rfl | rfl
  ·exact okH_sub (k := 0) (t := 0) (by decide) h51_000
  ·exact okH_sub (k := 0) (t := 0) (by decide) h51_001
  ·exact okH_sub (k := 0) (t := 0) (by decide) h51_002
  ·exact okH_sub (k := 0) (t := 0) (by decide) h51_003
 ·obtain rfl := one1 ht
  exact okH_sub (k := 0) (t := 1) (by decide) h51_010
 ·obtain rfl := one1 ht
  exact okH_sub (k := 0) (t := 2) (by decide) h51_020
 ·rcases two2 ht with rfl | rfl
  ·exact okH_sub (k := 1) (t := 0) (by decide) h51_100
  ·exact okH_sub (k := 1) (t := 0) (by decide) h51_101
 ·obtain rfl := one1 ht
  exact okH_sub (k := 1) (t := 1) (by decide) h51_110
 ·rcases two2 ht with rfl | rfl
  ·exact okH_sub (k := 1) (t := 2) (by decide) h51_120
  ·exact okH_sub (k := 1) (t := 2) (by decide) h51_121
theorem hH52 : ∀ c ∈ casesH 5 2, ∀ t < nTem grpsH c, headOkT (tabJ []) cxG (fun _ => none) none 400 0 bodyH 100 grpsH headsH [leaveH] (headH 5 2) c t = true := by
 intro c hc t ht
 unfold casesH at hc
 simp only [List.mem_cons, List.not_mem_nil, or_false] at hc
 rcases hc with rfl | rfl | rfl | rfl | rfl | rfl
 ·obtain rfl := one1 ht
  exact okH_sub (k := 0) (t := 0) (by decide) h52_000
 ·rcases four4 ht with rfl | rfl | rfl | rfl
  ·exact okH_sub (k := 0) (t := 1) (by decide) h52_010
  ·exact okH_sub (k := 0) (t := 1) (by decide) h52_011
  ·exact okH_sub (k := 0) (t := 1) (by decide) h52_012
  ·exact okH_sub (k := 0) (t := 1) (by decide) h52_013
 ·obtain rfl := one1 ht
  exact okH_sub (k := 0) (t := 2) (by decide) h52_020
 ·rcases two2 ht with rfl | rfl
  ·exact okH_sub (k := 1) (t := 0) (by decide) h52_100
  ·exact okH_sub (k := 1) (t := 0) (by decide) h52_101
 ·obtain rfl := one1 ht
  exact okH_sub (k := 1) (t := 1) (by decide) h52_110
 ·rcases two2 ht with rfl | rfl
  ·exact okH_sub (k := 1) (t := 2) (by decide) h52_120
  ·exact okH_sub (k := 1) (t := 2) (by decide) h52_121
theorem hH53 : ∀ c ∈ casesH 5 3, ∀ t < nTem grpsH c, headOkT (tabJ []) cxG (fun _ => none) none 400 0 bodyH 100 grpsH headsH [leaveH] (headH 5 3) c t = true := by
 intro c hc t ht
 unfold casesH at hc
 simp only [List.mem_cons, List.not_mem_nil, or_false] at hc
 rcases hc with rfl | rfl | rfl | rfl | rfl | rfl
 ·rcases four4 ht with rfl | rfl | rfl | rfl
  ·exact okH_sub (k := 0) (t := 0) (by decide) h53_000
  ·exact okH_sub (k := 0) (t := 0) (by decide) h53_001
  ·exact okH_sub (k := 0) (t := 0) (by decide) h53_002
  ·exact okH_sub (k := 0) (t := 0) (by decide) h53_003
 ·rcases four4 ht with rfl | rfl | rfl | rfl
  ·exact okH_sub (k := 0) (t := 1) (by decide) h53_010
  ·exact okH_sub (k := 0) (t := 1) (by decide) h53_011
  ·exact okH_sub (k := 0) (t := 1) (by decide) h53_012
  ·exact okH_sub (k := 0) (t := 1) (by decide) h53_013
 ·obtain rfl := one1 ht
  exact okH_sub (k := 0) (t := 2) (by decide) h53_020
 ·rcases two2 ht with rfl | rfl
  ·exact okH_sub (k := 1) (t := 0) (by decide) h53_100
  ·exact okH_sub (k := 1) (t := 0) (by decide) h53_101
 ·obtain rfl := one1 ht
  exact okH_sub (k := 1) (t := 1) (by decide) h53_110
 ·rcases two2 ht with rfl | rfl
  ·exact okH_sub (k := 1) (t := 2) (by decide) h53_120
  ·exact okH_sub (k := 1) (t := 2) (by decide) h53_121
theorem hH54 : ∀ c ∈ casesH 5 4, ∀ t < nTem grpsH c, headOkT (tabJ []) cxG (fun _ => none) none 400 0 bodyH 100 grpsH headsH [leaveH] (headH 5 4) c t = true := by
 intro c hc t ht
 unfold casesH at hc
 simp only [List.mem_cons, List.not_mem_nil, or_false] at hc
 rcases hc with rfl | rfl | rfl | rfl | rfl | rfl
 ·obtain rfl := one1 ht
  exact okH_sub (k := 0) (t := 0) (by decide) h54_000
 ·obtain rfl := one1 ht
  exact okH_sub (k := 0) (t := 1) (by decide) h54_010
 ·rcases four4 ht with rfl | rfl | rfl | rfl
  ·exact okH_sub (k := 0) (t := 2) (by decide) h54_020
  ·exact okH_sub (k := 0) (t := 2) (by decide) h54_021
  ·exact okH_sub (k := 0) (t := 2) (by decide) h54_022
  ·exact okH_sub (k := 0) (t := 2) (by decide) h54_023
 ·rcases two2 ht with rfl | rfl
  ·exact okH_sub (k := 1) (t := 0) (by decide) h54_100
  ·exact okH_sub (k := 1) (t := 0) (by decide) h54_101
 ·obtain rfl := one1 ht
  exact okH_sub (k := 1) (t := 1) (by decide) h54_110
 ·rcases two2 ht with rfl | rfl
  ·exact okH_sub (k := 1) (t := 2) (by decide) h54_120
  ·exact okH_sub (k := 1) (t := 2) (by decide) h54_121
theorem hH55 : ∀ c ∈ casesH 5 5, ∀ t < nTem grpsH c, headOkT (tabJ []) cxG (fun _ => none) none 400 0 bodyH 100 grpsH headsH [leaveH] (headH 5 5) c t = true := by
 intro c hc t ht
 unfold casesH at hc
 simp only [List.mem_cons, List.not_mem_nil, or_false] at hc
 rcases hc with rfl | rfl | rfl | rfl | rfl | rfl
 ·rcases four4 ht with rfl | rfl | rfl | rfl
  ·exact okH_sub (k := 0) (t := 0) (by decide) h55_000
  ·exact okH_sub (k := 0) (t := 0) (by decide) h55_001
  ·exact okH_sub (k := 0) (t := 0) (by decide) h55_002
  ·exact okH_sub (k := 0) (t := 0) (by decide) h55_003
 ·obtain rfl := one1 ht
  exact okH_sub (k := 0) (t := 1) (by decide) h55_010
 ·rcases four4 ht with rfl | rfl | rfl | rfl
  ·exact okH_sub (k := 0) (t := 2) (by decide) h55_020
  ·exact okH_sub (k := 0) (t := 2) (by decide) h55_021
  ·exact okH_sub (k := 0) (t := 2) (by decide) h55_022
  ·exact okH_sub (k := 0) (t := 2) (by decide) h55_023
 ·rcases two2 ht with rfl | rfl
  ·exact okH_sub (k := 1) (t := 0) (by decide) h55_100
  ·exact okH_sub (k := 1) (t := 0) (by decide) h55_101
 ·obtain rfl := one1 ht
  exact okH_sub (k := 1) (t := 1) (by decide) h55_110
 ·rcases two2 ht with rfl | rfl
  ·exact okH_sub (k := 1) (t := 2) (by decide) h55_120
  ·exact okH_sub (k := 1) (t := 2) (by decide) h55_121
theorem hH56 : ∀ c ∈ casesH 5 6, ∀ t < nTem grpsH c, headOkT (tabJ []) cxG (fun _ => none) none 400 0 bodyH 100 grpsH headsH [leaveH] (headH 5 6) c t = true := by
 intro c hc t ht
 unfold casesH at hc
 simp only [List.mem_cons, List.not_mem_nil, or_false] at hc
 rcases hc with rfl | rfl | rfl | rfl | rfl | rfl
 ·obtain rfl := one1 ht
  exact okH_sub (k := 0) (t := 0) (by decide) h56_000
 ·rcases four4 ht with rfl | rfl | rfl | rfl
  ·exact okH_sub (k := 0) (t := 1) (by decide) h56_010
  ·exact okH_sub (k := 0) (t := 1) (by decide) h56_011
  ·exact okH_sub (k := 0) (t := 1) (by decide) h56_012
  ·exact okH_sub (k := 0) (t := 1) (by decide) h56_013
 ·rcases four4 ht with rfl | rfl | rfl | rfl
  ·exact okH_sub (k := 0) (t := 2) (by decide) h56_020
  ·exact okH_sub (k := 0) (t := 2) (by decide) h56_021
  ·exact okH_sub (k := 0) (t := 2) (by decide) h56_022
  ·exact okH_sub (k := 0) (t := 2) (by decide) h56_023
 ·rcases two2 ht with rfl | rfl
  ·exact okH_sub (k := 1) (t := 0) (by decide) h56_100
  ·exact okH_sub (k := 1) (t := 0) (by decide) h56_101
 ·obtain rfl := one1 ht
  exact okH_sub (k := 1) (t := 1) (by decide) h56_110
 ·rcases two2 ht with rfl | rfl
  ·exact okH_sub (k := 1) (t := 2) (by decide) h56_120
  ·exact okH_sub (k := 1) (t := 2) (by decide) h56_121
theorem hH57 : ∀ c ∈ casesH 5 7, ∀ t < nTem grpsH c, headOkT (tabJ []) cxG (fun _ => none) none 400 0 bodyH 100 grpsH headsH [leaveH] (headH 5 7) c t = true := by
 intro c hc t ht
 unfold casesH at hc
 simp only [List.mem_cons, List.not_mem_nil, or_false] at hc
 rcases hc with rfl | rfl | rfl | rfl | rfl | rfl
 ·rcases four4 ht with rfl | rfl | rfl | rfl
  ·exact okH_sub (k := 0) (t := 0) (by decide) h57_000
  ·exact okH_sub (k := 0) (t := 0) (by decide) h57_001
  ·exact okH_sub (k := 0) (t := 0) (by decide) h57_002
  ·exact okH_sub (k := 0) (t := 0) (by decide) h57_003
 ·rcases four4 ht with rfl | rfl | rfl | rfl
  ·exact okH_sub (k := 0) (t := 1) (by decide) h57_010
  ·exact okH_sub (k := 0) (t := 1) (by decide) h57_011
  ·exact okH_sub (k := 0) (t := 1) (by decide) h57_012
  ·exact okH_sub (k := 0) (t := 1) (by decide) h57_013
 ·rcases four4 ht with rfl | rfl | rfl | rfl
  ·exact okH_sub (k := 0) (t := 2) (by decide) h57_020
  ·exact okH_sub (k := 0) (t := 2) (by decide) h57_021
  ·exact okH_sub (k := 0) (t := 2) (by decide) h57_022
  ·exact okH_sub (k := 0) (t := 2) (by decide) h57_023
 ·rcases two2 ht with rfl | rfl
  ·exact okH_sub (k := 1) (t := 0) (by decide) h57_100
  ·exact okH_sub (k := 1) (t := 0) (by decide) h57_101
 ·obtain rfl := one1 ht
  exact okH_sub (k := 1) (t := 1) (by decide) h57_110
 ·rcases two2 ht with rfl | rfl
  ·exact okH_sub (k := 1) (t := 2) (by decide) h57_120
  ·exact okH_sub (k := 1) (t := 2) (by decide) h57_121
theorem hH60 : ∀ c ∈ casesH 6 0, ∀ t < nTem grpsH c, headOkT (tabJ []) cxG (fun _ => none) none 400 0 bodyH 100 grpsH headsH [leaveH] (headH 6 0) c t = true := by
 intro c hc t ht
 unfold casesH at hc
 simp only [List.mem_cons, List.not_mem_nil, or_false] at hc
 rcases hc with rfl | rfl | rfl | rfl | rfl | rfl
 ·obtain rfl := one1 ht
  exact okH_sub (k := 0) (t := 0) (by decide) h60_000
 ·obtain rfl := one1 ht
  exact okH_sub (k := 0) (t := 1) (by decide) h60_010
 ·obtain rfl := one1 ht
  exact okH_sub (k := 0) (t := 2) (by decide) h60_020
 ·obtain rfl := one1 ht
  exact okH_sub (k := 1) (t := 0) (by decide) h60_100
 ·rcases two2 ht with rfl | rfl
  ·exact okH_sub (k := 1) (t := 1) (by decide) h60_110
  ·exact okH_sub (k := 1) (t := 1) (by decide) h60_111
 ·rcases two2 ht with rfl | rfl
  ·exact okH_sub (k := 1) (t := 2) (by decide) h60_120
  ·exact okH_sub (k := 1) (t := 2) (by decide) h60_121
theorem hH61 : ∀ c ∈ casesH 6 1, ∀ t < nTem grpsH c, headOkT (tabJ []) cxG (fun _ => none) none 400 0 bodyH 100 grpsH headsH [leaveH] (headH 6 1) c t = true := by
 intro c hc t ht
 unfold casesH at hc
 simp only [List.mem_cons, List.not_mem_nil, or_false] at hc
 rcases hc with rfl | rfl | rfl | rfl | rfl | rfl
 ·rcases four4 ht with rfl | rfl | rfl | rfl
  ·exact okH_sub (k := 0) (t := 0) (by decide) h61_000
  ·exact okH_sub (k := 0) (t := 0) (by decide) h61_001
  ·exact okH_sub (k := 0) (t := 0) (by decide) h61_002
  ·exact okH_sub (k := 0) (t := 0) (by decide) h61_003
 ·obtain rfl := one1 ht
  exact okH_sub (k := 0) (t := 1) (by decide) h61_010
 ·obtain rfl := one1 ht
  exact okH_sub (k := 0) (t := 2) (by decide) h61_020
 ·obtain rfl := one1 ht
  exact okH_sub (k := 1) (t := 0) (by decide) h61_100
 ·rcases two2 ht with rfl | rfl
  ·exact okH_sub (k := 1) (t := 1) (by decide) h61_110
  ·exact okH_sub (k := 1) (t := 1) (by decide) h61_111
 ·rcases two2 ht with rfl | rfl
  ·exact okH_sub (k := 1) (t := 2) (by decide) h61_120
  ·exact okH_sub (k := 1) (t := 2) (by decide) h61_121
theorem hH62 : ∀ c ∈ casesH 6 2, ∀ t < nTem grpsH c, headOkT (tabJ []) cxG (fun _ => none) none 400 0 bodyH 100 grpsH headsH [leaveH] (headH 6 2) c t = true := by
 intro c hc t ht
 unfold casesH at hc
 simp only [List.mem_cons, List.not_mem_nil, or_false] at hc
 rcases hc with rfl | rfl | rfl | rfl | rfl | rfl
 ·obtain rfl := one1 ht
  exact okH_sub (k := 0) (t := 0) (by decide) h62_000
 ·rcases four4 ht with rfl | rfl | rfl | rfl
  ·exact okH_sub (k := 0) (t := 1) (by decide) h62_010
  ·exact okH_sub (k := 0) (t := 1) (by decide) h62_011
  ·exact okH_sub (k := 0) (t := 1) (by decide) h62_012
  ·exact okH_sub (k := 0) (t := 1) (by decide) h62_013
 ·obtain rfl := one1 ht
  exact okH_sub (k := 0) (t := 2) (by decide) h62_020
 ·obtain rfl := one1 ht
  exact okH_sub (k := 1) (t := 0) (by decide) h62_100
 ·rcases two2 ht with rfl | rfl
  ·exact okH_sub (k := 1) (t := 1) (by decide) h62_110
  ·exact okH_sub (k := 1) (t := 1) (by decide) h62_111
 ·rcases two2 ht with rfl | rfl
  ·exact okH_sub (k := 1) (t := 2) (by decide) h62_120
  ·exact okH_sub (k := 1) (t := 2) (by decide) h62_121
theorem hH63 : ∀ c ∈ casesH 6 3, ∀ t < nTem grpsH c, headOkT (tabJ []) cxG (fun _ => none) none 400 0 bodyH 100 grpsH headsH [leaveH] (headH 6 3) c t = true := by
 intro c hc t ht
 unfold casesH at hc
 simp only [List.mem_cons, List.not_mem_nil, or_false] at hc
 rcases hc with rfl | rfl | rfl | rfl | rfl | rfl
 ·rcases four4 ht with rfl | rfl | rfl | rfl
  ·exact okH_sub (k := 0) (t := 0) (by decide) h63_000
  ·exact okH_sub (k := 0) (t := 0) (by decide) h63_001
  ·exact okH_sub (k := 0) (t := 0) (by decide) h63_002
  ·exact okH_sub (k := 0) (t := 0) (by decide) h63_003
 ·rcases four4 ht with rfl | rfl | rfl | rfl
  ·exact okH_sub (k := 0) (t := 1) (by decide) h63_010
  ·exact okH_sub (k := 0) (t := 1) (by decide) h63_011
  ·exact okH_sub (k := 0) (t := 1) (by decide) h63_012
  ·exact okH_sub (k := 0) (t := 1) (by decide) h63_013
 ·obtain rfl := one1 ht
  exact okH_sub (k := 0) (t := 2) (by decide) h63_020
 ·obtain rfl := one1 ht
  exact okH_sub (k := 1) (t := 0) (by decide) h63_100
 ·rcases two2 ht with rfl | rfl
  ·exact okH_sub (k := 1) (t := 1) (by decide) h63_110
  ·exact okH_sub (k := 1) (t := 1) (by decide) h63_111
 ·rcases two2 ht with rfl | rfl
  ·exact okH_sub (k := 1) (t := 2) (by decide) h63_120
  ·exact okH_sub (k := 1) (t := 2) (by decide) h63_121
theorem hH64 : ∀ c ∈ casesH 6 4, ∀ t < nTem grpsH c, headOkT (tabJ []) cxG (fun _ => none) none 400 0 bodyH 100 grpsH headsH [leaveH] (headH 6 4) c t = true := by
 intro c hc t ht
 unfold casesH at hc
 simp only [List.mem_cons, List.not_mem_nil, or_false] at hc
 rcases hc with rfl | rfl | rfl | rfl | rfl | rfl
 ·obtain rfl := one1 ht
  exact okH_sub (k := 0) (t := 0) (by decide) h64_000
 ·obtain rfl := one1 ht
  exact okH_sub (k := 0) (t := 1) (by decide) h64_010
 ·rcases four4 ht with rfl | rfl | rfl | rfl
  ·exact okH_sub (k := 0) (t := 2) (by decide) h64_020
  ·exact okH_sub (k := 0) (t := 2) (by decide) h64_021
  ·exact okH_sub (k := 0) (t := 2) (by decide) h64_022
  ·exact okH_sub (k := 0) (t := 2) (by decide) h64_023
 ·obtain rfl := one1 ht
  exact okH_sub (k := 1) (t := 0) (by decide) h64_100
 ·rcases two2 ht with rfl | rfl
  ·exact okH_sub (k := 1) (t := 1) (by decide) h64_110
  ·exact okH_sub (k := 1) (t := 1) (by decide) h64_111
 ·rcases two2 ht with rfl | rfl
  ·exact okH_sub (k := 1) (t := 2) (by decide) h64_120
  ·exact okH_sub (k := 1) (t := 2) (by decide) h64_121
theorem hH65 : ∀ c ∈ casesH 6 5, ∀ t < nTem grpsH c, headOkT (tabJ []) cxG (fun _ => none) none 400 0 bodyH 100 grpsH headsH [leaveH] (headH 6 5) c t = true := by
 intro c hc t ht
 unfold casesH at hc
 simp only [List.mem_cons, List.not_mem_nil, or_false] at hc
 rcases hc with rfl | rfl | rfl | rfl | rfl | rfl
 ·rcases four4 ht with rfl | rfl | rfl | rfl
  ·exact okH_sub (k := 0) (t := 0) (by decide) h65_000
  ·exact okH_sub (k := 0) (t := 0) (by decide) h65_001
  ·exact okH_sub (k := 0) (t := 0) (by decide) h65_002
  ·exact okH_sub (k := 0) (t := 0) (by decide) h65_003
 ·obtain rfl := one1 ht
  exact okH_sub (k := 0) (t := 1) (by decide) h65_010
 ·rcases four4 ht with rfl | rfl | rfl | rfl
  ·exact okH_sub (k := 0) (t := 2) (by decide) h65_020
  ·exact okH_sub (k := 0) (t := 2) (by decide) h65_021
  ·exact okH_sub (k := 0) (t := 2) (by decide) h65_022
  ·exact okH_sub (k := 0) (t := 2) (by decide) h65_023
 ·obtain rfl := one1 ht
  exact okH_sub (k := 1) (t := 0) (by decide) h65_100
 ·rcases two2 ht with rfl | rfl
  ·exact okH_sub (k := 1) (t := 1) (by decide) h65_110
  ·exact okH_sub (k := 1) (t := 1) (by decide) h65_111
 ·rcases two2 ht with rfl | rfl
  ·exact okH_sub (k := 1) (t := 2) (by decide) h65_120
  ·exact okH_sub (k := 1) (t := 2) (by decide) h65_121
theorem hH66 : ∀ c ∈ casesH 6 6, ∀ t < nTem grpsH c, headOkT (tabJ []) cxG (fun _ => none) none 400 0 bodyH 100 grpsH headsH [leaveH] (headH 6 6) c t = true := by
 intro c hc t ht
 unfold casesH at hc
 simp only [List.mem_cons, List.not_mem_nil, or_false] at hc
 rcases hc with rfl | rfl | rfl | rfl | rfl | rfl
 ·obtain rfl := one1 ht
  exact okH_sub (k := 0) (t := 0) (by decide) h66_000
 ·rcases four4 ht with rfl | rfl | rfl | rfl
  ·exact okH_sub (k := 0) (t := 1) (by decide) h66_010
  ·exact okH_sub (k := 0) (t := 1) (by decide) h66_011
  ·exact okH_sub (k := 0) (t := 1) (by decide) h66_012
  ·exact okH_sub (k := 0) (t := 1) (by decide) h66_013
 ·rcases four4 ht with rfl | rfl | rfl | rfl
  ·exact okH_sub (k := 0) (t := 2) (by decide) h66_020
  ·exact okH_sub (k := 0) (t := 2) (by decide) h66_021
  ·exact okH_sub (k := 0) (t := 2) (by decide) h66_022
  ·exact okH_sub (k := 0) (t := 2) (by decide) h66_023
 ·obtain rfl := one1 ht
  exact okH_sub (k := 1) (t := 0) (by decide) h66_100
 ·rcases two2 ht with rfl | rfl
  ·exact okH_sub (k := 1) (t := 1) (by decide) h66_110
  ·exact okH_sub (k := 1) (t := 1) (by decide) h66_111
 ·rcases two2 ht with rfl | rfl
  ·exact okH_sub (k := 1) (t := 2) (by decide) h66_120
  ·exact okH_sub (k := 1) (t := 2) (by decide) h66_121
theorem hH67 : ∀ c ∈ casesH 6 7, ∀ t < nTem grpsH c, headOkT (tabJ []) cxG (fun _ => none) none 400 0 bodyH 100 grpsH headsH [leaveH] (headH 6 7) c t = true := by
 intro c hc t ht
 unfold casesH at hc
 simp only [List.mem_cons, List.not_mem_nil, or_false] at hc
 rcases hc with rfl | rfl | rfl | rfl | rfl | rfl
 ·rcases four4 ht with rfl | rfl | rfl | rfl
  ·exact okH_sub (k := 0) (t := 0) (by decide) h67_000
  ·exact okH_sub (k := 0) (t := 0) (by decide) h67_001
  ·exact okH_sub (k := 0) (t := 0) (by decide) h67_002
  ·exact okH_sub (k := 0) (t := 0) (by decide) h67_003
 ·rcases four4 ht with rfl | rfl | rfl | rfl
  ·exact okH_sub (k := 0) (t := 1) (by decide) h67_010
  ·exact okH_sub (k := 0) (t := 1) (by decide) h67_011
  ·exact okH_sub (k := 0) (t := 1) (by decide) h67_012
  ·exact okH_sub (k := 0) (t := 1) (by decide) h67_013
 ·rcases four4 ht with rfl | rfl | rfl | rfl
  ·exact okH_sub (k := 0) (t := 2) (by decide) h67_020
  ·exact okH_sub (k := 0) (t := 2) (by decide) h67_021
  ·exact okH_sub (k := 0) (t := 2) (by decide) h67_022
  ·exact okH_sub (k := 0) (t := 2) (by decide) h67_023
 ·obtain rfl := one1 ht
  exact okH_sub (k := 1) (t := 0) (by decide) h67_100
 ·rcases two2 ht with rfl | rfl
  ·exact okH_sub (k := 1) (t := 1) (by decide) h67_110
  ·exact okH_sub (k := 1) (t := 1) (by decide) h67_111
 ·rcases two2 ht with rfl | rfl
  ·exact okH_sub (k := 1) (t := 2) (by decide) h67_120
  ·exact okH_sub (k := 1) (t := 2) (by decide) h67_121
theorem hH70 : ∀ c ∈ casesH 7 0, ∀ t < nTem grpsH c, headOkT (tabJ []) cxG (fun _ => none) none 400 0 bodyH 100 grpsH headsH [leaveH] (headH 7 0) c t = true := by
 intro c hc t ht
 unfold casesH at hc
 simp only [List.mem_cons, List.not_mem_nil, or_false] at hc
 rcases hc with rfl | rfl | rfl | rfl | rfl | rfl
 ·obtain rfl := one1 ht
  exact okH_sub (k := 0) (t := 0) (by decide) h70_000
 ·obtain rfl := one1 ht
  exact okH_sub (k := 0) (t := 1) (by decide) h70_010
 ·obtain rfl := one1 ht
  exact okH_sub (k := 0) (t := 2) (by decide) h70_020
 ·rcases two2 ht with rfl | rfl
  ·exact okH_sub (k := 1) (t := 0) (by decide) h70_100
  ·exact okH_sub (k := 1) (t := 0) (by decide) h70_101
 ·rcases two2 ht with rfl | rfl
  ·exact okH_sub (k := 1) (t := 1) (by decide) h70_110
  ·exact okH_sub (k := 1) (t := 1) (by decide) h70_111
 ·rcases two2 ht with rfl | rfl
  ·exact okH_sub (k := 1) (t := 2) (by decide) h70_120
  ·exact okH_sub (k := 1) (t := 2) (by decide) h70_121
theorem hH71 : ∀ c ∈ casesH 7 1, ∀ t < nTem grpsH c, headOkT (tabJ []) cxG (fun _ => none) none 400 0 bodyH 100 grpsH headsH [leaveH] (headH 7 1) c t = true := by
 intro c hc t ht
 unfold casesH at hc
 simp only [List.mem_cons, List.not_mem_nil, or_false] at hc
 rcases hc with rfl | rfl | rfl | rfl | rfl | rfl
 ·rcases four4 ht with rfl | rfl | rfl | rfl
  ·exact okH_sub (k := 0) (t := 0) (by decide) h71_000
  ·exact okH_sub (k := 0) (t := 0) (by decide) h71_001
  ·exact okH_sub (k := 0) (t := 0) (by decide) h71_002
  ·exact okH_sub (k := 0) (t := 0) (by decide) h71_003
 ·obtain rfl := one1 ht
  exact okH_sub (k := 0) (t := 1) (by decide) h71_010
 ·obtain rfl := one1 ht
  exact okH_sub (k := 0) (t := 2) (by decide) h71_020
 ·rcases two2 ht with rfl | rfl
  ·exact okH_sub (k := 1) (t := 0) (by decide) h71_100
  ·exact okH_sub (k := 1) (t := 0) (by decide) h71_101
 ·rcases two2 ht with rfl | rfl
  ·exact okH_sub (k := 1) (t := 1) (by decide) h71_110
  ·exact okH_sub (k := 1) (t := 1) (by decide) h71_111
 ·rcases two2 ht with rfl | rfl
  ·exact okH_sub (k := 1) (t := 2) (by decide) h71_120
  ·exact okH_sub (k := 1) (t := 2) (by decide) h71_121
theorem hH72 : ∀ c ∈ casesH 7 2, ∀ t < nTem grpsH c, headOkT (tabJ []) cxG (fun _ => none) none 400 0 bodyH 100 grpsH headsH [leaveH] (headH 7 2) c t = true := by
 intro c hc t ht
 unfold casesH at hc
 simp only [List.mem_cons, List.not_mem_nil, or_false] at hc
 rcases hc with rfl | rfl | rfl | rfl | rfl | rfl
 ·obtain rfl := one1 ht
  exact okH_sub (k := 0) (t := 0) (by decide) h72_000
 ·rcases four4 ht with rfl | rfl | rfl | rfl
  ·exact okH_sub (k := 0) (t := 1) (by decide) h72_010
  ·exact okH_sub (k := 0) (t := 1) (by decide) h72_011
  ·exact okH_sub (k := 0) (t := 1) (by decide) h72_012
  ·exact okH_sub (k := 0) (t := 1) (by decide) h72_013
 ·obtain rfl := one1 ht
  exact okH_sub (k := 0) (t := 2) (by decide) h72_020
 ·rcases two2 ht with rfl | rfl
  ·exact okH_sub (k := 1) (t := 0) (by decide) h72_100
  ·exact okH_sub (k := 1) (t := 0) (by decide) h72_101
 ·rcases two2 ht with rfl | rfl
  ·exact okH_sub (k := 1) (t := 1) (by decide) h72_110
  ·exact okH_sub (k := 1) (t := 1) (by decide) h72_111
 ·rcases two2 ht with rfl | rfl
  ·exact okH_sub (k := 1) (t := 2) (by decide) h72_120
  ·exact okH_sub (k := 1) (t := 2) (by decide) h72_121
theorem hH73 : ∀ c ∈ casesH 7 3, ∀ t < nTem grpsH c, headOkT (tabJ []) cxG (fun _ => none) none 400 0 bodyH 100 grpsH headsH [leaveH] (headH 7 3) c t = true := by
 intro c hc t ht
 unfold casesH at hc
 simp only [List.mem_cons, List.not_mem_nil, or_false] at hc
 rcases hc with rfl | rfl | rfl | rfl | rfl | rfl
 ·rcases four4 ht with rfl | rfl | rfl | rfl
  ·exact okH_sub (k := 0) (t := 0) (by decide) h73_000
  ·exact okH_sub (k := 0) (t := 0) (by decide) h73_001
  ·exact okH_sub (k := 0) (t := 0) (by decide) h73_002
  ·exact okH_sub (k := 0) (t := 0) (by decide) h73_003
 ·rcases four4 ht with rfl | rfl | rfl | rfl
  ·exact okH_sub (k := 0) (t := 1) (by decide) h73_010
  ·exact okH_sub (k := 0) (t := 1) (by decide) h73_011
  ·exact okH_sub (k := 0) (t := 1) (by decide) h73_012
  ·exact okH_sub (k := 0) (t := 1) (by decide) h73_013
 ·obtain rfl := one1 ht
  exact okH_sub (k := 0) (t := 2) (by decide) h73_020
 ·rcases two2 ht with rfl | rfl
  ·exact okH_sub (k := 1) (t := 0) (by decide) h73_100
  ·exact okH_sub (k := 1) (t := 0) (by decide) h73_101
 ·rcases two2 ht with rfl | rfl
  ·exact okH_sub (k := 1) (t := 1) (by decide) h73_110
  ·exact okH_sub (k := 1) (t := 1) (by decide) h73_111
 ·rcases two2 ht with rfl | rfl
  ·exact okH_sub (k := 1) (t := 2) (by decide) h73_120
  ·exact okH_sub (k := 1) (t := 2) (by decide) h73_121
theorem hH74 : ∀ c ∈ casesH 7 4, ∀ t < nTem grpsH c, headOkT (tabJ []) cxG (fun _ => none) none 400 0 bodyH 100 grpsH headsH [leaveH] (headH 7 4) c t = true := by
 intro c hc t ht
 unfold casesH at hc
 simp only [List.mem_cons, List.not_mem_nil, or_false] at hc
 rcases hc with rfl | rfl | rfl | rfl | rfl | rfl
 ·obtain rfl := one1 ht
  exact okH_sub (k := 0) (t := 0) (by decide) h74_000
 ·obtain rfl := one1 ht
  exact okH_sub (k := 0) (t := 1) (by decide) h74_010
 ·rcases four4 ht with rfl | rfl | rfl | rfl
  ·exact okH_sub (k := 0) (t := 2) (by decide) h74_020
  ·exact okH_sub (k := 0) (t := 2) (by decide) h74_021
  ·exact okH_sub (k := 0) (t := 2) (by decide) h74_022
  ·exact okH_sub (k := 0) (t := 2) (by decide) h74_023
 ·rcases two2 ht with rfl | rfl
  ·exact okH_sub (k := 1) (t := 0) (by decide) h74_100
  ·exact okH_sub (k := 1) (t := 0) (by decide) h74_101
 ·rcases two2 ht with rfl | rfl
  ·exact okH_sub (k := 1) (t := 1) (by decide) h74_110
  ·exact okH_sub (k := 1) (t := 1) (by decide) h74_111
 ·rcases two2 ht with rfl | rfl
  ·exact okH_sub (k := 1) (t := 2) (by decide) h74_120
  ·exact okH_sub (k := 1) (t := 2) (by decide) h74_121
theorem hH75 : ∀ c ∈ casesH 7 5, ∀ t < nTem grpsH c, headOkT (tabJ []) cxG (fun _ => none) none 400 0 bodyH 100 grpsH headsH [leaveH] (headH 7 5) c t = true := by
 intro c hc t ht
 unfold casesH at hc
 simp only [List.mem_cons, List.not_mem_nil, or_false] at hc
 rcases hc with rfl | rfl | rfl | rfl | rfl | rfl
 ·rcases four4 ht with rfl | rfl | rfl | rfl
  ·exact okH_sub (k := 0) (t := 0) (by decide) h75_000
  ·exact okH_sub (k := 0) (t := 0) (by decide) h75_001
  ·exact okH_sub (k := 0) (t := 0) (by decide) h75_002
  ·exact okH_sub (k := 0) (t := 0) (by decide) h75_003
 ·obtain rfl := one1 ht
  exact okH_sub (k := 0) (t := 1) (by decide) h75_010
 ·rcases four4 ht with rfl | rfl | rfl | rfl
  ·exact okH_sub (k := 0) (t := 2) (by decide) h75_020
  ·exact okH_sub (k := 0) (t := 2) (by decide) h75_021
  ·exact okH_sub (k := 0) (t := 2) (by decide) h75_022
  ·exact okH_sub (k := 0) (t := 2) (by decide) h75_023
 ·rcases two2 ht with rfl | rfl
  ·exact okH_sub (k := 1) (t := 0) (by decide) h75_100
  ·exact okH_sub (k := 1) (t := 0) (by decide) h75_101
 ·rcases two2 ht with rfl | rfl
  ·exact okH_sub (k := 1) (t := 1) (by decide) h75_110
  ·exact okH_sub (k := 1) (t := 1) (by decide) h75_111
 ·rcases two2 ht with rfl | rfl
  ·exact okH_sub (k := 1) (t := 2) (by decide) h75_120
  ·exact okH_sub (k := 1) (t := 2) (by decide) h75_121
theorem hH76 : ∀ c ∈ casesH 7 6, ∀ t < nTem grpsH c, headOkT (tabJ []) cxG (fun _ => none) none 400 0 bodyH 100 grpsH headsH [leaveH] (headH 7 6) c t = true := by
 intro c hc t ht
 unfold casesH at hc
 simp only [List.mem_cons, List.not_mem_nil, or_false] at hc
 rcases hc with rfl | rfl | rfl | rfl | rfl | rfl
 ·obtain rfl := one1 ht
  exact okH_sub (k := 0) (t := 0) (by decide) h76_000
 ·rcases four4 ht with rfl | rfl | rfl | rfl
  ·exact okH_sub (k := 0) (t := 1) (by decide) h76_010
  ·exact okH_sub (k := 0) (t := 1) (by decide) h76_011
  ·exact okH_sub (k := 0) (t := 1) (by decide) h76_012
  ·exact okH_sub (k := 0) (t := 1) (by decide) h76_013
 ·rcases four4 ht with rfl | rfl | rfl | rfl
  ·exact okH_sub (k := 0) (t := 2) (by decide) h76_020
  ·exact okH_sub (k := 0) (t := 2) (by decide) h76_021
  ·exact okH_sub (k := 0) (t := 2) (by decide) h76_022
  ·exact okH_sub (k := 0) (t := 2) (by decide) h76_023
 ·rcases two2 ht with rfl | rfl
  ·exact okH_sub (k := 1) (t := 0) (by decide) h76_100
  ·exact okH_sub (k := 1) (t := 0) (by decide) h76_101
 ·rcases two2 ht with rfl | rfl
  ·exact okH_sub (k := 1) (t := 1) (by decide) h76_110
  ·exact okH_sub (k := 1) (t := 1) (by decide) h76_111
 ·rcases two2 ht with rfl | rfl
  ·exact okH_sub (k := 1) (t := 2) (by decide) h76_120
  ·exact okH_sub (k := 1) (t := 2) (by decide) h76_121
theorem hH77 : ∀ c ∈ casesH 7 7, ∀ t < nTem grpsH c, headOkT (tabJ []) cxG (fun _ => none) none 400 0 bodyH 100 grpsH headsH [leaveH] (headH 7 7) c t = true := by
 intro c hc t ht
 unfold casesH at hc
 simp only [List.mem_cons, List.not_mem_nil, or_false] at hc
 rcases hc with rfl | rfl | rfl | rfl | rfl | rfl
 ·rcases four4 ht with rfl | rfl | rfl | rfl
  ·exact okH_sub (k := 0) (t := 0) (by decide) h77_000
  ·exact okH_sub (k := 0) (t := 0) (by decide) h77_001
  ·exact okH_sub (k := 0) (t := 0) (by decide) h77_002
  ·exact okH_sub (k := 0) (t := 0) (by decide) h77_003
 ·rcases four4 ht with rfl | rfl | rfl | rfl
  ·exact okH_sub (k := 0) (t := 1) (by decide) h77_010
  ·exact okH_sub (k := 0) (t := 1) (by decide) h77_011
  ·exact okH_sub (k := 0) (t := 1) (by decide) h77_012
  ·exact okH_sub (k := 0) (t := 1) (by decide) h77_013
 ·rcases four4 ht with rfl | rfl | rfl | rfl
  ·exact okH_sub (k := 0) (t := 2) (by decide) h77_020
  ·exact okH_sub (k := 0) (t := 2) (by decide) h77_021
  ·exact okH_sub (k := 0) (t := 2) (by decide) h77_022
  ·exact okH_sub (k := 0) (t := 2) (by decide) h77_023
 ·rcases two2 ht with rfl | rfl
  ·exact okH_sub (k := 1) (t := 0) (by decide) h77_100
  ·exact okH_sub (k := 1) (t := 0) (by decide) h77_101
 ·rcases two2 ht with rfl | rfl
  ·exact okH_sub (k := 1) (t := 1) (by decide) h77_110
  ·exact okH_sub (k := 1) (t := 1) (by decide) h77_111
 ·rcases two2 ht with rfl | rfl
  ·exact okH_sub (k := 1) (t := 2) (by decide) h77_120
  ·exact okH_sub (k := 1) (t := 2) (by decide) h77_121
theorem allHH : ∀ n, n < 64 → ∀ c ∈ casesH (n / 8) (n % 8), ∀ t < nTem grpsH c, headOkT (tabJ []) cxG (fun _ => none) none 400 0 bodyH 100 grpsH headsH [leaveH] (headH (n / 8) (n % 8)) c t = true := by
 have key : ∀ a b, a < 8 → b < 8 → ∀ c ∈ casesH a b, ∀ t < nTem grpsH c, headOkT (tabJ []) cxG (fun _ => none) none 400 0 bodyH 100 grpsH headsH [leaveH] (headH a b) c t = true := by
  intro a b ha hb
  rcases (by omega : a = 0 ∨ a = 1 ∨ a = 2 ∨ a = 3 ∨ a = 4 ∨ a = 5 ∨ a = 6 ∨ a = 7) with rfl | rfl | rfl | rfl | rfl | rfl | rfl | rfl <;> rcases (by omega : b = 0 ∨ b = 1 ∨ b = 2 ∨ b = 3 ∨ b = 4 ∨ b = 5 ∨ b = 6 ∨ b = 7) with rfl | rfl | rfl | rfl | rfl | rfl | rfl | rfl
  ·exact hH00
  ·exact hH01
  ·exact hH02
  ·exact hH03
  ·exact hH04
  ·exact hH05
  ·exact hH06
  ·exact hH07
  ·exact hH10
  ·exact hH11
  ·exact hH12
  ·exact hH13
  ·exact hH14
  ·exact hH15
  ·exact hH16
  ·exact hH17
  ·exact hH20
  ·exact hH21
  ·exact hH22
  ·exact hH23
  ·exact hH24
  ·exact hH25
  ·exact hH26
  ·exact hH27
  ·exact hH30
  ·exact hH31
  ·exact hH32
  ·exact hH33
  ·exact hH34
  ·exact hH35
  ·exact hH36
  ·exact hH37
  ·exact hH40
  ·exact hH41
  ·exact hH42
  ·exact hH43
  ·exact hH44
  ·exact hH45
  ·exact hH46
  ·exact hH47
  ·exact hH50
  ·exact hH51
  ·exact hH52
  ·exact hH53
  ·exact hH54
  ·exact hH55
  ·exact hH56
  ·exact hH57
  ·exact hH60
  ·exact hH61
  ·exact hH62
  ·exact hH63
  ·exact hH64
  ·exact hH65
  ·exact hH66
  ·exact hH67
  ·exact hH70
  ·exact hH71
  ·exact hH72
  ·exact hH73
  ·exact hH74
  ·exact hH75
  ·exact hH76
  ·exact hH77
 intro n hn
 exact key _ _ (by omega) (by omega)
noncomputable def factB (fs : List Fact) (s : Fr → X (SX × Fr)) : Fr → X (SX × Fr) := fun tm m => s tm { m with know := ⟨m.know.facts ++ fs, m.know.conds⟩ }
theorem factB_ok {c : Code} {fs : List Fact} {s : Fr → X (SX × Fr)} (hs : CodeOk G0 Try.prog c s) (hf : ∀ E : Env, E.f = G0 → ∀ f ∈ fs, FactOk E f) : CodeOk G0 Try.prog c (factB fs s) := by
 intro F w0 E tm a m w outs hgf ho hm ha
 refine hs F w0 E tm a { m with know := ⟨m.know.facts ++ fs, m.know.conds⟩ } w outs hgf ho ⟨⟨hm.know.env, fun f hm' => ?_, hm.know.conds⟩, hm.size, hm.ents, hm.apart, hm.mine, hm.ext, hm.seg0⟩ ha
 rcases List.mem_append.1 hm' with h | h
 ·exact hm.know.facts f h
 ·exact hf E hgf f h
def row0 : List Int := [0, 0, 0, 0, -1, -1, -1, 0, 0, 0, 0, 0, 0, 0, 0, 0, 0, 0, 0]
noncomputable def ghost0 : Fact := (.app 760 (argsG (row0.map IE.lit)), 1, 1)
theorem near0 : Go.EpochInv.Near row0 := by
 refine ⟨by decide, fun j hj => ?_⟩
 rcases (by omega : j = 0 ∨ j = 1 ∨ j = 2) with rfl | rfl | rfl
 ·exact ⟨⟨.inl rfl, .inl rfl, fun h => absurd rfl h, fun h => absurd h (by decide)⟩, fun i hi => by rcases (by omega : i = 0 ∨ i = 1 ∨ i = 2) with rfl | rfl | rfl <;> exact .inl rfl⟩
 ·exact ⟨⟨.inl rfl, .inl rfl, fun h => absurd rfl h, fun h => absurd h (by decide)⟩, fun i hi => by rcases (by omega : i = 0 ∨ i = 1 ∨ i = 2) with rfl | rfl | rfl <;> exact .inl rfl⟩
 ·exact ⟨⟨.inl rfl, .inl rfl, fun h => absurd rfl h, fun h => absurd h (by decide)⟩, fun i hi => by rcases (by omega : i = 0 ∨ i = 1 ∨ i = 2) with rfl | rfl | rfl <;> exact .inl rfl⟩
theorem ghost0_ok (E : Env) (hgf : E.f = G0) : FactOk E ghost0 := by
 have h : ev E (.app 760 (argsG (row0.map IE.lit))) = 1 := by
  rw [ev_app, argsG_ev, hgf, List.map_map]
  have e : row0.map (ev E ∘ IE.lit) = row0 := rfl
  rw [e]
  exact f760_of near0
 unfold FactOk ghost0
 dsimp only
 omega
noncomputable def loopH3 : Fr → X (SX × Fr) := loopT 100 grpsH headsH [leaveH]
theorem loopH3_ok : CodeOk G0 Try.prog (.block 0 (.loop bodyH)) loopH3 := loopT_ok (T := tabJ []) (cx := cxG) cxG_ok (jm := none) (fuel := 400) (noBlocks_ok _ _) (fun h hh => by
 obtain ⟨n, hn, rfl⟩ := List.mem_map.1 hh
 exact ⟨casesH (n / 8) (n % 8), fun E _ _ _ => coverH _ _, allHH n (List.mem_range.1 hn)⟩)
noncomputable def loopH4 : Fr → X (SX × Fr) := zeroB 29 (zeroB 30 (zeroB 31 (zeroB 32 (liftB 100 (factB [ghost0] loopH3)))))
theorem loopH4_ok : LxOk G0 Try.prog (4, 0, loopH4) := lx_ok Try.func4 (c := bodyOf Try.f4) rfl (b := bodyH) (by kernel_rfl) (zeroB_ok (zeroB_ok (zeroB_ok (zeroB_ok (liftB_ok (factB_ok loopH3_ok fun E hgf f hf => by
 rcases List.mem_singleton.1 hf with rfl
 exact ghost0_ok E hgf))))))
noncomputable def bxH (b : Bool) : List LX := cond b [(4, 0, loopH4)] []
noncomputable def funH (b : Bool) : List SV → X SV := callF (tabJ []) (spOf spG) (bxOf (bxH b)) 400 12 4
theorem funH_ok (b : Bool) : SpecOk G0 Try.prog 4 (funH b) := callF_ok (spOf_ok okSpG) (bxOf_ok (by
 intro y hy
 cases b with
 | false => cases hy
 | true =>
  rcases List.mem_singleton.1 hy with rfl
  exact loopH4_ok)) 400 12 4
theorem rhn : allOf (funH false [.nils] (slMem [] [] 60)) isTrue = true := by kernel_rfl
theorem rhs : allOf (funH true [slW 10] (slMem [enW 10] (faW 10) 60)) isTrue = true := by kernel_rfl
end Go.Proofs.Ytjbhcmppjmmmiaa
