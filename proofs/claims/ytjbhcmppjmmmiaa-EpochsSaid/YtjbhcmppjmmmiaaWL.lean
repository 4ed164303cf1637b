/- Epochs: its loop by the rounds. -/
import Derived.Test.YtjbhcmppjmmmiaaWa
import Derived.Test.YtjbhcmppjmmmiaaWb
import Derived.Test.YtjbhcmppjmmmiaaWc
import Derived.Test.YtjbhcmppjmmmiaaWd
import Derived.Test.YtjbhcmppjmmmiaaWe
import Derived.Test.YtjbhcmppjmmmiaaWf
import Derived.Test.YtjbhcmppjmmmiaaWg
import Derived.Test.YtjbhcmppjmmmiaaWh
namespace Go.Proofs.Ytjbhcmppjmmmiaa
open Go.Sx Go
set_option maxRecDepth 100000
noncomputable def headsE : List HeadT := (List.range 16).map (headE true) ++ (List.range 16).map (headE false)
theorem memE (d : Bool) {m : Nat} (h : m < 16) : headE d m ∈ headsE := by
 cases d with
 | true => exact List.mem_append_left _ (List.mem_map.2 ⟨m, List.mem_range.2 h, rfl⟩)
 | false => exact List.mem_append_right _ (List.mem_map.2 ⟨m, List.mem_range.2 h, rfl⟩)
theorem okE_sub {d : Bool} {m k t j : Nat} (hn : nextE m k t < 16) (h : okE d m k t j = true) : headOkT (tabJ []) cxF (fun _ => none) none 400 0 bodyE 100 grpsE headsE [leaveE] (headE d m) (caseE d m k t) j = true :=
 headOkT_sub (fun x hx => by
  rcases List.mem_singleton.1 hx with rfl
  exact memE d hn) h
noncomputable def casesE (d : Bool) (m : Nat) : List CaseT := [caseE d m 0 0, caseE d m 1 0, caseE d m 1 1, caseE d m 1 2, caseE d m 1 3, caseE d m 2 0, caseE d m 2 1, caseE d m 2 2, caseE d m 2 3]
theorem coverE {E : Env} (d : Bool) (m : Nat) : ∃ c ∈ casesE d m, (∀ f ∈ c.fs, FactOk E f) ∧ ∀ b ∈ c.bs, evB E b = true := by
 have hk : 0 ≤ ev E kind ∧ ev E kind ≤ 3 := by
  unfold kind
  rw [ev_bit, ev_lit]
  exact and_in .i64 _ 3 (by decide) (by decide)
 have hw : 0 ≤ ev E whoE ∧ ev E whoE ≤ 3 := by
  unfold whoE
  rw [ev_bit, ev_lit]
  exact and_in .i64 _ 3 (by decide) (by decide)
 have two : ∀ {lo hi k : Int}, lo ≤ ev E kind → ev E kind ≤ hi → ev E whoE = k → ∀ f ∈ [((kind, lo, hi) : Fact), (whoE, k, k)], FactOk E f := fun h1 h2 h3 f hf => by
  simp only [List.mem_cons, List.not_mem_nil, or_false] at hf
  rcases hf with rfl | rfl
  ·exact ⟨h1, h2⟩
  ·unfold FactOk
   dsimp only
   omega
 have nob : ∀ b ∈ ([] : List BE), evB E b = true := fun _ h => (by cases h)
 rcases (by omega : ev E kind = 0 ∨ ev E kind = 1 ∨ 2 ≤ ev E kind) with h | h | h
 ·refine ⟨_, List.mem_of_getElem? (i := 0) rfl, fun f hf => ?_, nob⟩
  rcases List.mem_singleton.1 hf with rfl
  unfold FactOk
  dsimp only
  omega
 ·rcases (by omega : ev E whoE = 0 ∨ ev E whoE = 1 ∨ ev E whoE = 2 ∨ ev E whoE = 3) with g | g | g | g
  ·exact ⟨_, List.mem_of_getElem? (i := 1) rfl, two (by omega) (by omega) g, nob⟩
  ·exact ⟨_, List.mem_of_getElem? (i := 2) rfl, two (by omega) (by omega) g, nob⟩
  ·exact ⟨_, List.mem_of_getElem? (i := 3) rfl, two (by omega) (by omega) g, nob⟩
  ·exact ⟨_, List.mem_of_getElem? (i := 4) rfl, two (by omega) (by omega) g, nob⟩
 ·rcases (by omega : ev E whoE = 0 ∨ ev E whoE = 1 ∨ ev E whoE = 2 ∨ ev E whoE = 3) with g | g | g | g
  ·exact ⟨_, List.mem_of_getElem? (i := 5) rfl, two h hk.2 g, nob⟩
  ·exact ⟨_, List.mem_of_getElem? (i := 6) rfl, two h hk.2 g, nob⟩
  ·exact ⟨_, List.mem_of_getElem? (i := 7) rfl, two h hk.2 g, nob⟩
  ·exact ⟨_, List.mem_of_getElem? (i := 8) rfl, two h hk.2 g, nob⟩
theorem three {n : Nat} (h : n < Nat.max 1 3) : n = 0 ∨ n = 1 ∨ n = 2 := by
 have : n < 3 := h
 omega
theorem six {n : Nat} (h : n < Nat.max 1 6) : n = 0 ∨ n = 1 ∨ n = 2 ∨ n = 3 ∨ n = 4 ∨ n = 5 := by
 have : n < 6 := h
 omega
theorem one {n : Nat} (h : n < 1) : n = 0 := by omega
theorem hE1_0 : ∀ c ∈ casesE true 0, ∀ t < nTem grpsE c, headOkT (tabJ []) cxF (fun _ => none) none 400 0 bodyE 100 grpsE headsE [leaveE] (headE true 0) c t = true := by
 intro c hc t ht
 unfold casesE at hc
 simp only [List.mem_cons, List.not_mem_nil, or_false] at hc
 rcases hc with rfl | rfl | rfl | rfl | rfl | rfl | rfl | rfl | rfl
 ·rcases six ht with rfl | rfl | rfl | rfl | rfl | rfl
  ·exact okE_sub (d := true) (m := 0) (k := 0) (t := 0) (by decide) e1_0_000
  ·exact okE_sub (d := true) (m := 0) (k := 0) (t := 0) (by decide) e1_0_001
  ·exact okE_sub (d := true) (m := 0) (k := 0) (t := 0) (by decide) e1_0_002
  ·exact okE_sub (d := true) (m := 0) (k := 0) (t := 0) (by decide) e1_0_003
  ·exact okE_sub (d := true) (m := 0) (k := 0) (t := 0) (by decide) e1_0_004
  ·exact okE_sub (d := true) (m := 0) (k := 0) (t := 0) (by decide) e1_0_005
 ·obtain rfl := one ht
  exact okE_sub (d := true) (m := 0) (k := 1) (t := 0) (by decide) e1_0_100
 ·obtain rfl := one ht
  exact okE_sub (d := true) (m := 0) (k := 1) (t := 1) (by decide) e1_0_110
 ·obtain rfl := one ht
  exact okE_sub (d := true) (m := 0) (k := 1) (t := 2) (by decide) e1_0_120
 ·obtain rfl := one ht
  exact okE_sub (d := true) (m := 0) (k := 1) (t := 3) (by decide) e1_0_130
 ·obtain rfl := one ht
  exact okE_sub (d := true) (m := 0) (k := 2) (t := 0) (by decide) e1_0_200
 ·obtain rfl := one ht
  exact okE_sub (d := true) (m := 0) (k := 2) (t := 1) (by decide) e1_0_210
 ·obtain rfl := one ht
  exact okE_sub (d := true) (m := 0) (k := 2) (t := 2) (by decide) e1_0_220
 ·obtain rfl := one ht
  exact okE_sub (d := true) (m := 0) (k := 2) (t := 3) (by decide) e1_0_230
theorem hE1_1 : ∀ c ∈ casesE true 1, ∀ t < nTem grpsE c, headOkT (tabJ []) cxF (fun _ => none) none 400 0 bodyE 100 grpsE headsE [leaveE] (headE true 1) c t = true := by
 intro c hc t ht
 unfold casesE at hc
 simp only [List.mem_cons, List.not_mem_nil, or_false] at hc
 rcases hc with rfl | rfl | rfl | rfl | rfl | rfl | rfl | rfl | rfl
 ·rcases six ht with rfl | rfl | rfl | rfl | rfl | rfl
  ·exact okE_sub (d := true) (m := 1) (k := 0) (t := 0) (by decide) e1_1_000
  ·exact okE_sub (d := true) (m := 1) (k := 0) (t := 0) (by decide) e1_1_001
  ·exact okE_sub (d := true) (m := 1) (k := 0) (t := 0) (by decide) e1_1_002
  ·exact okE_sub (d := true) (m := 1) (k := 0) (t := 0) (by decide) e1_1_003
  ·exact okE_sub (d := true) (m := 1) (k := 0) (t := 0) (by decide) e1_1_004
  ·exact okE_sub (d := true) (m := 1) (k := 0) (t := 0) (by decide) e1_1_005
 ·obtain rfl := one ht
  exact okE_sub (d := true) (m := 1) (k := 1) (t := 0) (by decide) e1_1_100
 ·obtain rfl := one ht
  exact okE_sub (d := true) (m := 1) (k := 1) (t := 1) (by decide) e1_1_110
 ·obtain rfl := one ht
  exact okE_sub (d := true) (m := 1) (k := 1) (t := 2) (by decide) e1_1_120
 ·obtain rfl := one ht
  exact okE_sub (d := true) (m := 1) (k := 1) (t := 3) (by decide) e1_1_130
 ·rcases three ht with rfl | rfl | rfl
  ·exact okE_sub (d := true) (m := 1) (k := 2) (t := 0) (by decide) e1_1_200
  ·exact okE_sub (d := true) (m := 1) (k := 2) (t := 0) (by decide) e1_1_201
  ·exact okE_sub (d := true) (m := 1) (k := 2) (t := 0) (by decide) e1_1_202
 ·obtain rfl := one ht
  exact okE_sub (d := true) (m := 1) (k := 2) (t := 1) (by decide) e1_1_210
 ·obtain rfl := one ht
  exact okE_sub (d := true) (m := 1) (k := 2) (t := 2) (by decide) e1_1_220
 ·obtain rfl := one ht
  exact okE_sub (d := true) (m := 1) (k := 2) (t := 3) (by decide) e1_1_230
theorem hE1_2 : ∀ c ∈ casesE true 2, ∀ t < nTem grpsE c, headOkT (tabJ []) cxF (fun _ => none) none 400 0 bodyE 100 grpsE headsE [leaveE] (headE true 2) c t = true := by
 intro c hc t ht
 unfold casesE at hc
 simp only [List.mem_cons, List.not_mem_nil, or_false] at hc
 rcases hc with rfl | rfl | rfl | rfl | rfl | rfl | rfl | rfl | rfl
 ·rcases six ht with rfl | rfl | rfl | rfl | rfl | rfl
  ·exact okE_sub (d := true) (m := 2) (k := 0) (t := 0) (by decide) e1_2_000
  ·exact okE_sub (d := true) (m := 2) (k := 0) (t := 0) (by decide) e1_2_001
  ·exact okE_sub (d := true) (m := 2) (k := 0) (t := 0) (by decide) e1_2_002
  ·exact okE_sub (d := true) (m := 2) (k := 0) (t := 0) (by decide) e1_2_003
  ·exact okE_sub (d := true) (m := 2) (k := 0) (t := 0) (by decide) e1_2_004
  ·exact okE_sub (d := true) (m := 2) (k := 0) (t := 0) (by decide) e1_2_005
 ·obtain rfl := one ht
  exact okE_sub (d := true) (m := 2) (k := 1) (t := 0) (by decide) e1_2_100
 ·obtain rfl := one ht
  exact okE_sub (d := true) (m := 2) (k := 1) (t := 1) (by decide) e1_2_110
 ·obtain rfl := one ht
  exact okE_sub (d := true) (m := 2) (k := 1) (t := 2) (by decide) e1_2_120
 ·obtain rfl := one ht
  exact okE_sub (d := true) (m := 2) (k := 1) (t := 3) (by decide) e1_2_130
 ·obtain rfl := one ht
  exact okE_sub (d := true) (m := 2) (k := 2) (t := 0) (by decide) e1_2_200
 ·rcases three ht with rfl | rfl | rfl
  ·exact okE_sub (d := true) (m := 2) (k := 2) (t := 1) (by decide) e1_2_210
  ·exact okE_sub (d := true) (m := 2) (k := 2) (t := 1) (by decide) e1_2_211
  ·exact okE_sub (d := true) (m := 2) (k := 2) (t := 1) (by decide) e1_2_212
 ·obtain rfl := one ht
  exact okE_sub (d := true) (m := 2) (k := 2) (t := 2) (by decide) e1_2_220
 ·obtain rfl := one ht
  exact okE_sub (d := true) (m := 2) (k := 2) (t := 3) (by decide) e1_2_230
theorem hE1_3 : ∀ c ∈ casesE true 3, ∀ t < nTem grpsE c, headOkT (tabJ []) cxF (fun _ => none) none 400 0 bodyE 100 grpsE headsE [leaveE] (headE true 3) c t = true := by
 intro c hc t ht
 unfold casesE at hc
 simp only [List.mem_cons, List.not_mem_nil, or_false] at hc
 rcases hc with rfl | rfl | rfl | rfl | rfl | rfl | rfl | rfl | rfl
 ·rcases six ht with rfl | rfl | rfl | rfl | rfl | rfl
  ·exact okE_sub (d := true) (m := 3) (k := 0) (t := 0) (by decide) e1_3_000
  ·exact okE_sub (d := true) (m := 3) (k := 0) (t := 0) (by decide) e1_3_001
  ·exact okE_sub (d := true) (m := 3) (k := 0) (t := 0) (by decide) e1_3_002
  ·exact okE_sub (d := true) (m := 3) (k := 0) (t := 0) (by decide) e1_3_003
  ·exact okE_sub (d := true) (m := 3) (k := 0) (t := 0) (by decide) e1_3_004
  ·exact okE_sub (d := true) (m := 3) (k := 0) (t := 0) (by decide) e1_3_005
 ·obtain rfl := one ht
  exact okE_sub (d := true) (m := 3) (k := 1) (t := 0) (by decide) e1_3_100
 ·obtain rfl := one ht
  exact okE_sub (d := true) (m := 3) (k := 1) (t := 1) (by decide) e1_3_110
 ·obtain rfl := one ht
  exact okE_sub (d := true) (m := 3) (k := 1) (t := 2) (by decide) e1_3_120
 ·obtain rfl := one ht
  exact okE_sub (d := true) (m := 3) (k := 1) (t := 3) (by decide) e1_3_130
 ·rcases three ht with rfl | rfl | rfl
  ·exact okE_sub (d := true) (m := 3) (k := 2) (t := 0) (by decide) e1_3_200
  ·exact okE_sub (d := true) (m := 3) (k := 2) (t := 0) (by decide) e1_3_201
  ·exact okE_sub (d := true) (m := 3) (k := 2) (t := 0) (by decide) e1_3_202
 ·rcases three ht with rfl | rfl | rfl
  ·exact okE_sub (d := true) (m := 3) (k := 2) (t := 1) (by decide) e1_3_210
  ·exact okE_sub (d := true) (m := 3) (k := 2) (t := 1) (by decide) e1_3_211
  ·exact okE_sub (d := true) (m := 3) (k := 2) (t := 1) (by decide) e1_3_212
 ·obtain rfl := one ht
  exact okE_sub (d := true) (m := 3) (k := 2) (t := 2) (by decide) e1_3_220
 ·obtain rfl := one ht
  exact okE_sub (d := true) (m := 3) (k := 2) (t := 3) (by decide) e1_3_230
theorem hE1_4 : ∀ c ∈ casesE true 4, ∀ t < nTem grpsE c, headOkT (tabJ []) cxF (fun _ => none) none 400 0 bodyE 100 grpsE headsE [leaveE] (headE true 4) c t = true := by
 intro c hc t ht
 unfold casesE at hc
 simp only [List.mem_cons, List.not_mem_nil, or_false] at hc
 rcases hc with rfl | rfl | rfl | rfl | rfl | rfl | rfl | rfl | rfl
 ·rcases six ht with rfl | rfl | rfl | rfl | rfl | rfl
  ·exact okE_sub (d := true) (m := 4) (k := 0) (t := 0) (by decide) e1_4_000
  ·exact okE_sub (d := true) (m := 4) (k := 0) (t := 0) (by decide) e1_4_001
  ·exact okE_sub (d := true) (m := 4) (k := 0) (t := 0) (by decide) e1_4_002
  ·exact okE_sub (d := true) (m := 4) (k := 0) (t := 0) (by decide) e1_4_003
  ·exact okE_sub (d := true) (m := 4) (k := 0) (t := 0) (by decide) e1_4_004
  ·exact okE_sub (d := true) (m := 4) (k := 0) (t := 0) (by decide) e1_4_005
 ·obtain rfl := one ht
  exact okE_sub (d := true) (m := 4) (k := 1) (t := 0) (by decide) e1_4_100
 ·obtain rfl := one ht
  exact okE_sub (d := true) (m := 4) (k := 1) (t := 1) (by decide) e1_4_110
 ·obtain rfl := one ht
  exact okE_sub (d := true) (m := 4) (k := 1) (t := 2) (by decide) e1_4_120
 ·obtain rfl := one ht
  exact okE_sub (d := true) (m := 4) (k := 1) (t := 3) (by decide) e1_4_130
 ·obtain rfl := one ht
  exact okE_sub (d := true) (m := 4) (k := 2) (t := 0) (by decide) e1_4_200
 ·obtain rfl := one ht
  exact okE_sub (d := true) (m := 4) (k := 2) (t := 1) (by decide) e1_4_210
 ·rcases three ht with rfl | rfl | rfl
  ·exact okE_sub (d := true) (m := 4) (k := 2) (t := 2) (by decide) e1_4_220
  ·exact okE_sub (d := true) (m := 4) (k := 2) (t := 2) (by decide) e1_4_221
  ·exact okE_sub (d := true) (m := 4) (k := 2) (t := 2) (by decide) e1_4_222
 ·obtain rfl := one ht
  exact okE_sub (d := true) (m := 4) (k := 2) (t := 3) (by decide) e1_4_230
theorem hE1_5 : ∀ c ∈ casesE true 5, ∀ t < nTem grpsE c, headOkT (tabJ []) cxF (fun _ => none) none 400 0 bodyE 100 grpsE headsE [leaveE] (headE true 5) c t = true := by
 intro c hc t ht
 unfold casesE at hc
 simp only [List.mem_cons, List.not_mem_nil, or_false] at hc
 rcases hc with rfl | rfl | rfl | rfl | rfl | rfl | rfl | rfl | rfl
 ·rcases six ht with rfl | rfl | rfl | rfl | rfl | rfl
  ·exact okE_sub (d := true) (m := 5) (k := 0) (t := 0) (by decide) e1_5_000
  ·exact okE_sub (d := true) (m := 5) (k := 0) (t := 0) (by decide) e1_5_001
  ·exact okE_sub (d := true) (m := 5) (k := 0) (t := 0) (by decide) e1_5_002
  ·exact okE_sub (d := true) (m := 5) (k := 0) (t := 0) (by decide) e1_5_003
  ·exact okE_sub (d := true) (m := 5) (k := 0) (t := 0) (by decide) e1_5_004
  ·exact okE_sub (d := true) (m := 5) (k := 0) (t := 0) (by decide) e1_5_005
 ·obtain rfl := one ht
  exact okE_sub (d := true) (m := 5) (k := 1) (t := 0) (by decide) e1_5_100
 ·obtain rfl := one ht
  exact okE_sub (d := true) (m := 5) (k := 1) (t := 1) (by decide) e1_5_110
 ·obtain rfl := one ht
  exact okE_sub (d := true) (m := 5) (k := 1) (t := 2) (by decide) e1_5_120
 ·obtain rfl := one ht
  exact okE_sub (d := true) (m := 5) (k := 1) (t := 3) (by decide) e1_5_130
 ·rcases three ht with rfl | rfl | rfl
  ·exact okE_sub (d := true) (m := 5) (k := 2) (t := 0) (by decide) e1_5_200
  ·exact okE_sub (d := true) (m := 5) (k := 2) (t := 0) (by decide) e1_5_201
  ·exact okE_sub (d := true) (m := 5) (k := 2) (t := 0) (by decide) e1_5_202
 ·obtain rfl := one ht
  exact okE_sub (d := true) (m := 5) (k := 2) (t := 1) (by decide) e1_5_210
 ·rcases three ht with rfl | rfl | rfl
  ·exact okE_sub (d := true) (m := 5) (k := 2) (t := 2) (by decide) e1_5_220
  ·exact okE_sub (d := true) (m := 5) (k := 2) (t := 2) (by decide) e1_5_221
  ·exact okE_sub (d := true) (m := 5) (k := 2) (t := 2) (by decide) e1_5_222
 ·obtain rfl := one ht
  exact okE_sub (d := true) (m := 5) (k := 2) (t := 3) (by decide) e1_5_230
theorem hE1_6 : ∀ c ∈ casesE true 6, ∀ t < nTem grpsE c, headOkT (tabJ []) cxF (fun _ => none) none 400 0 bodyE 100 grpsE headsE [leaveE] (headE true 6) c t = true := by
 intro c hc t ht
 unfold casesE at hc
 simp only [List.mem_cons, List.not_mem_nil, or_false] at hc
 rcases hc with rfl | rfl | rfl | rfl | rfl | rfl | rfl | rfl | rfl
 ·rcases six ht with rfl | rfl | rfl | rfl | rfl | rfl
  ·exact okE_sub (d := true) (m := 6) (k := 0) (t := 0) (by decide) e1_6_000
  ·exact okE_sub (d := true) (m := 6) (k := 0) (t := 0) (by decide) e1_6_001
  ·exact okE_sub (d := true) (m := 6) (k := 0) (t := 0) (by decide) e1_6_002
  ·exact okE_sub (d := true) (m := 6) (k := 0) (t := 0) (by decide) e1_6_003
  ·exact okE_sub (d := true) (m := 6) (k := 0) (t := 0) (by decide) e1_6_004
  ·exact okE_sub (d := true) (m := 6) (k := 0) (t := 0) (by decide) e1_6_005
 ·obtain rfl := one ht
  exact okE_sub (d := true) (m := 6) (k := 1) (t := 0) (by decide) e1_6_100
 ·obtain rfl := one ht
  exact okE_sub (d := true) (m := 6) (k := 1) (t := 1) (by decide) e1_6_110
 ·obtain rfl := one ht
  exact okE_sub (d := true) (m := 6) (k := 1) (t := 2) (by decide) e1_6_120
 ·obtain rfl := one ht
  exact okE_sub (d := true) (m := 6) (k := 1) (t := 3) (by decide) e1_6_130
 ·obtain rfl := one ht
  exact okE_sub (d := true) (m := 6) (k := 2) (t := 0) (by decide) e1_6_200
 ·rcases three ht with rfl | rfl | rfl
  ·exact okE_sub (d := true) (m := 6) (k := 2) (t := 1) (by decide) e1_6_210
  ·exact okE_sub (d := true) (m := 6) (k := 2) (t := 1) (by decide) e1_6_211
  ·exact okE_sub (d := true) (m := 6) (k := 2) (t := 1) (by decide) e1_6_212
 ·rcases three ht with rfl | rfl | rfl
  ·exact okE_sub (d := true) (m := 6) (k := 2) (t := 2) (by decide) e1_6_220
  ·exact okE_sub (d := true) (m := 6) (k := 2) (t := 2) (by decide) e1_6_221
  ·exact okE_sub (d := true) (m := 6) (k := 2) (t := 2) (by decide) e1_6_222
 ·obtain rfl := one ht
  exact okE_sub (d := true) (m := 6) (k := 2) (t := 3) (by decide) e1_6_230
theorem hE1_7 : ∀ c ∈ casesE true 7, ∀ t < nTem grpsE c, headOkT (tabJ []) cxF (fun _ => none) none 400 0 bodyE 100 grpsE headsE [leaveE] (headE true 7) c t = true := by
 intro c hc t ht
 unfold casesE at hc
 simp only [List.mem_cons, List.not_mem_nil, or_false] at hc
 rcases hc with rfl | rfl | rfl | rfl | rfl | rfl | rfl | rfl | rfl
 ·rcases six ht with rfl | rfl | rfl | rfl | rfl | rfl
  ·exact okE_sub (d := true) (m := 7) (k := 0) (t := 0) (by decide) e1_7_000
  ·exact okE_sub (d := true) (m := 7) (k := 0) (t := 0) (by decide) e1_7_001
  ·exact okE_sub (d := true) (m := 7) (k := 0) (t := 0) (by decide) e1_7_002
  ·exact okE_sub (d := true) (m := 7) (k := 0) (t := 0) (by decide) e1_7_003
  ·exact okE_sub (d := true) (m := 7) (k := 0) (t := 0) (by decide) e1_7_004
  ·exact okE_sub (d := true) (m := 7) (k := 0) (t := 0) (by decide) e1_7_005
 ·obtain rfl := one ht
  exact okE_sub (d := true) (m := 7) (k := 1) (t := 0) (by decide) e1_7_100
 ·obtain rfl := one ht
  exact okE_sub (d := true) (m := 7) (k := 1) (t := 1) (by decide) e1_7_110
 ·obtain rfl := one ht
  exact okE_sub (d := true) (m := 7) (k := 1) (t := 2) (by decide) e1_7_120
 ·obtain rfl := one ht
  exact okE_sub (d := true) (m := 7) (k := 1) (t := 3) (by decide) e1_7_130
 ·rcases three ht with rfl | rfl | rfl
  ·exact okE_sub (d := true) (m := 7) (k := 2) (t := 0) (by decide) e1_7_200
  ·exact okE_sub (d := true) (m := 7) (k := 2) (t := 0) (by decide) e1_7_201
  ·exact okE_sub (d := true) (m := 7) (k := 2) (t := 0) (by decide) e1_7_202
 ·rcases three ht with rfl | rfl | rfl
  ·exact okE_sub (d := true) (m := 7) (k := 2) (t := 1) (by decide) e1_7_210
  ·exact okE_sub (d := true) (m := 7) (k := 2) (t := 1) (by decide) e1_7_211
  ·exact okE_sub (d := true) (m := 7) (k := 2) (t := 1) (by decide) e1_7_212
 ·rcases three ht with rfl | rfl | rfl
  ·exact okE_sub (d := true) (m := 7) (k := 2) (t := 2) (by decide) e1_7_220
  ·exact okE_sub (d := true) (m := 7) (k := 2) (t := 2) (by decide) e1_7_221
  ·exact okE_sub (d := true) (m := 7) (k := 2) (t := 2) (by decide) e1_7_222
 ·obtain rfl := one ht
  exact okE_sub (d := true) (m := 7) (k := 2) (t := 3) (by decide) e1_7_230
theorem hE1_8 : ∀ c ∈ casesE true 8, ∀ t < nTem grpsE c, headOkT (tabJ []) cxF (fun _ => none) none 400 0 bodyE 100 grpsE headsE [leaveE] (headE true 8) c t = true := by
 intro c hc t ht
 unfold casesE at hc
 simp only [List.mem_cons, List.not_mem_nil, or_false] at hc
 rcases hc with rfl | rfl | rfl | rfl | rfl | rfl | rfl | rfl | rfl
 ·rcases six ht with rfl | rfl | rfl | rfl | rfl | rfl
  ·exact okE_sub (d := true) (m := 8) (k := 0) (t := 0) (by decide) e1_8_000
  ·exact okE_sub (d := true) (m := 8) (k := 0) (t := 0) (by decide) e1_8_001
  ·exact okE_sub (d := true) (m := 8) (k := 0) (t := 0) (by decide) e1_8_002
  ·exact okE_sub (d := true) (m := 8) (k := 0) (t := 0) (by decide) e1_8_003
  ·exact okE_sub (d := true) (m := 8) (k := 0) (t := 0) (by decide) e1_8_004
  ·exact okE_sub (d := true) (m := 8) (k := 0) (t := 0) (by decide) e1_8_005
 ·obtain rfl := one ht
  exact okE_sub (d := true) (m := 8) (k := 1) (t := 0) (by decide) e1_8_100
 ·obtain rfl := one ht
  exact okE_sub (d := true) (m := 8) (k := 1) (t := 1) (by decide) e1_8_110
 ·obtain rfl := one ht
  exact okE_sub (d := true) (m := 8) (k := 1) (t := 2) (by decide) e1_8_120
 ·obtain rfl := one ht
  exact okE_sub (d := true) (m := 8) (k := 1) (t := 3) (by decide) e1_8_130
 ·obtain rfl := one ht
  exact okE_sub (d := true) (m := 8) (k := 2) (t := 0) (by decide) e1_8_200
 ·obtain rfl := one ht
  exact okE_sub (d := true) (m := 8) (k := 2) (t := 1) (by decide) e1_8_210
 ·obtain rfl := one ht
  exact okE_sub (d := true) (m := 8) (k := 2) (t := 2) (by decide) e1_8_220
 ·rcases three ht with rfl | rfl | rfl
  ·exact okE_sub (d := true) (m := 8) (k := 2) (t := 3) (by decide) e1_8_230
  ·exact okE_sub (d := true) (m := 8) (k := 2) (t := 3) (by decide) e1_8_231
  ·exact okE_sub (d := true) (m := 8) (k := 2) (t := 3) (by decide) e1_8_232
theorem hE1_9 : ∀ c ∈ casesE true 9, ∀ t < nTem grpsE c, headOkT (tabJ []) cxF (fun _ => none) none 400 0 bodyE 100 grpsE headsE [leaveE] (headE true 9) c t = true := by
 intro c hc t ht
 unfold casesE at hc
 simp only [List.mem_cons, List.not_mem_nil, or_false] at hc
 rcases hc with rfl | rfl | rfl | rfl | rfl | rfl | rfl | rfl | rfl
 ·rcases six ht with rfl | rfl | rfl | rfl | rfl | rfl
  ·exact okE_sub (d := true) (m := 9) (k := 0) (t := 0) (by decide) e1_9_000
  ·exact okE_sub (d := true) (m := 9) (k := 0) (t := 0) (by decide) e1_9_001
  ·exact okE_sub (d := true) (m := 9) (k := 0) (t := 0) (by decide) e1_9_002
  ·exact okE_sub (d := true) (m := 9) (k := 0) (t := 0) (by decide) e1_9_003
  ·exact okE_sub (d := true) (m := 9) (k := 0) (t := 0) (by decide) e1_9_004
  ·exact okE_sub (d := true) (m := 9) (k := 0) (t := 0) (by decide) e1_9_005
 ·obtain rfl := one ht
  exact okE_sub (d := true) (m := 9) (k := 1) (t := 0) (by decide) e1_9_100
 ·obtain rfl := one ht
  exact okE_sub (d := true) (m := 9) (k := 1) (t := 1) (by decide) e1_9_110
 ·obtain rfl := one ht
  exact okE_sub (d := true) (m := 9) (k := 1) (t := 2) (by decide) e1_9_120
 ·obtain rfl := one ht
  exact okE_sub (d := true) (m := 9) (k := 1) (t := 3) (by decide) e1_9_130
 ·rcases three ht with rfl | rfl | rfl
  ·exact okE_sub (d := true) (m := 9) (k := 2) (t := 0) (by decide) e1_9_200
  ·exact okE_sub (d := true) (m := 9) (k := 2) (t := 0) (by decide) e1_9_201
  ·exact okE_sub (d := true) (m := 9) (k := 2) (t := 0) (by decide) e1_9_202
 ·obtain rfl := one ht
  exact okE_sub (d := true) (m := 9) (k := 2) (t := 1) (by decide) e1_9_210
 ·obtain rfl := one ht
  exact okE_sub (d := true) (m := 9) (k := 2) (t := 2) (by decide) e1_9_220
 ·rcases three ht with rfl | rfl | rfl
  ·exact okE_sub (d := true) (m := 9) (k := 2) (t := 3) (by decide) e1_9_230
  ·exact okE_sub (d := true) (m := 9) (k := 2) (t := 3) (by decide) e1_9_231
  ·exact okE_sub (d := true) (m := 9) (k := 2) (t := 3) (by decide) e1_9_232
theorem hE1_10 : ∀ c ∈ casesE true 10, ∀ t < nTem grpsE c, headOkT (tabJ []) cxF (fun _ => none) none 400 0 bodyE 100 grpsE headsE [leaveE] (headE true 10) c t = true := by
 intro c hc t ht
 unfold casesE at hc
 simp only [List.mem_cons, List.not_mem_nil, or_false] at hc
 rcases hc with rfl | rfl | rfl | rfl | rfl | rfl | rfl | rfl | rfl
 ·rcases six ht with rfl | rfl | rfl | rfl | rfl | rfl
  ·exact okE_sub (d := true) (m := 10) (k := 0) (t := 0) (by decide) e1_10_000
  ·exact okE_sub (d := true) (m := 10) (k := 0) (t := 0) (by decide) e1_10_001
  ·exact okE_sub (d := true) (m := 10) (k := 0) (t := 0) (by decide) e1_10_002
  ·exact okE_sub (d := true) (m := 10) (k := 0) (t := 0) (by decide) e1_10_003
  ·exact okE_sub (d := true) (m := 10) (k := 0) (t := 0) (by decide) e1_10_004
  ·exact okE_sub (d := true) (m := 10) (k := 0) (t := 0) (by decide) e1_10_005
 ·obtain rfl := one ht
  exact okE_sub (d := true) (m := 10) (k := 1) (t := 0) (by decide) e1_10_100
 ·obtain rfl := one ht
  exact okE_sub (d := true) (m := 10) (k := 1) (t := 1) (by decide) e1_10_110
 ·obtain rfl := one ht
  exact okE_sub (d := true) (m := 10) (k := 1) (t := 2) (by decide) e1_10_120
 ·obtain rfl := one ht
  exact okE_sub (d := true) (m := 10) (k := 1) (t := 3) (by decide) e1_10_130
 ·obtain rfl := one ht
  exact okE_sub (d := true) (m := 10) (k := 2) (t := 0) (by decide) e1_10_200
 ·rcases three ht with rfl | rfl | rfl
  ·exact okE_sub (d := true) (m := 10) (k := 2) (t := 1) (by decide) e1_10_210
  ·exact okE_sub (d := true) (m := 10) (k := 2) (t := 1) (by decide) e1_10_211
  ·exact okE_sub (d := true) (m := 10) (k := 2) (t := 1) (by decide) e1_10_212
 ·obtain rfl := one ht
  exact okE_sub (d := true) (m := 10) (k := 2) (t := 2) (by decide) e1_10_220
 ·rcases three ht with rfl | rfl | rfl
  ·exact okE_sub (d := true) (m := 10) (k := 2) (t := 3) (by decide) e1_10_230
  ·exact okE_sub (d := true) (m := 10) (k := 2) (t := 3) (by decide) e1_10_231
  ·exact okE_sub (d := true) (m := 10) (k := 2) (t := 3) (by decide) e1_10_232
theorem hE1_11 : ∀ c ∈ casesE true 11, ∀ t < nTem grpsE c, headOkT (tabJ []) cxF (fun _ => none) none 400 0 bodyE 100 grpsE headsE [leaveE] (headE true 11) c t = true := by
 intro c hc t ht
 unfold casesE at hc
 simp only [List.mem_cons, List.not_mem_nil, or_false] at hc
 rcases hc with rfl | rfl | rfl | rfl | rfl | rfl | rfl | rfl | rfl
 ·rcases six ht with rfl | rfl | rfl | rfl | rfl | rfl
  ·exact okE_sub (d := true) (m := 11) (k := 0) (t := 0) (by decide) e1_11_000
  ·exact okE_sub (d := true) (m := 11) (k := 0) (t := 0) (by decide) e1_11_001
  ·exact okE_sub (d := true) (m := 11) (k := 0) (t := 0) (by decide) e1_11_002
  ·exact okE_sub (d := true) (m := 11) (k := 0) (t := 0) (by decide) e1_11_003
  ·exact okE_sub (d := true) (m := 11) (k := 0) (t := 0) (by decide) e1_11_004
  ·exact okE_sub (d := true) (m := 11) (k := 0) (t := 0) (by decide) e1_11_005
 ·obtain rfl := one ht
  exact okE_sub (d := true) (m := 11) (k := 1) (t := 0) (by decide) e1_11_100
 ·obtain rfl := one ht
  exact okE_sub (d := true) (m := 11) (k := 1) (t := 1) (by decide) e1_11_110
 ·obtain rfl := one ht
  exact okE_sub (d := true) (m := 11) (k := 1) (t := 2) (by decide) e1_11_120
 ·obtain rfl := one ht
  exact okE_sub (d := true) (m := 11) (k := 1) (t := 3) (by decide) e1_11_130
 ·rcases three ht with rfl | rfl | rfl
  ·exact okE_sub (d := true) (m := 11) (k := 2) (t := 0) (by decide) e1_11_200
  ·exact okE_sub (d := true) (m := 11) (k := 2) (t := 0) (by decide) e1_11_201
  ·exact okE_sub (d := true) (m := 11) (k := 2) (t := 0) (by decide) e1_11_202
 ·rcases three ht with rfl | rfl | rfl
  ·exact okE_sub (d := true) (m := 11) (k := 2) (t := 1) (by decide) e1_11_210
  ·exact okE_sub (d := true) (m := 11) (k := 2) (t := 1) (by decide) e1_11_211
  ·exact okE_sub (d := true) (m := 11) (k := 2) (t := 1) (by decide) e1_11_212
 ·obtain rfl := one ht
  exact okE_sub (d := true) (m := 11) (k := 2) (t := 2) (by decide) e1_11_220
 ·rcases three ht with rfl | rfl | rfl
  ·exact okE_sub (d := true) (m := 11) (k := 2) (t := 3) (by decide) e1_11_230
  ·exact okE_sub (d := true) (m := 11) (k := 2) (t := 3) (by decide) e1_11_231
  ·exact okE_sub (d := true) (m := 11) (k := 2) (t := 3) (by decide) e1_11_232
theorem hE1_12 : ∀ c ∈ casesE true 12, ∀ t < nTem grpsE c, headOkT (tabJ []) cxF (fun _ => none) none 400 0 bodyE 100 grpsE headsE [leaveE] (headE true 12) c t = true := by
 intro c hc t ht
 unfold casesE at hc
 simp only [List.mem_cons, List.not_mem_nil, or_false] at hc
 rcases hc with rfl | rfl | rfl | rfl | rfl | rfl | rfl | rfl | rfl
 ·rcases six ht with rfl | rfl | rfl | rfl | rfl | rfl
  ·exact okE_sub (d := true) (m := 12) (k := 0) (t := 0) (by decide) e1_12_000
  ·exact okE_sub (d := true) (m := 12) (k := 0) (t := 0) (by decide) e1_12_001
  ·exact okE_sub (d := true) (m := 12) (k := 0) (t := 0) (by decide) e1_12_002
  ·exact okE_sub (d := true) (m := 12) (k := 0) (t := 0) (by decide) e1_12_003
  ·exact okE_sub (d := true) (m := 12) (k := 0) (t := 0) (by decide) e1_12_004
  ·exact okE_sub (d := true) (m := 12) (k := 0) (t := 0) (by decide) e1_12_005
 ·obtain rfl := one ht
  exact okE_sub (d := true) (m := 12) (k := 1) (t := 0) (by decide) e1_12_100
 ·obtain rfl := one ht
  exact okE_sub (d := true) (m := 12) (k := 1) (t := 1) (by decide) e1_12_110
 ·obtain rfl := one ht
  exact okE_sub (d := true) (m := 12) (k := 1) (t := 2) (by decide) e1_12_120
 ·obtain rfl := one ht
  exact okE_sub (d := true) (m := 12) (k := 1) (t := 3) (by decide) e1_12_130
 ·obtain rfl := one ht
  exact okE_sub (d := true) (m := 12) (k := 2) (t := 0) (by decide) e1_12_200
 ·obtain rfl := one ht
  exact okE_sub (d := true) (m := 12) (k := 2) (t := 1) (by decide) e1_12_210
 ·rcases three ht with rfl | rfl | rfl
  ·exact okE_sub (d := true) (m := 12) (k := 2) (t := 2) (by decide) e1_12_220
  ·exact okE_sub (d := true) (m := 12) (k := 2) (t := 2) (by decide) e1_12_221
  ·exact okE_sub (d := true) (m := 12) (k := 2) (t := 2) (by decide) e1_12_222
 ·rcases three ht with rfl | rfl | rfl
  ·exact okE_sub (d := true) (m := 12) (k := 2) (t := 3) (by decide) e1_12_230
  ·exact okE_sub (d := true) (m := 12) (k := 2) (t := 3) (by decide) e1_12_231
  ·exact okE_sub (d := true) (m := 12) (k := 2) (t := 3) (by decide) e1_12_232
theorem hE1_13 : ∀ c ∈ casesE true 13, ∀ t < nTem grpsE c, headOkT (tabJ []) cxF (fun _ => none) none 400 0 bodyE 100 grpsE headsE [leaveE] (headE true 13) c t = true := by
 intro c hc t ht
 unfold casesE at hc
 simp only [List.mem_cons, List.not_mem_nil, or_false] at hc
 rcases hc with rfl | rfl | rfl | rfl | rfl | rfl | rfl | rfl | rfl
 ·rcases six ht with rfl | rfl | rfl | rfl | rfl | rfl
  ·exact okE_sub (d := true) (m := 13) (k := 0) (t := 0) (by decide) e1_13_000
  ·exact okE_sub (d := true) (m := 13) (k := 0) (t := 0) (by decide) e1_13_001
  ·exact okE_sub (d := true) (m := 13) (k := 0) (t := 0) (by decide) e1_13_002
  ·exact okE_sub (d := true) (m := 13) (k := 0) (t := 0) (by decide) e1_13_003
  ·exact okE_sub (d := true) (m := 13) (k := 0) (t := 0) (by decide) e1_13_004
  ·exact okE_sub (d := true) (m := 13) (k := 0) (t := 0) (by decide) e1_13_005
 ·obtain rfl := one ht
  exact okE_sub (d := true) (m := 13) (k := 1) (t := 0) (by decide) e1_13_100
 ·obtain rfl := one ht
  exact okE_sub (d := true) (m := 13) (k := 1) (t := 1) (by decide) e1_13_110
 ·obtain rfl := one ht
  exact okE_sub (d := true) (m := 13) (k := 1) (t := 2) (by decide) e1_13_120
 ·obtain rfl := one ht
  exact okE_sub (d := true) (m := 13) (k := 1) (t := 3) (by decide) e1_13_130
 ·rcases three ht with rfl | rfl | rfl
  ·exact okE_sub (d := true) (m := 13) (k := 2) (t := 0) (by decide) e1_13_200
  ·exact okE_sub (d := true) (m := 13) (k := 2) (t := 0) (by decide) e1_13_201
  ·exact okE_sub (d := true) (m := 13) (k := 2) (t := 0) (by decide) e1_13_202
 ·obtain rfl := one ht
  exact okE_sub (d := true) (m := 13) (k := 2) (t := 1) (by decide) e1_13_210
 ·rcases three ht with rfl | rfl | rfl
  ·exact okE_sub (d := true) (m := 13) (k := 2) (t := 2) (by decide) e1_13_220
  ·exact okE_sub (d := true) (m := 13) (k := 2) (t := 2) (by decide) e1_13_221
  ·exact okE_sub (d := true) (m := 13) (k := 2) (t := 2) (by decide) e1_13_222
 ·rcases three ht with rfl | rfl | rfl
  ·exact okE_sub (d := true) (m := 13) (k := 2) (t := 3) (by decide) e1_13_230
  ·exact okE_sub (d := true) (m := 13) (k := 2) (t := 3) (by decide) e1_13_231
  ·exact okE_sub (d := true) (m := 13) (k := 2) (t := 3) (by decide) e1_13_232
theorem hE1_14 : ∀ c ∈ casesE true 14, ∀ t < nTem grpsE c, headOkT (tabJ []) cxF (fun _ => none) none 400 0 bodyE 100 grpsE headsE [leaveE] (headE true 14) c t = true := by
 intro c hc t ht
 unfold casesE at hc
 simp only [List.mem_cons, List.not_mem_nil, or_false] at hc
 rcases hc with rfl | rfl | rfl | rfl | rfl | rfl | rfl | rfl | rfl
 ·rcases six ht with rfl | rfl | rfl | rfl | rfl | rfl
  ·exact okE_sub (d := true) (m := 14) (k := 0) (t := 0) (by decide) e1_14_000
  ·exact okE_sub (d := true) (m := 14) (k := 0) (t := 0) (by decide) e1_14_001
  ·exact okE_sub (d := true) (m := 14) (k := 0) (t := 0) (by decide) e1_14_002
  ·exact okE_sub (d := true) (m := 14) (k := 0) (t := 0) (by decide) e1_14_003
  ·exact okE_sub (d := true) (m := 14) (k := 0) (t := 0) (by decide) e1_14_004
  ·exact okE_sub (d := true) (m := 14) (k := 0) (t := 0) (by decide) e1_14_005
 ·obtain rfl := one ht
  exact okE_sub (d := true) (m := 14) (k := 1) (t := 0) (by decide) e1_14_100
 ·obtain rfl := one ht
  exact okE_sub (d := true) (m := 14) (k := 1) (t := 1) (by decide) e1_14_110
 ·obtain rfl := one ht
  exact okE_sub (d := true) (m := 14) (k := 1) (t := 2) (by decide) e1_14_120
 ·obtain rfl := one ht
  exact okE_sub (d := true) (m := 14) (k := 1) (t := 3) (by decide) e1_14_130
 ·obtain rfl := one ht
  exact okE_sub (d := true) (m := 14) (k := 2) (t := 0) (by decide) e1_14_200
 ·rcases three ht with rfl | rfl | rfl
  ·exact okE_sub (d := true) (m := 14) (k := 2) (t := 1) (by decide) e1_14_210
  ·exact okE_sub (d := true) (m := 14) (k := 2) (t := 1) (by decide) e1_14_211
  ·exact okE_sub (d := true) (m := 14) (k := 2) (t := 1) (by decide) e1_14_212
 ·rcases three ht with rfl | rfl | rfl
  ·exact okE_sub (d := true) (m := 14) (k := 2) (t := 2) (by decide) e1_14_220
  ·exact okE_sub (d := true) (m := 14) (k := 2) (t := 2) (by decide) e1_14_221
  ·exact okE_sub (d := true) (m := 14) (k := 2) (t := 2) (by decide) e1_14_222
 ·rcases three ht with rfl | rfl | rfl
  ·exact okE_sub (d := true) (m := 14) (k := 2) (t := 3) (by decide) e1_14_230
  ·exact okE_sub (d := true) (m := 14) (k := 2) (t := 3) (by decide) e1_14_231
  ·exact okE_sub (d := true) (m := 14) (k := 2) (t := 3) (by decide) e1_14_232
theorem hE1_15 : ∀ c ∈ casesE true 15, ∀ t < nTem grpsE c, headOkT (tabJ []) cxF (fun _ => none) none 400 0 bodyE 100 grpsE headsE [leaveE] (headE true 15) c t = true := by
 intro c hc t ht
 unfold casesE at hc
 simp only [List.mem_cons, List.not_mem_nil, or_false] at hc
 rcases hc with rfl | rfl | rfl | rfl | rfl | rfl | rfl | rfl | rfl
 ·rcases six ht with rfl | rfl | rfl | rfl | rfl | rfl
  ·exact okE_sub (d := true) (m := 15) (k := 0) (t := 0) (by decide) e1_15_000
  ·exact okE_sub (d := true) (m := 15) (k := 0) (t := 0) (by decide) e1_15_001
  ·exact okE_sub (d := true) (m := 15) (k := 0) (t := 0) (by decide) e1_15_002
  ·exact okE_sub (d := true) (m := 15) (k := 0) (t := 0) (by decide) e1_15_003
  ·exact okE_sub (d := true) (m := 15) (k := 0) (t := 0) (by decide) e1_15_004
  ·exact okE_sub (d := true) (m := 15) (k := 0) (t := 0) (by decide) e1_15_005
 ·obtain rfl := one ht
  exact okE_sub (d := true) (m := 15) (k := 1) (t := 0) (by decide) e1_15_100
 ·obtain rfl := one ht
  exact okE_sub (d := true) (m := 15) (k := 1) (t := 1) (by decide) e1_15_110
 ·obtain rfl := one ht
  exact okE_sub (d := true) (m := 15) (k := 1) (t := 2) (by decide) e1_15_120
 ·obtain rfl := one ht
  exact okE_sub (d := true) (m := 15) (k := 1) (t := 3) (by decide) e1_15_130
 ·rcases three ht with rfl | rfl | rfl
  ·exact okE_sub (d := true) (m := 15) (k := 2) (t := 0) (by decide) e1_15_200
  ·exact okE_sub (d := true) (m := 15) (k := 2) (t := 0) (by decide) e1_15_201
  ·exact okE_sub (d := true) (m := 15) (k := 2) (t := 0) (by decide) e1_15_202
 ·rcases three ht with rfl | rfl | rfl
  ·exact okE_sub (d := true) (m := 15) (k := 2) (t := 1) (by decide) e1_15_210
  ·exact okE_sub (d := true) (m := 15) (k := 2) (t := 1) (by decide) e1_15_211
  ·exact okE_sub (d := true) (m := 15) (k := 2) (t := 1) (by decide) e1_15_212
 ·rcases three ht with rfl | rfl | rfl
  ·exact okE_sub (d := true) (m := 15) (k := 2) (t := 2) (by decide) e1_15_220
  ·exact okE_sub (d := true) (m := 15) (k := 2) (t := 2) (by decide) e1_15_221
  ·exact okE_sub (d := true) (m := 15) (k := 2) (t := 2) (by decide) e1_15_222
 ·rcases three ht with rfl | rfl | rfl
  ·exact okE_sub (d := true) (m := 15) (k := 2) (t := 3) (by decide) e1_15_230
  ·exact okE_sub (d := true) (m := 15) (k := 2) (t := 3) (by decide) e1_15_231
  ·exact okE_sub (d := true) (m := 15) (k := 2) (t := 3) (by decide) e1_15_232
theorem hE0_0 : ∀ c ∈ casesE false 0, ∀ t < nTem grpsE c, headOkT (tabJ []) cxF (fun _ => none) none 400 0 bodyE 100 grpsE headsE [leaveE] (headE false 0) c t = true := by
 intro c hc t ht
 unfold casesE at hc
 simp only [List.mem_cons, List.not_mem_nil, or_false] at hc
 rcases hc with rfl | rfl | rfl | rfl | rfl | rfl | rfl | rfl | rfl
 ·obtain rfl := one ht
  exact okE_sub (d := false) (m := 0) (k := 0) (t := 0) (by decide) e0_0_000
 ·obtain rfl := one ht
  exact okE_sub (d := false) (m := 0) (k := 1) (t := 0) (by decide) e0_0_100
 ·obtain rfl := one ht
  exact okE_sub (d := false) (m := 0) (k := 1) (t := 1) (by decide) e0_0_110
 ·obtain rfl := one ht
  exact okE_sub (d := false) (m := 0) (k := 1) (t := 2) (by decide) e0_0_120
 ·obtain rfl := one ht
  exact okE_sub (d := false) (m := 0) (k := 1) (t := 3) (by decide) e0_0_130
 ·obtain rfl := one ht
  exact okE_sub (d := false) (m := 0) (k := 2) (t := 0) (by decide) e0_0_200
 ·obtain rfl := one ht
  exact okE_sub (d := false) (m := 0) (k := 2) (t := 1) (by decide) e0_0_210
 ·obtain rfl := one ht
  exact okE_sub (d := false) (m := 0) (k := 2) (t := 2) (by decide) e0_0_220
 ·obtain rfl := one ht
  exact okE_sub (d := false) (m := 0) (k := 2) (t := 3) (by decide) e0_0_230
theorem hE0_1 : ∀ c ∈ casesE false 1, ∀ t < nTem grpsE c, headOkT (tabJ []) cxF (fun _ => none) none 400 0 bodyE 100 grpsE headsE [leaveE] (headE false 1) c t = true := by
 intro c hc t ht
 unfold casesE at hc
 simp only [List.mem_cons, List.not_mem_nil, or_false] at hc
 rcases hc with rfl | rfl | rfl | rfl | rfl | rfl | rfl | rfl | rfl
 ·obtain rfl := one ht
  exact okE_sub (d := false) (m := 1) (k := 0) (t := 0) (by decide) e0_1_000
 ·obtain rfl := one ht
  exact okE_sub (d := false) (m := 1) (k := 1) (t := 0) (by decide) e0_1_100
 ·obtain rfl := one ht
  exact okE_sub (d := false) (m := 1) (k := 1) (t := 1) (by decide) e0_1_110
 ·obtain rfl := one ht
  exact okE_sub (d := false) (m := 1) (k := 1) (t := 2) (by decide) e0_1_120
 ·obtain rfl := one ht
  exact okE_sub (d := false) (m := 1) (k := 1) (t := 3) (by decide) e0_1_130
 ·rcases three ht with rfl | rfl | rfl
  ·exact okE_sub (d := false) (m := 1) (k := 2) (t := 0) (by decide) e0_1_200
  ·exact okE_sub (d := false) (m := 1) (k := 2) (t := 0) (by decide) e0_1_201
  ·exact okE_sub (d := false) (m := 1) (k := 2) (t := 0) (by decide) e0_1_202
 ·obtain rfl := one ht
  exact okE_sub (d := false) (m := 1) (k := 2) (t := 1) (by decide) e0_1_210
 ·obtain rfl := one ht
  exact okE_sub (d := false) (m := 1) (k := 2) (t := 2) (by decide) e0_1_220
 ·obtain rfl := one ht
  exact okE_sub (d := false) (m := 1) (k := 2) (t := 3) (by decide) e0_1_230
theorem hE0_2 : ∀ c ∈ casesE false 2, ∀ t < nTem grpsE c, headOkT (tabJ []) cxF (fun _ => none) none 400 0 bodyE 100 grpsE headsE [leaveE] (headE false 2) c t = true := by
 intro c hc t ht
 unfold casesE at hc
 simp only [List.mem_cons, List.not_mem_nil, or_false] at hc
 rcases hc with rfl | rfl | rfl | rfl | rfl | rfl | rfl | rfl | rfl
 ·obtain rfl := one ht
  exact okE_sub (d := false) (m := 2) (k := 0) (t := 0) (by decide) e0_2_000
 ·obtain rfl := one ht
  exact okE_sub (d := false) (m := 2) (k := 1) (t := 0) (by decide) e0_2_100
 ·obtain rfl := one ht
  exact okE_sub (d := false) (m := 2) (k := 1) (t := 1) (by decide) e0_2_110
 ·obtain rfl := one ht
  exact okE_sub (d := false) (m := 2) (k := 1) (t := 2) (by decide) e0_2_120
 ·obtain rfl := one ht
  exact okE_sub (d := false) (m := 2) (k := 1) (t := 3) (by decide) e0_2_130
 ·obtain rfl := one ht
  exact okE_sub (d := false) (m := 2) (k := 2) (t := 0) (by decide) e0_2_200
 ·rcases three ht with rfl | rfl | rfl
  ·exact okE_sub (d := false) (m := 2) (k := 2) (t := 1) (by decide) e0_2_210
  ·exact okE_sub (d := false) (m := 2) (k := 2) (t := 1) (by decide) e0_2_211
  ·exact okE_sub (d := false) (m := 2) (k := 2) (t := 1) (by decide) e0_2_212
 ·obtain rfl := one ht
  exact okE_sub (d := false) (m := 2) (k := 2) (t := 2) (by decide) e0_2_220
 ·obtain rfl := one ht
  exact okE_sub (d := false) (m := 2) (k := 2) (t := 3) (by decide) e0_2_230
theorem hE0_3 : ∀ c ∈ casesE false 3, ∀ t < nTem grpsE c, headOkT (tabJ []) cxF (fun _ => none) none 400 0 bodyE 100 grpsE headsE [leaveE] (headE false 3) c t = true := by
 intro c hc t ht
 unfold casesE at hc
 simp only [List.mem_cons, List.not_mem_nil, or_false] at hc
 rcases hc with rfl | rfl | rfl | rfl | rfl | rfl | rfl | rfl | rfl
 ·obtain rfl := one ht
  exact okE_sub (d := false) (m := 3) (k := 0) (t := 0) (by decide) e0_3_000
 ·obtain rfl := one ht
  exact okE_sub (d := false) (m := 3) (k := 1) (t := 0) (by decide) e0_3_100
 ·obtain rfl := one ht
  exact okE_sub (d := false) (m := 3) (k := 1) (t := 1) (by decide) e0_3_110
 ·obtain rfl := one ht
  exact okE_sub (d := false) (m := 3) (k := 1) (t := 2) (by decide) e0_3_120
 ·obtain rfl := one ht
  exact okE_sub (d := false) (m := 3) (k := 1) (t := 3) (by decide) e0_3_130
 ·rcases three ht with rfl | rfl | rfl
  ·exact okE_sub (d := false) (m := 3) (k := 2) (t := 0) (by decide) e0_3_200
  ·exact okE_sub (d := false) (m := 3) (k := 2) (t := 0) (by decide) e0_3_201
  ·exact okE_sub (d := false) (m := 3) (k := 2) (t := 0) (by decide) e0_3_202
 ·rcases three ht with rfl | rfl | rfl
  ·exact okE_sub (d := false) (m := 3) (k := 2) (t := 1) (by decide) e0_3_210
  ·exact okE_sub (d := false) (m := 3) (k := 2) (t := 1) (by decide) e0_3_211
  ·exact okE_sub (d := false) (m := 3) (k := 2) (t := 1) (by decide) e0_3_212
 ·obtain rfl := one ht
  exact okE_sub (d := false) (m := 3) (k := 2) (t := 2) (by decide) e0_3_220
 ·obtain rfl := one ht
  exact okE_sub (d := false) (m := 3) (k := 2) (t := 3) (by decide) e0_3_230
theorem hE0_4 : ∀ c ∈ casesE false 4, ∀ t < nTem grpsE c, headOkT (tabJ []) cxF (fun _ => none) none 400 0 bodyE 100 grpsE headsE [leaveE] (headE false 4) c t = true := by
 intro c hc t ht
 unfold casesE at hc
 simp only [List.mem_cons, List.not_mem_nil, or_false] at hc
 rcases hc with rfl | rfl | rfl | rfl | rfl | rfl | rfl | rfl | rfl
 ·obtain rfl := one ht
  exact okE_sub (d := false) (m := 4) (k := 0) (t := 0) (by decide) e0_4_000
 ·obtain rfl := one ht
  exact okE_sub (d := false) (m := 4) (k := 1) (t := 0) (by decide) e0_4_100
 ·obtain rfl := one ht
  exact okE_sub (d := false) (m := 4) (k := 1) (t := 1) (by decide) e0_4_110
 ·obtain rfl := one ht
  exact okE_sub (d := false) (m := 4) (k := 1) (t := 2) (by decide) e0_4_120
 ·obtain rfl := one ht
  exact okE_sub (d := false) (m := 4) (k := 1) (t := 3) (by decide) e0_4_130
 ·obtain rfl := one ht
  exact okE_sub (d := false) (m := 4) (k := 2) (t := 0) (by decide) e0_4_200
 ·obtain rfl := one ht
  exact okE_sub (d := false) (m := 4) (k := 2) (t := 1) (by decide) e0_4_210
 ·rcases three ht with rfl | rfl | rfl
  ·exact okE_sub (d := false) (m := 4) (k := 2) (t := 2) (by decide) e0_4_220
  ·exact okE_sub (d := false) (m := 4) (k := 2) (t := 2) (by decide) e0_4_221
  ·exact okE_sub (d := false) (m := 4) (k := 2) (t := 2) (by decide) e0_4_222
 ·obtain rfl := one ht
  exact okE_sub (d := false) (m := 4) (k := 2) (t := 3) (by decide) e0_4_230
theorem hE0_5 : ∀ c ∈ casesE false 5, ∀ t < nTem grpsE c, headOkT (tabJ []) cxF (fun _ => none) none 400 0 bodyE 100 grpsE headsE [leaveE] (headE false 5) c t = true := by
 intro c hc t ht
 unfold casesE at hc
 simp only [List.mem_cons, List.not_mem_nil, or_false] at hc
 rcases hc with rfl | rfl | rfl | rfl | rfl | rfl | rfl | rfl | rfl
 ·obtain rfl := one ht
  exact okE_sub (d := false) (m := 5) (k := 0) (t := 0) (by decide) e0_5_000
 ·obtain rfl := one ht
  exact okE_sub (d := false) (m := 5) (k := 1) (t := 0) (by decide) e0_5_100
 ·obtain rfl := one ht
  exact okE_sub (d := false) (m := 5) (k := 1) (t := 1) (by decide) e0_5_110
 ·obtain rfl := one ht
  exact okE_sub (d := false) (m := 5) (k := 1) (t := 2) (by decide) e0_5_120
 ·obtain rfl := one ht
  exact okE_sub (d := false) (m := 5) (k := 1) (t := 3) (by decide) e0_5_130
 ·rcases three ht with rfl | rfl | rfl
  ·exact okE_sub (d := false) (m := 5) (k := 2) (t := 0) (by decide) e0_5_200
  ·exact okE_sub (d := false) (m := 5) (k := 2) (t := 0) (by decide) e0_5_201
  ·exact okE_sub (d := false) (m := 5) (k := 2) (t := 0) (by decide) e0_5_202
 ·obtain rfl := one ht
  exact okE_sub (d := false) (m := 5) (k := 2) (t := 1) (by decide) e0_5_210
 ·rcases three ht with rfl | rfl | rfl
  ·exact okE_sub (d := false) (m := 5) (k := 2) (t := 2) (by decide) e0_5_220
  ·exact okE_sub (d := false) (m := 5) (k := 2) (t := 2) (by decide) e0_5_221
  ·exact okE_sub (d := false) (m := 5) (k := 2) (t := 2) (by decide) e0_5_222
 ·obtain rfl := one ht
  exact okE_sub (d := false) (m := 5) (k := 2) (t := 3) (by decide) e0_5_230
theorem hE0_6 : ∀ c ∈ casesE false 6, ∀ t < nTem grpsE c, headOkT (tabJ []) cxF (fun _ => none) none 400 0 bodyE 100 grpsE headsE [leaveE] (headE false 6) c t = true := by
 intro c hc t ht
 unfold casesE at hc
 simp only [List.mem_cons, List.not_mem_nil, or_false] at hc
 rcases hc with rfl | rfl | rfl | rfl | rfl | rfl | rfl | rfl | rfl
 ·obtain rfl := one ht
  exact okE_sub (d := false) (m := 6) (k := 0) (t := 0) (by decide) e0_6_000
 ·obtain rfl := one ht
  exact okE_sub (d := false) (m := 6) (k := 1) (t := 0) (by decide) e0_6_100
 ·obtain rfl := one ht
  exact okE_sub (d := false) (m := 6) (k := 1) (t := 1) (by decide) e0_6_110
 ·obtain rfl := one ht
  exact okE_sub (d := false) (m := 6) (k := 1) (t := 2) (by decide) e0_6_120
 ·obtain rfl := one ht
  exact okE_sub (d := false) (m := 6) (k := 1) (t := 3) (by decide) e0_6_130
 ·obtain rfl := one ht
  exact okE_sub (d := false) (m := 6) (k := 2) (t := 0) (by decide) e0_6_200
 ·rcases three ht with rfl | rfl | rfl
  ·exact okE_sub (d := false) (m := 6) (k := 2) (t := 1) (by decide) e0_6_210
  ·exact okE_sub (d := false) (m := 6) (k := 2) (t := 1) (by decide) e0_6_211
  ·exact okE_sub (d := false) (m := 6) (k := 2) (t := 1) (by decide) e0_6_212
 ·rcases three ht with rfl | rfl | rfl
  ·exact okE_sub (d := false) (m := 6) (k := 2) (t := 2) (by decide) e0_6_220
  ·exact okE_sub (d := false) (m := 6) (k := 2) (t := 2) (by decide) e0_6_221
  ·exact okE_sub (d := false) (m := 6) (k := 2) (t := 2) (by decide) e0_6_222
 ·obtain rfl := one ht
  exact okE_sub (d := false) (m := 6) (k := 2) (t := 3) (by decide) e0_6_230
theorem hE0_7 : ∀ c ∈ casesE false 7, ∀ t < nTem grpsE c, headOkT (tabJ []) cxF (fun _ => none) none 400 0 bodyE 100 grpsE headsE [leaveE] (headE false 7) c t = true := by
 intro c hc t ht
 unfold casesE at hc
 simp only [List.mem_cons, List.not_mem_nil, or_false] at hc
 rcases hc with rfl | rfl | rfl | rfl | rfl | rfl | rfl | rfl | rfl
 ·obtain rfl := one ht
  exact okE_sub (d := false) (m := 7) (k := 0) (t := 0) (by decide) e0_7_000
 ·obtain rfl := one ht
  exact okE_sub (d := false) (m := 7) (k := 1) (t := 0) (by decide) e0_7_100
 ·obtain rfl := one ht
  exact okE_sub (d := false) (m := 7) (k := 1) (t := 1) (by decide) e0_7_110
 ·obtain rfl := one ht
  exact okE_sub (d := false) (m := 7) (k := 1) (t := 2) (by decide) e0_7_120
 ·obtain rfl := one ht
  exact okE_sub (d := false) (m := 7) (k := 1) (t := 3) (by decide) e0_7_130
 ·rcases three ht with rfl | rfl | rfl
  ·exact okE_sub (d := false) (m := 7) (k := 2) (t := 0) (by decide) e0_7_200
  ·exact okE_sub (d := false) (m := 7) (k := 2) (t := 0) (by decide) e0_7_201
  ·exact okE_sub (d := false) (m := 7) (k := 2) (t := 0) (by decide) e0_7_202
 ·rcases three ht with rfl | rfl | rfl
  ·exact okE_sub (d := false) (m := 7) (k := 2) (t := 1) (by decide) e0_7_210
  ·exact okE_sub (d := false) (m := 7) (k := 2) (t := 1) (by decide) e0_7_211
  ·exact okE_sub (d := false) (m := 7) (k := 2) (t := 1) (by decide) e0_7_212
 ·rcases three ht with rfl | rfl | rfl
  ·exact okE_sub (d := false) (m := 7) (k := 2) (t := 2) (by decide) e0_7_220
  ·exact okE_sub (d := false) (m := 7) (k := 2) (t := 2) (by decide) e0_7_221
  ·exact okE_sub (d := false) (m := 7) (k := 2) (t := 2) (by decide) e0_7_222
 ·obtain rfl := one ht
  exact okE_sub (d := false) (m := 7) (k := 2) (t := 3) (by decide) e0_7_230
theorem hE0_8 : ∀ c ∈ casesE false 8, ∀ t < nTem grpsE c, headOkT (tabJ []) cxF (fun _ => none) none 400 0 bodyE 100 grpsE headsE [leaveE] (headE false 8) c t = true := by
 intro c hc t ht
 unfold casesE at hc
 simp only [List.mem_cons, List.not_mem_nil, or_false] at hc
 rcases hc with rfl | rfl | rfl | rfl | rfl | rfl | rfl | rfl | rfl
 ·obtain rfl := one ht
  exact okE_sub (d := false) (m := 8) (k := 0) (t := 0) (by decide) e0_8_000
 ·obtain rfl := one ht
  exact okE_sub (d := false) (m := 8) (k := 1) (t := 0) (by decide) e0_8_100
 ·obtain rfl := one ht
  exact okE_sub (d := false) (m := 8) (k := 1) (t := 1) (by decide) e0_8_110
 ·obtain rfl := one ht
  exact okE_sub (d := false) (m := 8) (k := 1) (t := 2) (by decide) e0_8_120
 ·obtain rfl := one ht
  exact okE_sub (d := false) (m := 8) (k := 1) (t := 3) (by decide) e0_8_130
 ·obtain rfl := one ht
  exact okE_sub (d := false) (m := 8) (k := 2) (t := 0) (by decide) e0_8_200
 ·obtain rfl := one ht
  exact okE_sub (d := false) (m := 8) (k := 2) (t := 1) (by decide) e0_8_210
 ·obtain rfl := one ht
  exact okE_sub (d := false) (m := 8) (k := 2) (t := 2) (by decide) e0_8_220
 ·rcases three ht with rfl | rfl | rfl
  ·exact okE_sub (d := false) (m := 8) (k := 2) (t := 3) (by decide) e0_8_230
  ·exact okE_sub (d := false) (m := 8) (k := 2) (t := 3) (by decide) e0_8_231
  ·exact okE_sub (d := false) (m := 8) (k := 2) (t := 3) (by decide) e0_8_232
theorem hE0_9 : ∀ c ∈ casesE false 9, ∀ t < nTem grpsE c, headOkT (tabJ []) cxF (fun _ => none) none 400 0 bodyE 100 grpsE headsE [leaveE] (headE false 9) c t = true := by
 intro c hc t ht
 unfold casesE at hc
 simp only [List.mem_cons, List.not_mem_nil, or_false] at hc
 rcases hc with rfl | rfl | rfl | rfl | rfl | rfl | rfl | rfl | rfl
 ·obtain rfl := one ht
  exact okE_sub (d := false) (m := 9) (k := 0) (t := 0) (by decide) e0_9_000
 ·obtain rfl := one ht
  exact okE_sub (d := false) (m := 9) (k := 1) (t := 0) (by decide) e0_9_100
 ·obtain rfl := one ht
  exact okE_sub (d := false) (m := 9) (k := 1) (t := 1) (by decide) e0_9_110
 ·obtain rfl := one ht
  exact okE_sub (d := false) (m := 9) (k := 1) (t := 2) (by decide) e0_9_120
 ·obtain rfl := one ht
  exact okE_sub (d := false) (m := 9) (k := 1) (t := 3) (by decide) e0_9_130
 ·rcases three ht with rfl | rfl | rfl
  ·exact okE_sub (d := false) (m := 9) (k := 2) (t := 0) (by decide) e0_9_200
  ·exact okE_sub (d := false) (m := 9) (k := 2) (t := 0) (by decide) e0_9_201
  ·exact okE_sub (d := false) (m := 9) (k := 2) (t := 0) (by decide) e0_9_202
 ·obtain rfl := one ht
  exact okE_sub (d := false) (m := 9) (k := 2) (t := 1) (by decide) e0_9_210
 ·obtain rfl := one ht
  exact okE_sub (d := false) (m := 9) (k := 2) (t := 2) (by decide) e0_9_220
 ·rcases three ht with rfl | rfl | rfl
  ·exact okE_sub (d := false) (m := 9) (k := 2) (t := 3) (by decide) e0_9_230
  ·exact okE_sub (d := false) (m := 9) (k := 2) (t := 3) (by decide) e0_9_231
  ·exact okE_sub (d := false) (m := 9) (k := 2) (t := 3) (by decide) e0_9_232
theorem hE0_10 : ∀ c ∈ casesE false 10, ∀ t < nTem grpsE c, headOkT (tabJ []) cxF (fun _ => none) none 400 0 bodyE 100 grpsE headsE [leaveE] (headE false 10) c t = true := by
 intro c hc t ht
 unfold casesE at hc
 simp only [List.mem_cons, List.not_mem_nil, or_false] at hc
 rcases hc with rfl | rfl | rfl | rfl | rfl | rfl | rfl | rfl | rfl
 ·obtain rfl := one ht
  exact okE_sub (d := false) (m := 10) (k := 0) (t := 0) (by decide) e0_10_000
 ·obtain rfl := one ht
  exact okE_sub (d := false) (m := 10) (k := 1) (t := 0) (by decide) e0_10_100
 ·obtain rfl := one ht
  exact okE_sub (d := false) (m := 10) (k := 1) (t := 1) (by decide) e0_10_110
 ·obtain rfl := one ht
  exact okE_sub (d := false) (m := 10) (k := 1) (t := 2) (by decide) e0_10_120
 ·obtain rfl := one ht
  exact okE_sub (d := false) (m := 10) (k := 1) (t := 3) (by decide) e0_10_130
 ·obtain rfl := one ht
  exact okE_sub (d := false) (m := 10) (k := 2) (t := 0) (by decide) e0_10_200
 ·rcases three ht with rfl | rfl | rfl
  ·exact okE_sub (d := false) (m := 10) (k := 2) (t := 1) (by decide) e0_10_210
  ·exact okE_sub (d := false) (m := 10) (k := 2) (t := 1) (by decide) e0_10_211
  ·exact okE_sub (d := false) (m := 10) (k := 2) (t := 1) (by decide) e0_10_212
 ·obtain rfl := one ht
  exact okE_sub (d := false) (m := 10) (k := 2) (t := 2) (by decide) e0_10_220
 ·rcases three ht with rfl | rfl | rfl
  ·exact okE_sub (d := false) (m := 10) (k := 2) (t := 3) (by decide) e0_10_230
  ·exact okE_sub (d := false) (m := 10) (k := 2) (t := 3) (by decide) e0_10_231
  ·exact okE_sub (d := false) (m := 10) (k := 2) (t := 3) (by decide) e0_10_232
theorem hE0_11 : ∀ c ∈ casesE false 11, ∀ t < nTem grpsE c, headOkT (tabJ []) cxF (fun _ => none) none 400 0 bodyE 100 grpsE headsE [leaveE] (headE false 11) c t = true := by
 intro c hc t ht
 unfold casesE at hc
 simp only [List.mem_cons, List.not_mem_nil, or_false] at hc
 rcases hc with rfl | rfl | rfl | rfl | rfl | rfl | rfl | rfl | rfl
 ·obtain rfl := one ht
  exact okE_sub (d := false) (m := 11) (k := 0) (t := 0) (by decide) e0_11_000
 ·obtain rfl := one ht
  exact okE_sub (d := false) (m := 11) (k := 1) (t := 0) (by decide) e0_11_100
 ·obtain rfl := one ht
  exact okE_sub (d := false) (m := 11) (k := 1) (t := 1) (by decide) e0_11_110
 ·obtain rfl := one ht
  exact okE_sub (d := false) (m := 11) (k := 1) (t := 2) (by decide) e0_11_120
 ·obtain rfl := one ht
  exact okE_sub (d := false) (m := 11) (k := 1) (t := 3) (by decide) e0_11_130
 ·rcases three ht with rfl | rfl | rfl
  ·exact okE_sub (d := false) (m := 11) (k := 2) (t := 0) (by decide) e0_11_200
  ·exact okE_sub (d := false) (m := 11) (k := 2) (t := 0) (by decide) e0_11_201
  ·exact okE_sub (d := false) (m := 11) (k := 2) (t := 0) (by decide) e0_11_202
 ·rcases three ht with rfl | rfl | rfl
  ·exact okE_sub (d := false) (m := 11) (k := 2) (t := 1) (by decide) e0_11_210
  ·exact okE_sub (d := false) (m := 11) (k := 2) (t := 1) (by decide) e0_11_211
  ·exact okE_sub (d := false) (m := 11) (k := 2) (t := 1) (by decide) e0_11_212
 ·obtain rfl := one ht
  exact okE_sub (d := false) (m := 11) (k := 2) (t := 2) (by decide) e0_11_220
 ·rcases three ht with rfl | rfl | rfl
  ·exact okE_sub (d := false) (m := 11) (k := 2) (t := 3) (by decide) e0_11_230
  ·exact okE_sub (d := false) (m := 11) (k := 2) (t := 3) (by decide) e0_11_231
  ·exact okE_sub (d := false) (m := 11) (k := 2) (t := 3) (by decide) e0_11_232
theorem hE0_12 : ∀ c ∈ casesE false 12, ∀ t < nTem grpsE c, headOkT (tabJ []) cxF (fun _ => none) none 400 0 bodyE 100 grpsE headsE [leaveE] (headE false 12) c t = true := by
 intro c hc t ht
 unfold casesE at hc
 simp only [List.mem_cons, List.not_mem_nil, or_false] at hc
 rcases hc with rfl | rfl | rfl | rfl | rfl | rfl | rfl | rfl | rfl
 ·obtain rfl := one ht
  exact okE_sub (d := false) (m := 12) (k := 0) (t := 0) (by decide) e0_12_000
 ·obtain rfl := one ht
  exact okE_sub (d := false) (m := 12) (k := 1) (t := 0) (by decide) e0_12_100
 ·obtain rfl := one ht
  exact okE_sub (d := false) (m := 12) (k := 1) (t := 1) (by decide) e0_12_110
 ·obtain rfl := one ht
  exact okE_sub (d := false) (m := 12) (k := 1) (t := 2) (by decide) e0_12_120
 ·obtain rfl := one ht
  exact okE_sub (d := false) (m := 12) (k := 1) (t := 3) (by decide) e0_12_130
 ·obtain rfl := one ht
  exact okE_sub (d := false) (m := 12) (k := 2) (t := 0) (by decide) e0_12_200
 ·obtain rfl := one ht
  exact okE_sub (d := false) (m := 12) (k := 2) (t := 1) (by decide) e0_12_210
 ·rcases three ht with rfl | rfl | rfl
  ·exact okE_sub (d := false) (m := 12) (k := 2) (t := 2) (by decide) e0_12_220
  ·exact okE_sub (d := false) (m := 12) (k := 2) (t := 2) (by decide) e0_12_221
  ·exact okE_sub (d := false) (m := 12) (k := 2) (t := 2) (by decide) e0_12_222
 ·rcases three ht with rfl | rfl | rfl
  ·exact okE_sub (d := false) (m := 12) (k := 2) (t := 3) (by decide) e0_12_230
  ·exact okE_sub (d := false) (m := 12) (k := 2) (t := 3) (by decide) e0_12_231
  ·exact okE_sub (d := false) (m := 12) (k := 2) (t := 3) (by decide) e0_12_232
theorem hE0_13 : ∀ c ∈ casesE false 13, ∀ t < nTem grpsE c, headOkT (tabJ []) cxF (fun _ => none) none 400 0 bodyE 100 grpsE headsE [leaveE] (headE false 13) c t = true := by
 intro c hc t ht
 unfold casesE at hc
 simp only [List.mem_cons, List.not_mem_nil, or_false] at hc
 rcases hc with rfl | rfl | rfl | rfl | rfl | rfl | rfl | rfl | rfl
 ·obtain rfl := one ht
  exact okE_sub (d := false) (m := 13) (k := 0) (t := 0) (by decide) e0_13_000
 ·obtain rfl := one ht
  exact okE_sub (d := false) (m := 13) (k := 1) (t := 0) (by decide) e0_13_100
 ·obtain rfl := one ht
  exact okE_sub (d := false) (m := 13) (k := 1) (t := 1) (by decide) e0_13_110
 ·obtain rfl := one ht
  exact okE_sub (d := false) (m := 13) (k := 1) (t := 2) (by decide) e0_13_120
 ·obtain rfl := one ht
  exact okE_sub (d := false) (m := 13) (k := 1) (t := 3) (by decide) e0_13_130
 ·rcases three ht with rfl | rfl | rfl
  ·exact okE_sub (d := false) (m := 13) (k := 2) (t := 0) (by decide) e0_13_200
  ·exact okE_sub (d := false) (m := 13) (k := 2) (t := 0) (by decide) e0_13_201
  ·exact okE_sub (d := false) (m := 13) (k := 2) (t := 0) (by decide) e0_13_202
 ·obtain rfl := one ht
  exact okE_sub (d := false) (m := 13) (k := 2) (t := 1) (by decide) e0_13_210
 ·rcases three ht with rfl | rfl | rfl
  ·exact okE_sub (d := false) (m := 13) (k := 2) (t := 2) (by decide) e0_13_220
  ·exact okE_sub (d := false) (m := 13) (k := 2) (t := 2) (by decide) e0_13_221
  ·exact okE_sub (d := false) (m := 13) (k := 2) (t := 2) (by decide) e0_13_222
 ·rcases three ht with rfl | rfl | rfl
  ·exact okE_sub (d := false) (m := 13) (k := 2) (t := 3) (by decide) e0_13_230
  ·exact okE_sub (d := false) (m := 13) (k := 2) (t := 3) (by decide) e0_13_231
  ·exact okE_sub (d := false) (m := 13) (k := 2) (t := 3) (by decide) e0_13_232
theorem hE0_14 : ∀ c ∈ casesE false 14, ∀ t < nTem grpsE c, headOkT (tabJ []) cxF (fun _ => none) none 400 0 bodyE 100 grpsE headsE [leaveE] (headE false 14) c t = true := by
 intro c hc t ht
 unfold casesE at hc
 simp only [List.mem_cons, List.not_mem_nil, or_false] at hc
 rcases hc with rfl | rfl | rfl | rfl | rfl | rfl | rfl | rfl | rfl
 ·obtain rfl := one ht
  exact okE_sub (d := false) (m := 14) (k := 0) (t := 0) (by decide) e0_14_000
 ·obtain rfl := one ht
  exact okE_sub (d := false) (m := 14) (k := 1) (t := 0) (by decide) e0_14_100
 ·obtain rfl := one ht
  exact okE_sub (d := false) (m := 14) (k := 1) (t := 1) (by decide) e0_14_110
 ·obtain rfl := one ht
  exact okE_sub (d := false) (m := 14) (k := 1) (t := 2) (by decide) e0_14_120
 ·obtain rfl := one ht
  exact okE_sub (d := false) (m := 14) (k := 1) (t := 3) (by decide) e0_14_130
 ·obtain rfl := one ht
  exact okE_sub (d := false) (m := 14) (k := 2) (t := 0) (by decide) e0_14_200
 ·rcases three ht with rfl | rfl | rfl
  ·exact okE_sub (d := false) (m := 14) (k := 2) (t := 1) (by decide) e0_14_210
  ·exact okE_sub (d := false) (m := 14) (k := 2) (t := 1) (by decide) e0_14_211
  ·exact okE_sub (d := false) (m := 14) (k := 2) (t := 1) (by decide) e0_14_212
 ·rcases three ht with rfl | rfl | rfl
  ·exact okE_sub (d := false) (m := 14) (k := 2) (t := 2) (by decide) e0_14_220
  ·exact okE_sub (d := false) (m := 14) (k := 2) (t := 2) (by decide) e0_14_221
  ·exact okE_sub (d := false) (m := 14) (k := 2) (t := 2) (by decide) e0_14_222
 ·rcases three ht with rfl | rfl | rfl
  ·exact okE_sub (d := false) (m := 14) (k := 2) (t := 3) (by decide) e0_14_230
  ·exact okE_sub (d := false) (m := 14) (k := 2) (t := 3) (by decide) e0_14_231
  ·exact okE_sub (d := false) (m := 14) (k := 2) (t := 3) (by decide) e0_14_232
theorem hE0_15 : ∀ c ∈ casesE false 15, ∀ t < nTem grpsE c, headOkT (tabJ []) cxF (fun _ => none) none 400 0 bodyE 100 grpsE headsE [leaveE] (headE false 15) c t = true := by
 intro c hc t ht
 unfold casesE at hc
 simp only [List.mem_cons, List.not_mem_nil, or_false] at hc
 rcases hc with rfl | rfl | rfl | rfl | rfl | rfl | rfl | rfl | rfl
 ·obtain rfl := one ht
  exact okE_sub (d := false) (m := 15) (k := 0) (t := 0) (by decide) e0_15_000
 ·obtain rfl := one ht
  exact okE_sub (d := false) (m := 15) (k := 1) (t := 0) (by decide) e0_15_100
 ·obtain rfl := one ht
  exact okE_sub (d := false) (m := 15) (k := 1) (t := 1) (by decide) e0_15_110
 ·obtain rfl := one ht
  exact okE_sub (d := false) (m := 15) (k := 1) (t := 2) (by decide) e0_15_120
 ·obtain rfl := one ht
  exact okE_sub (d := false) (m := 15) (k := 1) (t := 3) (by decide) e0_15_130
 ·rcases three ht with rfl | rfl | rfl
  ·exact okE_sub (d := false) (m := 15) (k := 2) (t := 0) (by decide) e0_15_200
  ·exact okE_sub (d := false) (m := 15) (k := 2) (t := 0) (by decide) e0_15_201
  ·exact okE_sub (d := false) (m := 15) (k := 2) (t := 0) (by decide) e0_15_202
 ·rcases three ht with rfl | rfl | rfl
  ·exact okE_sub (d := false) (m := 15) (k := 2) (t := 1) (by decide) e0_15_210
  ·exact okE_sub (d := false) (m := 15) (k := 2) (t := 1) (by decide) e0_15_211
  ·exact okE_sub (d := false) (m := 15) (k := 2) (t := 1) (by decide) e0_15_212
 ·rcases three ht with rfl | rfl | rfl
  ·exact okE_sub (d := false) (m := 15) (k := 2) (t := 2) (by decide) e0_15_220
  ·exact okE_sub (d := false) (m := 15) (k := 2) (t := 2) (by decide) e0_15_221
  ·exact okE_sub (d := false) (m := 15) (k := 2) (t := 2) (by decide) e0_15_222
 ·rcases three ht with rfl | rfl | rfl
  ·exact okE_sub (d := false) (m := 15) (k := 2) (t := 3) (by decide) e0_15_230
  ·exact okE_sub (d := false) (m := 15) (k := 2) (t := 3) (by decide) e0_15_231
  ·exact okE_sub (d := false) (m := 15) (k := 2) (t := 3) (by decide) e0_15_232
theorem sixteen {P : Nat → Prop} (h : ∀ m, m < 16 → P m) : ∀ m ∈ List.range 16, P m := fun m hm => h m (List.mem_range.1 hm)
noncomputable def loopE3 : Fr → X (SX × Fr) := loopT 100 grpsE headsE [leaveE]
theorem loopE3_ok : CodeOk G0 Try.prog (.block 0 (.loop bodyE)) loopE3 := loopT_ok (T := tabJ []) (cx := cxF) cxF_ok (jm := none) (fuel := 400) (noBlocks_ok _ _) (fun h hh => by
 have pick : ∀ (d : Bool) (m : Nat), m < 16 → ∀ c ∈ casesE d m, ∀ t < nTem grpsE c, headOkT (tabJ []) cxF (fun _ => none) none 400 0 bodyE 100 grpsE headsE [leaveE] (headE d m) c t = true := by
  intro d m hm
  cases d with
  | true =>
   rcases (by omega : m = 0 ∨ m = 1 ∨ m = 2 ∨ m = 3 ∨ m = 4 ∨ m = 5 ∨ m = 6 ∨ m = 7 ∨ m = 8 ∨ m = 9 ∨ m = 10 ∨ m = 11 ∨ m = 12 ∨ m = 13 ∨ m = 14 ∨ m = 15) with rfl | rfl | rfl | rfl | rfl | rfl | rfl | rfl | rfl | rfl | rfl | rfl | rfl | rfl | rfl | rfl
   ·exact hE1_0
   ·exact hE1_1
   ·exact hE1_2
   ·exact hE1_3
   ·exact hE1_4
   ·exact hE1_5
   ·exact hE1_6
   ·exact hE1_7
   ·exact hE1_8
   ·exact hE1_9
   ·exact hE1_10
   ·exact hE1_11
   ·exact hE1_12
   ·exact hE1_13
   ·exact hE1_14
   ·exact hE1_15
  | false =>
   rcases (by omega : m = 0 ∨ m = 1 ∨ m = 2 ∨ m = 3 ∨ m = 4 ∨ m = 5 ∨ m = 6 ∨ m = 7 ∨ m = 8 ∨ m = 9 ∨ m = 10 ∨ m = 11 ∨ m = 12 ∨ m = 13 ∨ m = 14 ∨ m = 15) with rfl | rfl | rfl | rfl | rfl | rfl | rfl | rfl | rfl | rfl | rfl | rfl | rfl | rfl | rfl | rfl
   ·exact hE0_0
   ·exact hE0_1
   ·exact hE0_2
   ·exact hE0_3
   ·exact hE0_4
   ·exact hE0_5
   ·exact hE0_6
   ·exact hE0_7
   ·exact hE0_8
   ·exact hE0_9
   ·exact hE0_10
   ·exact hE0_11
   ·exact hE0_12
   ·exact hE0_13
   ·exact hE0_14
   ·exact hE0_15
 unfold headsE at hh
 rcases List.mem_append.1 hh with hh | hh
 ·obtain ⟨m, hm, rfl⟩ := List.mem_map.1 hh
  exact ⟨casesE true m, fun E _ _ _ => coverE true m, pick true m (List.mem_range.1 hm)⟩
 ·obtain ⟨m, hm, rfl⟩ := List.mem_map.1 hh
  exact ⟨casesE false m, fun E _ _ _ => coverE false m, pick false m (List.mem_range.1 hm)⟩)
noncomputable def loopE4 : Fr → X (SX × Fr) := liftB 100 loopE3
theorem loopE4_ok : LxOk G0 Try.prog (3, 0, loopE4) := lx_ok Try.func3 (c := bodyOf Try.f3) rfl (b := bodyE) (by kernel_rfl) (liftB_ok loopE3_ok)
noncomputable def bxE (pr : Bool) (K : List Nat) (pk : Bool) : List LX := cond pr [(9, 0, loop8 K)] [] ++ cond pk [(3, 0, loopE4)] []
noncomputable def funE (pr : Bool) (K : List Nat) (pk : Bool) : List SV → X SV := callF (tabJ []) (spOf spF) (bxOf (bxE pr K pk)) 400 12 3
theorem funE_ok {pr : Bool} {K : List Nat} {pk : Bool} (h : pr = true → ok8 K = true) : SpecOk G0 Try.prog 3 (funE pr K pk) := callF_ok (spOf_ok okSpF) (bxOf_ok (by
 intro y hy
 unfold bxE at hy
 rcases List.mem_append.1 hy with hy | hy
 ·cases pr with
  | false => cases hy
  | true =>
   rcases List.mem_singleton.1 hy with rfl
   exact loop8_ok (h rfl)
 ·cases pk with
  | false => cases hy
  | true =>
   rcases List.mem_singleton.1 hy with rfl
   exact loopE4_ok)) 400 12 3
end Go.Proofs.Ytjbhcmppjmmmiaa
