/- EpochRises: its loop by the rounds. -/
import Derived.Test.YtjbhcmppjmmmiaaNa
import Derived.Test.YtjbhcmppjmmmiaaNb
import Derived.Test.YtjbhcmppjmmmiaaZ
namespace Go.Proofs.Ytjbhcmppjmmmiaa
open Go.Sx Go
set_option maxRecDepth 100000
noncomputable def headsN : List HeadT := (List.range 8).map headN3
theorem memN {m : Nat} (h : m < 8) : headN3 m ∈ headsN := List.mem_map.2 ⟨m, List.mem_range.2 h, rfl⟩
theorem okN3_sub {m k t : Nat} (hn : ∀ x ∈ nextN m k, x < 8) (h : okN3 m k t = true) : headOkT (tabJ []) cxF (fun _ => none) none 400 0 bodyN 100 grpsN headsN [leaveN3] (headN3 m) (caseN m k) t = true :=
 headOkT_sub (fun x hx => by
  obtain ⟨y, hy, rfl⟩ := List.mem_map.1 hx
  exact memN (hn y hy)) h
theorem coverN {E : Env} (m : Nat) : ∃ c ∈ [caseN m 0, caseN m 1, caseN m 2], (∀ f ∈ c.fs, FactOk E f) ∧ ∀ b ∈ c.bs, evB E b = true := by
 have hv : 0 ≤ ev E (.bit .and .i64 (.sel 14 iN) (.lit 1023)) := by
  rw [ev_bit, ev_lit]
  exact (and_in .i64 _ 1023 (by decide) (by decide)).1
 have hr : 0 ≤ ev E (.rem (.bit .and .i64 (.sel 14 iN) (.lit 1023)) (.lit 3)) ∧ ev E (.rem (.bit .and .i64 (.sel 14 iN) (.lit 1023)) (.lit 3)) ≤ 2 := by
  rw [ev_rem, ev_lit, Int.tmod_eq_emod_of_nonneg hv]
  omega
 have use : ∀ k : Nat, ev E (.rem (.bit .and .i64 (.sel 14 iN) (.lit 1023)) (.lit 3)) = (k : Int) → (∀ f ∈ (caseN m k).fs, FactOk E f) ∧ ∀ b ∈ (caseN m k).bs, evB E b = true := fun k hk => ⟨fun f hf => by
  rcases List.mem_singleton.1 hf with rfl
  unfold FactOk kN
  dsimp only
  rw [hk]
  exact ⟨Int.le_refl _, Int.le_refl _⟩, fun b hb => by cases hb⟩
 rcases (by omega : ev E (.rem (.bit .and .i64 (.sel 14 iN) (.lit 1023)) (.lit 3)) = 0 ∨ ev E (.rem (.bit .and .i64 (.sel 14 iN) (.lit 1023)) (.lit 3)) = 1 ∨ ev E (.rem (.bit .and .i64 (.sel 14 iN) (.lit 1023)) (.lit 3)) = 2) with h | h | h
 ·exact ⟨_, List.mem_cons_self, use 0 h⟩
 ·exact ⟨_, List.mem_cons_of_mem _ List.mem_cons_self, use 1 h⟩
 ·exact ⟨_, List.mem_cons_of_mem _ (List.mem_cons_of_mem _ List.mem_cons_self), use 2 h⟩
theorem three {n : Nat} (h : n < Nat.max 1 3) : n = 0 ∨ n = 1 ∨ n = 2 := by
 have : n < 3 := h
 omega
theorem one {n : Nat} (h : n < 1) : n = 0 := by omega
theorem hN0 : ∀ c ∈ [caseN 0 0, caseN 0 1, caseN 0 2], ∀ t < nTem grpsN c, headOkT (tabJ []) cxF (fun _ => none) none 400 0 bodyN 100 grpsN headsN [leaveN3] (headN3 0) c t = true := by
 intro c hc t ht
 simp only [List.mem_cons, List.not_mem_nil, or_false] at hc
 rcases hc with rfl | rfl | rfl
 ·obtain rfl := one ht
  exact okN3_sub (m := 0) (k := 0) (by decide) n000
 ·obtain rfl := one ht
  exact okN3_sub (m := 0) (k := 1) (by decide) n010
 ·obtain rfl := one ht
  exact okN3_sub (m := 0) (k := 2) (by decide) n020
theorem hN1 : ∀ c ∈ [caseN 1 0, caseN 1 1, caseN 1 2], ∀ t < nTem grpsN c, headOkT (tabJ []) cxF (fun _ => none) none 400 0 bodyN 100 grpsN headsN [leaveN3] (headN3 1) c t = true := by
 intro c hc t ht
 simp only [List.mem_cons, List.not_mem_nil, or_false] at hc
 rcases hc with rfl | rfl | rfl
 ·rcases three ht with rfl | rfl | rfl
  ·exact okN3_sub (m := 1) (k := 0) (by decide) n100
  ·exact okN3_sub (m := 1) (k := 0) (by decide) n101
  ·exact okN3_sub (m := 1) (k := 0) (by decide) n102
 ·obtain rfl := one ht
  exact okN3_sub (m := 1) (k := 1) (by decide) n110
 ·obtain rfl := one ht
  exact okN3_sub (m := 1) (k := 2) (by decide) n120
theorem hN2 : ∀ c ∈ [caseN 2 0, caseN 2 1, caseN 2 2], ∀ t < nTem grpsN c, headOkT (tabJ []) cxF (fun _ => none) none 400 0 bodyN 100 grpsN headsN [leaveN3] (headN3 2) c t = true := by
 intro c hc t ht
 simp only [List.mem_cons, List.not_mem_nil, or_false] at hc
 rcases hc with rfl | rfl | rfl
 ·obtain rfl := one ht
  exact okN3_sub (m := 2) (k := 0) (by decide) n200
 ·rcases three ht with rfl | rfl | rfl
  ·exact okN3_sub (m := 2) (k := 1) (by decide) n210
  ·exact okN3_sub (m := 2) (k := 1) (by decide) n211
  ·exact okN3_sub (m := 2) (k := 1) (by decide) n212
 ·obtain rfl := one ht
  exact okN3_sub (m := 2) (k := 2) (by decide) n220
theorem hN3 : ∀ c ∈ [caseN 3 0, caseN 3 1, caseN 3 2], ∀ t < nTem grpsN c, headOkT (tabJ []) cxF (fun _ => none) none 400 0 bodyN 100 grpsN headsN [leaveN3] (headN3 3) c t = true := by
 intro c hc t ht
 simp only [List.mem_cons, List.not_mem_nil, or_false] at hc
 rcases hc with rfl | rfl | rfl
 ·rcases three ht with rfl | rfl | rfl
  ·exact okN3_sub (m := 3) (k := 0) (by decide) n300
  ·exact okN3_sub (m := 3) (k := 0) (by decide) n301
  ·exact okN3_sub (m := 3) (k := 0) (by decide) n302
 ·rcases three ht with rfl | rfl | rfl
  ·exact okN3_sub (m := 3) (k := 1) (by decide) n310
  ·exact okN3_sub (m := 3) (k := 1) (by decide) n311
  ·exact okN3_sub (m := 3) (k := 1) (by decide) n312
 ·obtain rfl := one ht
  exact okN3_sub (m := 3) (k := 2) (by decide) n320
theorem hN4 : ∀ c ∈ [caseN 4 0, caseN 4 1, caseN 4 2], ∀ t < nTem grpsN c, headOkT (tabJ []) cxF (fun _ => none) none 400 0 bodyN 100 grpsN headsN [leaveN3] (headN3 4) c t = true := by
 intro c hc t ht
 simp only [List.mem_cons, List.not_mem_nil, or_false] at hc
 rcases hc with rfl | rfl | rfl
 ·obtain rfl := one ht
  exact okN3_sub (m := 4) (k := 0) (by decide) n400
 ·obtain rfl := one ht
  exact okN3_sub (m := 4) (k := 1) (by decide) n410
 ·rcases three ht with rfl | rfl | rfl
  ·exact okN3_sub (m := 4) (k := 2) (by decide) n420
  ·exact okN3_sub (m := 4) (k := 2) (by decide) n421
  ·exact okN3_sub (m := 4) (k := 2) (by decide) n422
theorem hN5 : ∀ c ∈ [caseN 5 0, caseN 5 1, caseN 5 2], ∀ t < nTem grpsN c, headOkT (tabJ []) cxF (fun _ => none) none 400 0 bodyN 100 grpsN headsN [leaveN3] (headN3 5) c t = true := by
 intro c hc t ht
 simp only [List.mem_cons, List.not_mem_nil, or_false] at hc
 rcases hc with rfl | rfl | rfl
 ·rcases three ht with rfl | rfl | rfl
  ·exact okN3_sub (m := 5) (k := 0) (by decide) n500
  ·exact okN3_sub (m := 5) (k := 0) (by decide) n501
  ·exact okN3_sub (m := 5) (k := 0) (by decide) n502
 ·obtain rfl := one ht
  exact okN3_sub (m := 5) (k := 1) (by decide) n510
 ·rcases three ht with rfl | rfl | rfl
  ·exact okN3_sub (m := 5) (k := 2) (by decide) n520
  ·exact okN3_sub (m := 5) (k := 2) (by decide) n521
  ·exact okN3_sub (m := 5) (k := 2) (by decide) n522
theorem hN6 : ∀ c ∈ [caseN 6 0, caseN 6 1, caseN 6 2], ∀ t < nTem grpsN c, headOkT (tabJ []) cxF (fun _ => none) none 400 0 bodyN 100 grpsN headsN [leaveN3] (headN3 6) c t = true := by
 intro c hc t ht
 simp only [List.mem_cons, List.not_mem_nil, or_false] at hc
 rcases hc with rfl | rfl | rfl
 ·obtain rfl := one ht
  exact okN3_sub (m := 6) (k := 0) (by decide) n600
 ·rcases three ht with rfl | rfl | rfl
  ·exact okN3_sub (m := 6) (k := 1) (by decide) n610
  ·exact okN3_sub (m := 6) (k := 1) (by decide) n611
  ·exact okN3_sub (m := 6) (k := 1) (by decide) n612
 ·rcases three ht with rfl | rfl | rfl
  ·exact okN3_sub (m := 6) (k := 2) (by decide) n620
  ·exact okN3_sub (m := 6) (k := 2) (by decide) n621
  ·exact okN3_sub (m := 6) (k := 2) (by decide) n622
theorem hN7 : ∀ c ∈ [caseN 7 0, caseN 7 1, caseN 7 2], ∀ t < nTem grpsN c, headOkT (tabJ []) cxF (fun _ => none) none 400 0 bodyN 100 grpsN headsN [leaveN3] (headN3 7) c t = true := by
 intro c hc t ht
 simp only [List.mem_cons, List.not_mem_nil, or_false] at hc
 rcases hc with rfl | rfl | rfl
 ·rcases three ht with rfl | rfl | rfl
  ·exact okN3_sub (m := 7) (k := 0) (by decide) n700
  ·exact okN3_sub (m := 7) (k := 0) (by decide) n701
  ·exact okN3_sub (m := 7) (k := 0) (by decide) n702
 ·rcases three ht with rfl | rfl | rfl
  ·exact okN3_sub (m := 7) (k := 1) (by decide) n710
  ·exact okN3_sub (m := 7) (k := 1) (by decide) n711
  ·exact okN3_sub (m := 7) (k := 1) (by decide) n712
 ·rcases three ht with rfl | rfl | rfl
  ·exact okN3_sub (m := 7) (k := 2) (by decide) n720
  ·exact okN3_sub (m := 7) (k := 2) (by decide) n721
  ·exact okN3_sub (m := 7) (k := 2) (by decide) n722
noncomputable def loopN3 : Fr → X (SX × Fr) := loopT 100 grpsN headsN [leaveN3]
theorem loopN3_ok : CodeOk G0 Try.prog (.block 0 (.loop bodyN)) loopN3 := loopT_ok (T := tabJ []) (cx := cxF) cxF_ok (jm := none) (fuel := 400) (noBlocks_ok _ _) (fun h hh => by
 obtain ⟨m, hm, rfl⟩ := List.mem_map.1 hh
 have hm := List.mem_range.1 hm
 refine ⟨[caseN m 0, caseN m 1, caseN m 2], fun E _ _ _ => coverN m, ?_⟩
 rcases (by omega : m = 0 ∨ m = 1 ∨ m = 2 ∨ m = 3 ∨ m = 4 ∨ m = 5 ∨ m = 6 ∨ m = 7) with rfl | rfl | rfl | rfl | rfl | rfl | rfl | rfl
 ·exact hN0
 ·exact hN1
 ·exact hN2
 ·exact hN3
 ·exact hN4
 ·exact hN5
 ·exact hN6
 ·exact hN7)
noncomputable def loopN4 : Fr → X (SX × Fr) := zeroB 29 (zeroB 30 (zeroB 31 (liftB 100 loopN3)))
theorem loopN4_ok : LxOk G0 Try.prog (8, 0, loopN4) := lx_ok Try.func8 (c := bodyOf Try.f8) rfl (b := bodyN) (by kernel_rfl) (zeroB_ok (zeroB_ok (zeroB_ok (liftB_ok loopN3_ok))))
noncomputable def bxN (b : Bool) : List LX := cond b [(8, 0, loopN4)] []
noncomputable def funN (b : Bool) : List SV → X SV := callF (tabJ []) (spOf spF) (bxOf (bxN b)) 400 12 8
theorem funN_ok (b : Bool) : SpecOk G0 Try.prog 8 (funN b) := callF_ok (spOf_ok okSpF) (bxOf_ok (by
 intro y hy
 cases b with
 | false => cases hy
 | true =>
  rcases List.mem_singleton.1 hy with rfl
  exact loopN4_ok)) 400 12 8
theorem rnn : allOf (funN false [.nils] (slMem [] [] 60)) isTrue = true := by kernel_rfl
theorem rns : allOf (funN true [slW 10] (slMem [enW 10] (faW 10) 60)) isTrue = true := by kernel_rfl
end Go.Proofs.Ytjbhcmppjmmmiaa
