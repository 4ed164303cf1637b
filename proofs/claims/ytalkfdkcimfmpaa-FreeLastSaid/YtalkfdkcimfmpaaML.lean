/- FreeLast: its loop by the rounds. -/
import Derived.Test.YtalkfdkcimfmpaaMa
import Derived.Test.YtalkfdkcimfmpaaMb
import Derived.Test.YtalkfdkcimfmpaaMc
import Derived.Test.YtalkfdkcimfmpaaMd
namespace Go.Proofs.Ytalkfdkcimfmpaa
open Go.Sx Go
set_option maxRecDepth 100000
noncomputable def allL : List HeadP := (List.range 15).map headM
theorem headOk_sub {P : Program} {T : Tab P} {cx : CX} {bx : BX} {jm : Option Nat} {fuel id : Nat} {body : Code} {n : Nat} {hs hs' : List HeadP} {ls : List LeaveP} {h : HeadP} (hsub : ∀ x ∈ hs, x ∈ hs') (hk : headOk T cx bx jm fuel id body n hs ls h = true) : headOk T cx bx jm fuel id body n hs' ls h = true := by
 unfold headOk at hk ⊢
 split at hk
 ·cases hk
 rename_i outs hr
 rw [List.all_eq_true] at hk ⊢
 intro q hq
 have h1 := hk q hq
 revert h1
 split
 ·exact anyS_sub hsub
 ·exact fun h => h
theorem okL_sub {g : Nat} (hg : g < 15) {h : HeadP} {c : List Fact} (ho : okL [headM g] h c = true) : okL allL h c = true := headOk_sub (fun x hx => by
 rcases List.mem_singleton.1 hx with rfl
 exact List.mem_map.2 ⟨g, List.mem_range.2 hg, rfl⟩) ho
noncomputable def casesL (m : Nat) : List (List Fact) := [bitF 0] :: (List.range m).map fun k => [bitF 1, kL m k]
theorem coverL {E : Env} {m : Nat} (hm : 0 < m) : ∃ c ∈ casesL m, ∀ f ∈ c, FactOk E f := by
 have hb : 0 ≤ ev E (.bit .and .i64 (.sel 14 iL) (.lit 1)) ∧ ev E (.bit .and .i64 (.sel 14 iL) (.lit 1)) ≤ 1 := by
  rw [ev_bit, ev_lit]
  exact and_in .i64 _ 1 (by decide) (by decide)
 have hv : 0 ≤ ev E (.bit .and .i64 (.shr (.sel 14 iL) 1) (.lit 1023)) := by
  rw [ev_bit, ev_lit]
  exact (and_in .i64 _ 1023 (by decide) (by decide)).1
 have hr : ev E (.rem (.bit .and .i64 (.shr (.sel 14 iL) 1) (.lit 1023)) (.lit (.ofNat m))) = ev E (.bit .and .i64 (.shr (.sel 14 iL) 1) (.lit 1023)) % (m : Int) := by
  rw [ev_rem, ev_lit, Int.tmod_eq_emod_of_nonneg hv]
  rfl
 have h0 := Int.emod_nonneg (ev E (.bit .and .i64 (.shr (.sel 14 iL) 1) (.lit 1023))) (b := (m : Int)) (by omega)
 have h1 := Int.emod_lt_of_pos (ev E (.bit .and .i64 (.shr (.sel 14 iL) 1) (.lit 1023))) (b := (m : Int)) (by omega)
 rw [← hr] at h0 h1
 by_cases hz : ev E (.bit .and .i64 (.sel 14 iL) (.lit 1)) = 0
 ·refine ⟨[bitF 0], List.mem_cons_self, fun f hf => ?_⟩
  rcases List.mem_singleton.1 hf with rfl
  unfold FactOk bitF
  dsimp only
  omega
 ·refine ⟨[bitF 1, kL m (ev E (.rem (.bit .and .i64 (.shr (.sel 14 iL) 1) (.lit 1023)) (.lit (.ofNat m)))).toNat], List.mem_cons_of_mem _ (List.mem_map.2 ⟨_, List.mem_range.2 (by omega), rfl⟩), fun f hf => ?_⟩
  simp only [List.mem_cons, List.not_mem_nil, or_false] at hf
  rcases hf with rfl | rfl
  ·unfold FactOk bitF
   dsimp only
   omega
  ·unfold FactOk kL
   dsimp only
   rw [show (Int.ofNat (ev E (.rem (.bit .and .i64 (.shr (.sel 14 iL) 1) (.lit 1023)) (.lit (.ofNat m)))).toNat : Int) = ev E (.rem (.bit .and .i64 (.shr (.sel 14 iL) 1) (.lit 1023)) (.lit (.ofNat m))) from Int.toNat_of_nonneg h0]
   omega
theorem hL0 : ∀ c ∈ casesL 12, okL allL (headM 0) c = true := by
 intro c hc
 rcases List.mem_cons.1 hc with rfl | hc
 ·exact okL_sub (by decide : 0 < 15) m0p
 obtain ⟨k, hk, rfl⟩ := List.mem_map.1 hc
 have hk := List.mem_range.1 hk
 rcases (by omega : k = 0 ∨ k = 1 ∨ k = 2 ∨ k = 3 ∨ k = 4 ∨ k = 5 ∨ k = 6 ∨ k = 7 ∨ k = 8 ∨ k = 9 ∨ k = 10 ∨ k = 11) with rfl | rfl | rfl | rfl | rfl | rfl | rfl | rfl | rfl | rfl | rfl | rfl
 ·exact okL_sub (by decide : 14 < 15) m0u0
 ·exact okL_sub (by decide : 14 < 15) m0u1
 ·exact okL_sub (by decide : 14 < 15) m0u2
 ·exact okL_sub (by decide : 14 < 15) m0u3
 ·exact okL_sub (by decide : 14 < 15) m0u4
 ·exact okL_sub (by decide : 14 < 15) m0u5
 ·exact okL_sub (by decide : 14 < 15) m0u6
 ·exact okL_sub (by decide : 14 < 15) m0u7
 ·exact okL_sub (by decide : 14 < 15) m0u8
 ·exact okL_sub (by decide : 14 < 15) m0u9
 ·exact okL_sub (by decide : 14 < 15) m0u10
 ·exact okL_sub (by decide : 14 < 15) m0u11
theorem hL1 : ∀ c ∈ casesL 11, okL allL (headM 1) c = true := by
 intro c hc
 rcases List.mem_cons.1 hc with rfl | hc
 ·exact okL_sub (by decide : 0 < 15) m1p
 obtain ⟨k, hk, rfl⟩ := List.mem_map.1 hc
 have hk := List.mem_range.1 hk
 rcases (by omega : k = 0 ∨ k = 1 ∨ k = 2 ∨ k = 3 ∨ k = 4 ∨ k = 5 ∨ k = 6 ∨ k = 7 ∨ k = 8 ∨ k = 9 ∨ k = 10) with rfl | rfl | rfl | rfl | rfl | rfl | rfl | rfl | rfl | rfl | rfl
 ·exact okL_sub (by decide : 2 < 15) m1u0
 ·exact okL_sub (by decide : 2 < 15) m1u1
 ·exact okL_sub (by decide : 2 < 15) m1u2
 ·exact okL_sub (by decide : 2 < 15) m1u3
 ·exact okL_sub (by decide : 2 < 15) m1u4
 ·exact okL_sub (by decide : 2 < 15) m1u5
 ·exact okL_sub (by decide : 2 < 15) m1u6
 ·exact okL_sub (by decide : 2 < 15) m1u7
 ·exact okL_sub (by decide : 2 < 15) m1u8
 ·exact okL_sub (by decide : 2 < 15) m1u9
 ·exact okL_sub (by decide : 2 < 15) m1u10
theorem hL2 : ∀ c ∈ casesL 10, okL allL (headM 2) c = true := by
 intro c hc
 rcases List.mem_cons.1 hc with rfl | hc
 ·exact okL_sub (by decide : 1 < 15) m2p
 obtain ⟨k, hk, rfl⟩ := List.mem_map.1 hc
 have hk := List.mem_range.1 hk
 rcases (by omega : k = 0 ∨ k = 1 ∨ k = 2 ∨ k = 3 ∨ k = 4 ∨ k = 5 ∨ k = 6 ∨ k = 7 ∨ k = 8 ∨ k = 9) with rfl | rfl | rfl | rfl | rfl | rfl | rfl | rfl | rfl | rfl
 ·exact okL_sub (by decide : 3 < 15) m2u0
 ·exact okL_sub (by decide : 3 < 15) m2u1
 ·exact okL_sub (by decide : 3 < 15) m2u2
 ·exact okL_sub (by decide : 3 < 15) m2u3
 ·exact okL_sub (by decide : 3 < 15) m2u4
 ·exact okL_sub (by decide : 3 < 15) m2u5
 ·exact okL_sub (by decide : 3 < 15) m2u6
 ·exact okL_sub (by decide : 3 < 15) m2u7
 ·exact okL_sub (by decide : 3 < 15) m2u8
 ·exact okL_sub (by decide : 3 < 15) m2u9
theorem hL3 : ∀ c ∈ casesL 9, okL allL (headM 3) c = true := by
 intro c hc
 rcases List.mem_cons.1 hc with rfl | hc
 ·exact okL_sub (by decide : 2 < 15) m3p
 obtain ⟨k, hk, rfl⟩ := List.mem_map.1 hc
 have hk := List.mem_range.1 hk
 rcases (by omega : k = 0 ∨ k = 1 ∨ k = 2 ∨ k = 3 ∨ k = 4 ∨ k = 5 ∨ k = 6 ∨ k = 7 ∨ k = 8) with rfl | rfl | rfl | rfl | rfl | rfl | rfl | rfl | rfl
 ·exact okL_sub (by decide : 4 < 15) m3u0
 ·exact okL_sub (by decide : 4 < 15) m3u1
 ·exact okL_sub (by decide : 4 < 15) m3u2
 ·exact okL_sub (by decide : 4 < 15) m3u3
 ·exact okL_sub (by decide : 4 < 15) m3u4
 ·exact okL_sub (by decide : 4 < 15) m3u5
 ·exact okL_sub (by decide : 4 < 15) m3u6
 ·exact okL_sub (by decide : 4 < 15) m3u7
 ·exact okL_sub (by decide : 4 < 15) m3u8
theorem hL4 : ∀ c ∈ casesL 8, okL allL (headM 4) c = true := by
 intro c hc
 rcases List.mem_cons.1 hc with rfl | hc
 ·exact okL_sub (by decide : 3 < 15) m4p
 obtain ⟨k, hk, rfl⟩ := List.mem_map.1 hc
 have hk := List.mem_range.1 hk
 rcases (by omega : k = 0 ∨ k = 1 ∨ k = 2 ∨ k = 3 ∨ k = 4 ∨ k = 5 ∨ k = 6 ∨ k = 7) with rfl | rfl | rfl | rfl | rfl | rfl | rfl | rfl
 ·exact okL_sub (by decide : 5 < 15) m4u0
 ·exact okL_sub (by decide : 5 < 15) m4u1
 ·exact okL_sub (by decide : 5 < 15) m4u2
 ·exact okL_sub (by decide : 5 < 15) m4u3
 ·exact okL_sub (by decide : 5 < 15) m4u4
 ·exact okL_sub (by decide : 5 < 15) m4u5
 ·exact okL_sub (by decide : 5 < 15) m4u6
 ·exact okL_sub (by decide : 5 < 15) m4u7
theorem hL5 : ∀ c ∈ casesL 7, okL allL (headM 5) c = true := by
 intro c hc
 rcases List.mem_cons.1 hc with rfl | hc
 ·exact okL_sub (by decide : 4 < 15) m5p
 obtain ⟨k, hk, rfl⟩ := List.mem_map.1 hc
 have hk := List.mem_range.1 hk
 rcases (by omega : k = 0 ∨ k = 1 ∨ k = 2 ∨ k = 3 ∨ k = 4 ∨ k = 5 ∨ k = 6) with rfl | rfl | rfl | rfl | rfl | rfl | rfl
 ·exact okL_sub (by decide : 6 < 15) m5u0
 ·exact okL_sub (by decide : 6 < 15) m5u1
 ·exact okL_sub (by decide : 6 < 15) m5u2
 ·exact okL_sub (by decide : 6 < 15) m5u3
 ·exact okL_sub (by decide : 6 < 15) m5u4
 ·exact okL_sub (by decide : 6 < 15) m5u5
 ·exact okL_sub (by decide : 6 < 15) m5u6
theorem hL6 : ∀ c ∈ casesL 6, okL allL (headM 6) c = true := by
 intro c hc
 rcases List.mem_cons.1 hc with rfl | hc
 ·exact okL_sub (by decide : 5 < 15) m6p
 obtain ⟨k, hk, rfl⟩ := List.mem_map.1 hc
 have hk := List.mem_range.1 hk
 rcases (by omega : k = 0 ∨ k = 1 ∨ k = 2 ∨ k = 3 ∨ k = 4 ∨ k = 5) with rfl | rfl | rfl | rfl | rfl | rfl
 ·exact okL_sub (by decide : 7 < 15) m6u0
 ·exact okL_sub (by decide : 7 < 15) m6u1
 ·exact okL_sub (by decide : 7 < 15) m6u2
 ·exact okL_sub (by decide : 7 < 15) m6u3
 ·exact okL_sub (by decide : 7 < 15) m6u4
 ·exact okL_sub (by decide : 7 < 15) m6u5
theorem hL7 : ∀ c ∈ casesL 5, okL allL (headM 7) c = true := by
 intro c hc
 rcases List.mem_cons.1 hc with rfl | hc
 ·exact okL_sub (by decide : 6 < 15) m7p
 obtain ⟨k, hk, rfl⟩ := List.mem_map.1 hc
 have hk := List.mem_range.1 hk
 rcases (by omega : k = 0 ∨ k = 1 ∨ k = 2 ∨ k = 3 ∨ k = 4) with rfl | rfl | rfl | rfl | rfl
 ·exact okL_sub (by decide : 8 < 15) m7u0
 ·exact okL_sub (by decide : 8 < 15) m7u1
 ·exact okL_sub (by decide : 8 < 15) m7u2
 ·exact okL_sub (by decide : 8 < 15) m7u3
 ·exact okL_sub (by decide : 8 < 15) m7u4
theorem hL8 : ∀ c ∈ casesL 4, okL allL (headM 8) c = true := by
 intro c hc
 rcases List.mem_cons.1 hc with rfl | hc
 ·exact okL_sub (by decide : 7 < 15) m8p
 obtain ⟨k, hk, rfl⟩ := List.mem_map.1 hc
 have hk := List.mem_range.1 hk
 rcases (by omega : k = 0 ∨ k = 1 ∨ k = 2 ∨ k = 3) with rfl | rfl | rfl | rfl
 ·exact okL_sub (by decide : 9 < 15) m8u0
 ·exact okL_sub (by decide : 9 < 15) m8u1
 ·exact okL_sub (by decide : 9 < 15) m8u2
 ·exact okL_sub (by decide : 9 < 15) m8u3
theorem hL9 : ∀ c ∈ casesL 3, okL allL (headM 9) c = true := by
 intro c hc
 rcases List.mem_cons.1 hc with rfl | hc
 ·exact okL_sub (by decide : 8 < 15) m9p
 obtain ⟨k, hk, rfl⟩ := List.mem_map.1 hc
 have hk := List.mem_range.1 hk
 rcases (by omega : k = 0 ∨ k = 1 ∨ k = 2) with rfl | rfl | rfl
 ·exact okL_sub (by decide : 10 < 15) m9u0
 ·exact okL_sub (by decide : 10 < 15) m9u1
 ·exact okL_sub (by decide : 10 < 15) m9u2
theorem hL10 : ∀ c ∈ casesL 2, okL allL (headM 10) c = true := by
 intro c hc
 rcases List.mem_cons.1 hc with rfl | hc
 ·exact okL_sub (by decide : 9 < 15) m10p
 obtain ⟨k, hk, rfl⟩ := List.mem_map.1 hc
 have hk := List.mem_range.1 hk
 rcases (by omega : k = 0 ∨ k = 1) with rfl | rfl
 ·exact okL_sub (by decide : 11 < 15) m10u0
 ·exact okL_sub (by decide : 11 < 15) m10u1
theorem hL11 : ∀ c ∈ casesL 1, okL allL (headM 11) c = true := by
 intro c hc
 rcases List.mem_cons.1 hc with rfl | hc
 ·exact okL_sub (by decide : 10 < 15) m11p
 obtain ⟨k, hk, rfl⟩ := List.mem_map.1 hc
 have hk := List.mem_range.1 hk
 obtain rfl : k = 0 := by omega
 exact okL_sub (by decide : 12 < 15) m11u0
theorem hL14 : ∀ c ∈ casesL 11, okL allL (headM 14) c = true := by
 intro c hc
 rcases List.mem_cons.1 hc with rfl | hc
 ·exact okL_sub (by decide : 0 < 15) m14p
 obtain ⟨k, hk, rfl⟩ := List.mem_map.1 hc
 have hk := List.mem_range.1 hk
 rcases (by omega : k = 0 ∨ k = 1 ∨ k = 2 ∨ k = 3 ∨ k = 4 ∨ k = 5 ∨ k = 6 ∨ k = 7 ∨ k = 8 ∨ k = 9 ∨ k = 10) with rfl | rfl | rfl | rfl | rfl | rfl | rfl | rfl | rfl | rfl | rfl
 ·exact okL_sub (by decide : 2 < 15) m14u0
 ·exact okL_sub (by decide : 2 < 15) m14u1
 ·exact okL_sub (by decide : 2 < 15) m14u2
 ·exact okL_sub (by decide : 2 < 15) m14u3
 ·exact okL_sub (by decide : 2 < 15) m14u4
 ·exact okL_sub (by decide : 2 < 15) m14u5
 ·exact okL_sub (by decide : 2 < 15) m14u6
 ·exact okL_sub (by decide : 2 < 15) m14u7
 ·exact okL_sub (by decide : 2 < 15) m14u8
 ·exact okL_sub (by decide : 2 < 15) m14u9
 ·exact okL_sub (by decide : 2 < 15) m14u10
def row0 : List Int := 12 :: ([4, 8, 12, 16, 20, 24, 28, 32, 36, 40, 44, 48, 0] ++ [0, 1, 2, 3, 4, 5, 6, 7, 8, 9, 10, 11])
noncomputable def ghost0 : Fact := (.app 760 (argsE (row0.map IE.lit)), 1, 1)
theorem ghost0_ok (E : Env) (hgf : E.f = G0) : FactOk E ghost0 := by
 have h : ev E (.app 760 (argsE (row0.map IE.lit))) = 1 := by
  rw [ev_app, argsE_ev, hgf, List.map_map]
  have e : row0.map (ev E ∘ IE.lit) = row0 := rfl
  rw [e]
  refine f760_of ⟨by decide +kernel, by decide +kernel, by decide +kernel, by decide +kernel⟩
 unfold FactOk ghost0
 dsimp only
 omega
noncomputable def loopLc : Fr → X (SX × Fr) := liftB 100 (factB [ghost0] (loopP 100 allL [leaveL]))
theorem loopL_all : CodeOk G0 Try.prog (.block 0 (.loop bodyL)) loopLc := liftB_ok (factB_ok (loopPc_ok (T := tabJ []) (cx := cxL) cxL_ok (jm := none) (fuel := 400) (noBlocks_ok _ _) (fun h hh => by
 obtain ⟨n, hn, rfl⟩ := List.mem_map.1 hh
 have hn := List.mem_range.1 hn
 rcases (by omega : n = 0 ∨ n = 1 ∨ n = 2 ∨ n = 3 ∨ n = 4 ∨ n = 5 ∨ n = 6 ∨ n = 7 ∨ n = 8 ∨ n = 9 ∨ n = 10 ∨ n = 11 ∨ n = 12 ∨ n = 13 ∨ n = 14) with rfl | rfl | rfl | rfl | rfl | rfl | rfl | rfl | rfl | rfl | rfl | rfl | rfl | rfl | rfl
 ·exact ⟨casesL 12, fun _ _ _ => coverL (by decide), hL0⟩
 ·exact ⟨casesL 11, fun _ _ _ => coverL (by decide), hL1⟩
 ·exact ⟨casesL 10, fun _ _ _ => coverL (by decide), hL2⟩
 ·exact ⟨casesL 9, fun _ _ _ => coverL (by decide), hL3⟩
 ·exact ⟨casesL 8, fun _ _ _ => coverL (by decide), hL4⟩
 ·exact ⟨casesL 7, fun _ _ _ => coverL (by decide), hL5⟩
 ·exact ⟨casesL 6, fun _ _ _ => coverL (by decide), hL6⟩
 ·exact ⟨casesL 5, fun _ _ _ => coverL (by decide), hL7⟩
 ·exact ⟨casesL 4, fun _ _ _ => coverL (by decide), hL8⟩
 ·exact ⟨casesL 3, fun _ _ _ => coverL (by decide), hL9⟩
 ·exact ⟨casesL 2, fun _ _ _ => coverL (by decide), hL10⟩
 ·exact ⟨casesL 1, fun _ _ _ => coverL (by decide), hL11⟩
 ·exact ⟨[[]], fun _ _ _ => ⟨[], List.mem_singleton_self _, fun _ h => absurd h List.not_mem_nil⟩, fun c hc => by
   rcases List.mem_singleton.1 hc with rfl
   exact okL_sub (by decide : 11 < 15) m12p⟩
 ·exact ⟨[[]], fun _ _ _ => ⟨[], List.mem_singleton_self _, fun _ h => absurd h List.not_mem_nil⟩, fun c hc => by
   rcases List.mem_singleton.1 hc with rfl
   exact okL_sub (by decide : 11 < 15) m13p⟩
 ·exact ⟨casesL 11, fun _ _ _ => coverL (by decide), hL14⟩)) (fun E hgf f hf => by
 rcases List.mem_singleton.1 hf with rfl
 exact ghost0_ok E hgf))
noncomputable def funLst : List SV → X SV := callF (tabJ []) (spOf spL) (bxOf [(6, 0, loopLc)]) 400 12 6
theorem funLst_ok : SpecOk G0 Try.prog 6 funLst := callF_ok (spOf_ok okSpL) (bxOf_ok (by
 intro y hy
 rcases List.mem_singleton.1 hy with rfl
 exact lx_ok Try.func6 (c := bodyOf Try.f6) rfl (b := bodyL) (by kernel_rfl) loopL_all)) 400 12 6
theorem last_run : allOf (funLst [slW 10] (slMem [enW 10] (faW 10) 60)) isTrue = true := by kernel_rfl
theorem last_nil : allOf (funL spF 6 [.nils] (slMem [] [] 60)) isTrue = true := by kernel_rfl
end Go.Proofs.Ytalkfdkcimfmpaa
