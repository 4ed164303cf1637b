/- an account's operation upon a view of an image. -/
import Derived.Test.YtojpmbkbeoolcaaJ
namespace Go.Proofs.Ytojpmbkbeoolcaa
open Go.Sx Go
set_option maxRecDepth 100000
theorem dl_trues (E : Env) : ∀ (n : Nat) (r : SV), dl E (truesV n r) = List.replicate n (Value.bool true) ++ dl E r
 | 0, _ => rfl
 | n + 1, r => by
  show [Value.bool true] ++ dl E (truesV n r) = _
  rw [dl_trues E n r]
  rfl
theorem dv_viewI (E : Env) : dv E (viewT .nil) = imgVal (K.row16 E 6) (K.row16 E 7) := by
 unfold viewT imgVal
 show Value.agg (dl E (truesV 16 _)).toArray = _
 rw [dl_trues]
 simp only [dl, arrCells, ev_lit, wsVal, K.row16, List.map_map, List.append_nil]
 rfl
theorem dv_askI (E : Env) (now rest : SV) (v : Value) (hr : dl E rest = [v]) : dv E (askT now rest) = K.askVal (-1) trues (K.row16 E 6) ((List.range 16).map fun j => wsVal E 7 now j) v := by
 unfold askT dv K.askVal
 simp only [dl, dl_trues, hr, arrCells, ev_lit, List.headD_cons, List.nil_append, List.append_nil, List.cons_append]
 simp only [wsVal, K.row16, List.map_map]
 rfl
theorem bit_dec {z : Int} (h : Bit z) : (if decide (z = 1) then (1 : Int) else 0) = z := by
 rcases h with rfl | rfl <;> rfl
section
variable {k a b x : Int}
theorem key_bank (h5 : k ≤ 5) {B Kf : Int → Int} {i : Nat} (hi : 6 ≤ i) : quantZ B Kf x i k a b = Kf ((i : Int) - 6) := by
 unfold quantZ keyZ
 rw [if_neg (by omega), if_neg (by omega), if_neg (by omega), if_neg (by omega), if_neg (by omega)]
theorem next_bank (h5 : k ≤ 5) {a0 a1 a2 a3 : Int} {xs : List Int} (hxs : xs ∈ cfgs) : nextOf (ysOf a0 a1 a2 a3 xs k a b x) xs k a b x = xs := by
 have hb := cfg_bit hxs
 have hn := cfg_nrm hxs
 obtain ⟨e0, e1, e2, e3, e4, g0, g1, g2, g3, g4, rfl⟩ := len10 (cfg_len hxs)
 have he : ∀ j, j < 5 → G0 (306 + j) (ysOf a0 a1 a2 a3 [e0, e1, e2, e3, e4, g0, g1, g2, g3, g4] k a b x) = ([e0, e1, e2, e3, e4, g0, g1, g2, g3, g4] : List Int).getD j 0 := fun j hj => by
  rw [show 306 + j = 300 + (6 + j) by omega, G0_key (by omega) (by omega), tell_ys, key_bank h5 (by omega)]
  unfold KX
  rw [show (((6 + j : Nat) : Int) - 6).toNat = j by omega]
  match j, hj with
  | 0, _ => show (if (if decide (e0 = 1) then (1 : Int) else 0) = 1 then (1 : Int) else 0) = e0; rw [bit_dec (hb e0 (by simp))]; rcases hb e0 (by simp) with h | h <;> rw [h] <;> rfl
  | 1, _ => show (if (if decide (e1 = 1) then (1 : Int) else 0) = 1 then (1 : Int) else 0) = e1; rw [bit_dec (hb e1 (by simp))]; rcases hb e1 (by simp) with h | h <;> rw [h] <;> rfl
  | 2, _ => show (if (if decide (e2 = 1) then (1 : Int) else 0) = 1 then (1 : Int) else 0) = e2; rw [bit_dec (hb e2 (by simp))]; rcases hb e2 (by simp) with h | h <;> rw [h] <;> rfl
  | 3, _ => show (if (if decide (e3 = 1) then (1 : Int) else 0) = 1 then (1 : Int) else 0) = e3; rw [bit_dec (hb e3 (by simp))]; rcases hb e3 (by simp) with h | h <;> rw [h] <;> rfl
  | 4, _ => show (if (if decide (e4 = 1) then (1 : Int) else 0) = 1 then (1 : Int) else 0) = e4; rw [bit_dec (hb e4 (by simp))]; rcases hb e4 (by simp) with h | h <;> rw [h] <;> rfl
 have hh : ∀ j, j < 5 → G0 (460 + j) ([e0, e1, e2, e3, e4, g0, g1, g2, g3, g4] ++ [k, a, b, x]) = ([e0, e1, e2, e3, e4, g0, g1, g2, g3, g4] : List Int).getD (5 + j) 0 := fun j hj => by
  unfold G0
  rw [if_neg (by omega), if_neg (by omega), if_neg (by omega), if_neg (by omega), if_pos (by omega)]
  rw [show (([e0, e1, e2, e3, e4, g0, g1, g2, g3, g4] ++ [k, a, b, x]).take 10) = [e0, e1, e2, e3, e4, g0, g1, g2, g3, g4] from rfl, hn]
  have hz : highZ ([e0, e1, e2, e3, e4, g0, g1, g2, g3, g4] ++ ([e0, e1, e2, e3, e4, g0, g1, g2, g3, g4] ++ [k, a, b, x]).drop 10) (((460 + j : Nat) : Int) - 460) = ([e0, e1, e2, e3, e4, g0, g1, g2, g3, g4, k, a, b, x] : List Int).getD (5 + j) 0 := by
   rw [show ((460 + j : Nat) : Int) - 460 = (j : Int) by omega]
   unfold highZ
   have hk : (([e0, e1, e2, e3, e4, g0, g1, g2, g3, g4] ++ ([e0, e1, e2, e3, e4, g0, g1, g2, g3, g4] ++ [k, a, b, x]).drop 10).getD 10 0) = k := rfl
   rw [hk, if_neg (by omega), if_neg (by omega), Int.toNat_natCast]
   rfl
  rw [hz]
  have one : ∀ z : Int, Bit z → (if z = 1 then (1 : Int) else 0) = z := fun z h => by rcases h with rfl | rfl <;> rfl
  match j, hj with
  | 0, _ => exact one g0 (hb g0 (by simp))
  | 1, _ => exact one g1 (hb g1 (by simp))
  | 2, _ => exact one g2 (hb g2 (by simp))
  | 3, _ => exact one g3 (hb g3 (by simp))
  | 4, _ => exact one g4 (hb g4 (by simp))
 unfold nextOf
 rw [List.map_congr_left (fun j hj => he j (List.mem_range.1 hj)), List.map_congr_left (fun j hj => hh j (List.mem_range.1 hj))]
 rfl
theorem sem30 (hm : mayZ k a b x = 1) (h5 : k ≤ 5) (hr : ok30 k a b = true) : SemImg 38 k a b x := by
 intro a0 a1 a2 a3 xs W w h0 h1 h2 h3 hxs hW hWr
 have hNr := acc_links_in h0 h1 h2 h3 xs
 obtain ⟨ab1, ab2, k0⟩ := may_ab hm
 let E := envI w (ysOf a0 a1 a2 a3 xs k a b x) W ([a0, a1, a2, a3] ++ linksZ xs) x false
 have hE : E.Ok := envI_ok (may_x64 hm) hWr hNr
 have hx := may_x hm
 have hk : KnowOk E (form30 k a b).mem.know := ⟨hE, fun f hf => by
  rcases List.mem_cons.1 hf with rfl | hf
  ·exact hx
  ·rcases List.mem_append.1 hf with hf | hf
   ·unfold accF at hf
    simp only [List.mem_cons, List.not_mem_nil, or_false] at hf
    rcases hf with rfl | rfl | rfl | rfl
    ·exact h0
    ·exact h1
    ·exact h2
    ·exact h3
   ·exact rngs_I hWr hNr f hf, fun _ h => (by cases h)⟩
 have := vSem s30_ok 40 (form30 k a b) (fss := [[]]) (fun _ _ _ => ⟨[], List.mem_singleton_self _, fun _ h => (by cases h)⟩) (fun fs hf => by
  rcases List.mem_singleton.1 hf with rfl
  exact hr) (E := E) (w := w) rfl hk rfl rfl
 have r6 : K.row16 E 6 = W := range_self hW
 have r7 : K.row16 E 7 = [a0, a1, a2, a3] ++ linksZ xs := range_self (N_len xs)
 rw [show ((form30 k a b).args.map (dv E)).toArray = #[imgVal W ([a0, a1, a2, a3] ++ linksZ xs), opVal k a b x] by
  show #[dv E (viewT .nil), opVal k a b x] = _
  rw [dv_viewI, r6, r7]] at this
 refine this.mono ?_
 rintro e w' ⟨hext, hq⟩
 refine ⟨hext, ?_⟩
 rcases hq with ⟨_, bl, b1, b2, b3, b4⟩ | ⟨n0, _⟩
 case inr => exact absurd rfl n0
 have hxs' := hxs
 have qz : ∀ i, i ≤ 5 → ev (E.blkE 40 bl) (quantG blC i k a b) = tellZ i (ysOf a0 a1 a2 a3 xs k a b x) := fun i hi => by
  have hE2 : ev (E.blkE 40 bl) (quantG blC i k a b) = ev E (quantG blC i k a b) := by
   unfold ev
   rw [evp_same (E := E.blkE 40 bl) (E' := E) rfl rfl rfl rfl]
  rw [hE2, ev_quant]
  have hl := cfg_len hxs
  show quantZ (BZ E blC) (KZ E) x i k a b = _
  have hKB : ∃ e0 e1 e2 e3 e4 g0 g1 g2 g3 g4, xs = [e0, e1, e2, e3, e4, g0, g1, g2, g3, g4] := len10 hl
  obtain ⟨e0, e1, e2, e3, e4, g0, g1, g2, g3, g4, hxe⟩ := hKB
  have hK : KZ E = KX e0 e1 e2 e3 e4 k a b x := by
   funext j
   show (if (false || decide ((ysOf a0 a1 a2 a3 xs k a b x).getD (20 + j.toNat - 16) 0 = 1)) then (1 : Int) else 0) = _
   rw [hxe, Bool.false_or, show 20 + j.toNat - 16 = 4 + j.toNat by omega, show (ysOf a0 a1 a2 a3 [e0, e1, e2, e3, e4, g0, g1, g2, g3, g4] k a b x).getD (4 + j.toNat) 0 = ([e0, e1, e2, e3, e4, k, a, b, x] : List Int).getD j.toNat 0 from getD_four _]
   rfl
  rw [hK, hxe, tell_ys]
  refine quant_congr (fun _ j j0 j3 => ?_) ab1 ab2 (.inl ⟨h5, hi⟩)
  have hj : j = 0 ∨ j = 1 ∨ j = 2 ∨ j = 3 := by omega
  rcases hj with rfl | rfl | rfl | rfl
  ·show a0 + -1 = a0 - 1; omega
  ·show a1 + -1 = a1 - 1; omega
  ·show a2 + -1 = a2 - 1; omega
  ·show a3 + -1 = a3 - 1; omega
 refine ⟨bl, b1, b2, ?_, ?_⟩
 ·rw [b3]
  show some (Obj.cells #[.int .i64 (ev (E.blkE 40 bl) (quantG blC 0 k a b)), .int .i64 (ev (E.blkE 40 bl) (quantG blC 1 k a b))] 76 (0, 0)) = _
  rw [qz 0 (by omega), qz 1 (by omega)]
 ·rw [b4]
  show Ending.returned (dv (E.blkE 40 bl) (K.okT (askT (wrC k a b [0, 1, 2, 3]) oneAns))) = _
  rw [K.dv_okT _ _ (by unfold askT dv; simp only [dl, List.headD_cons]), dv_askI _ _ _ (K.sliV bl) rfl]
  rw [show K.row16 (E.blkE 40 bl) 6 = W from r6]
  congr 3
  unfold outN
  rw [next_bank h5 hxs, cfg_nrm hxs]
  have e : (List.range 16) = [0, 1, 2, 3] ++ (List.range 12).map fun c => 4 + c := rfl
  rw [e, List.map_append, List.map_map]
  congr 1
  ·show [ev (E.blkE 40 bl) (plus1 (quantG blC (2 + 0) k a b)), ev (E.blkE 40 bl) (plus1 (quantG blC (2 + 1) k a b)), ev (E.blkE 40 bl) (plus1 (quantG blC (2 + 2) k a b)), ev (E.blkE 40 bl) (plus1 (quantG blC (2 + 3) k a b))] = _
   rw [ev_plus1, ev_plus1, ev_plus1, ev_plus1, qz 2 (by omega), qz 3 (by omega), qz 4 (by omega), qz 5 (by omega)]
end
end Go.Proofs.Ytojpmbkbeoolcaa
