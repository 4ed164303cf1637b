/- may: its contract. -/
import Derived.Test.YtofmndcdcchflaaMY
namespace Go.Proofs.Ytofmndcdcchflaa
open Go.Sx Go Go.DescNum
set_option maxRecDepth 100000
noncomputable def numsC (kn : Know) : Nat → SV → Option (List IE)
 | 0, _ => some []
 | n + 1, .cons (.int .i64 e) r => match numsC kn n r with
  | some l => some (e :: l)
  | none => none
 | n + 1, .cons (.arr .i64 q m ws) _ => cond (factIn kn m (n + 1 : Nat) hi64) (allSome ((List.range (n + 1)).map fun (j : Nat) => wsLook kn q ws (.lit (j : Int)))) none
 | _, _ => none
theorem numsC_ok {E : Env} {kn : Know} (hk : KnowOk E kn) : ∀ (n : Nat) (c : SV) (l : List IE), numsC kn n c = some l → l.length = n ∧ ∀ j, j < n → (dl E c)[j]? = some (.int .i64 ((l.map (ev E)).getD j 0))
 | 0, c, l, h => by
  unfold numsC at h
  cases h
  exact ⟨rfl, fun j hj => absurd hj (Nat.not_lt_zero _)⟩
 | n + 1, c, l, h => by
  unfold numsC at h
  split at h
  ·rename_i heq
   cases heq
  ·rename_i n' e r heq
   cases heq
   split at h
   ·rename_i l' hl
    cases h
    obtain ⟨h1, h2⟩ := numsC_ok hk n r l' hl
    refine ⟨by rw [List.length_cons, h1], fun j hj => ?_⟩
    show ([Value.int .i64 (ev E e)] ++ dl E r)[j]? = _
    cases j with
    | zero => rfl
    | succ j => exact h2 j (by omega)
   ·cases h
  ·rename_i n' q m ws x heq
   cases heq
   cases hf : factIn kn m (n + 1 : Nat) hi64 with
   | false => rw [hf] at h; cases h
   | true =>
    rw [hf] at h
    dsimp only [cond] at h
    have hf := factIn_ok hk hf
    obtain ⟨g, rfl, hg⟩ := allSome_ok h
    refine ⟨by rw [List.length_map, List.length_range], fun j hj => ?_⟩
    show (arrCells E .i64 q (ev E m).toNat ws ++ dl E x)[j]? = _
    rw [List.getElem?_append_left (by rw [arrCells_len]; omega), arrCells_get _ _ _ _ _ _ (by omega)]
    have h1 := wsLook_ok hk q ws _ _ (by rw [ev_lit]; omega) (hg j (List.mem_range.2 hj))
    rw [ev_lit, Int.toNat_natCast] at h1
    rw [List.getD_eq_getElem?_getD, List.map_map, List.getElem?_map, List.getElem?_range hj]
    show _ = some (Value.int .i64 (ev E (g j)))
    rw [h1]
  ·cases h
noncomputable def rowM (args : List SV) (m : Mem) : Option (List IE × Nat) := match args with
 | [.sli s k off len cap] => match m.find s k with
  | some en => cond (ieEq off en.base && (factIn m.know off 0 hi64 && (zEq (rng m.know.facts len).1 (rng m.know.facts len).2 && (zEq (rng m.know.facts len).1 (rng m.know.facts len).1.toNat && (Nat.ble (rng m.know.facts len).1.toNat 16 && (factIn m.know (.sub cap len) 0 hi64 && factIn m.know cap 0 hi64))))))
   (match numsC m.know (3 * (rng m.know.facts len).1.toNat) en.c with
   | some l => cond (l.all (in64S m.know)) (some (l, (rng m.know.facts len).1.toNat)) none
   | none => none) none
  | none => none
 | _ => none
theorem rowM_ok {F : Nat → Prop} {w0 w : World} {E : Env} {args : List SV} {m : Mem} {l : List IE} {k : Nat} (hm : MemOk F w0 E m w) (h : rowM args m = some (l, k)) :
  ∃ b o cap : Nat, (args.map (dv E)).toArray = #[.slice (some ⟨b, o, none⟩) k cap] ∧ k ≤ 16 ∧ (l.map (ev E)).length = 3 * k ∧ (∀ z ∈ l.map (ev E), in64 z) ∧ k ≤ cap ∧ (cap : Int) ≤ hi64 ∧ RowN w b o (l.map (ev E)) := by
 unfold rowM at h
 split at h
 case h_2 => cases h
 rename_i s j off len cap
 split at h
 case h_2 => cases h
 rename_i en hen
 cases hg : (ieEq off en.base && (factIn m.know off 0 hi64 && (zEq (rng m.know.facts len).1 (rng m.know.facts len).2 && (zEq (rng m.know.facts len).1 (rng m.know.facts len).1.toNat && (Nat.ble (rng m.know.facts len).1.toNat 16 && (factIn m.know (.sub cap len) 0 hi64 && factIn m.know cap 0 hi64)))))) with
 | false => rw [hg] at h; cases h
 | true =>
 rw [hg] at h
 dsimp only [cond] at h
 split at h
 case h_2 => cases h
 rename_i l' hl
 cases hin : l'.all (in64S m.know) with
 | false => rw [hin] at h; cases h
 | true =>
 rw [hin] at h
 cases h
 simp only [Bool.and_eq_true] at hg
 obtain ⟨g1, g2, g3, g4, g5, g6, g7⟩ := hg
 have g1 := ieEq_ok g1
 have g2 := factIn_ok hm.know g2
 have g3 := zEq_ok g3
 have g4 := zEq_ok g4
 have g5 := Nat.le_of_ble_eq_true g5
 have g6 := factIn_ok hm.know g6
 have g7 := factIn_ok hm.know g7
 rw [ev_sub] at g6
 have hr := rng_ok hm.know.env hm.know.facts len
 obtain ⟨n1, n2⟩ := numsC_ok hm.know _ _ _ hl
 obtain ⟨k1, k2, k3⟩ := Mem.find_ok hen
 have ok := hm.ents en k1
 have hlen : (ev E len).toNat = (rng m.know.facts len).1.toNat := by omega
 refine ⟨E.base s + j, E.o s + (ev E off).toNat, (ev E cap).toNat, ?_, g5, by rw [List.length_map, n1], fun z hz => ?_, by omega, by omega, ?_, fun i hi => ?_⟩
 ·show #[Value.slice (some (addrOf E s j off)) (ev E len).toNat (ev E cap).toNat] = _
  rw [hlen]
  rfl
 ·obtain ⟨e, he, rfl⟩ := List.mem_map.1 hz
  exact in64S_ok hm.know (List.all_eq_true.1 hin e he)
 ·have := ok.lt
  unfold Ent.blk at this
  rw [k2, k3] at this
  exact this
 ·have := ok.cell i _ (n2 i (by rw [List.length_map, n1] at hi; exact hi))
  rw [← this]
  unfold Ent.blk
  rw [k2, k3, g1, Nat.add_assoc]
noncomputable def swB (l : List IE) : BE := .eq (.app 830 (argsE l)) (.lit 1)
theorem swB_ev {V : List Int} {E : Env} (hE : E.f = G0 V) {l : List IE} {k : Nat} (hl : (l.map (ev E)).length = 3 * k) : evB E (swB l) = swOK (l.map (ev E)) k := by
 show decide (ev E (.app 830 (argsE l)) = 1) = _
 rw [ev_app, argsE_ev, hE]
 show decide (clampZ (if swOK (l.map (ev E)) ((l.map (ev E)).length / 3) then 1 else 0) = 1) = _
 rw [hl, show 3 * k / 3 = k by omega]
 cases swOK (l.map (ev E)) k with
 | true => rw [if_pos rfl, clampZ_of (by constructor <;> decide)]; rfl
 | false => rw [if_neg Bool.false_ne_true, clampZ_of (by constructor <;> decide)]; rfl
noncomputable def factsM (l : List IE) (k : Nat) : List Fact := (List.range k).flatMap fun (i : Nat) => [(atL l (3 * i), 0, 15), (atL l (3 * i + 1), 0, 1099511627775), (atL l (3 * i + 2), 0, 1099511627775)] ++ cond (Nat.beq i 0) [] [(mkSub (atL l (3 * i)) (atL l (3 * i - 3)), 1, 15), (mkSub (atL l (3 * i - 3)) (atL l (3 * i)), -15, -1)]
noncomputable def askM (args : List SV) (m : Mem) : Option BE := match rowM args m with
 | some (l, _) => some (swB l)
 | none => none
noncomputable def formM (args : List SV) (m : Mem) : Option (SV × List Fact) := match rowM args m with
 | some (l, k) => cond (yes m.know (swB l)) (some (.bool (.lit true), factsM l k)) (cond (nay m.know (swB l)) (some (.bool (.lit false), [])) none)
 | none => none
theorem formM_ok {V : List Int} {f : Nat} (hf0 : SemMay f) : SpecOk (G0 V) Try.prog f (pureX formM) := pureX_ok fun F w0 E args m w v fs hgf hm hf => by
 unfold formM at hf
 split at hf
 case h_2 => cases hf
 rename_i l k hl
 obtain ⟨b, o, cap, ha, h1, h2, h3, h4, h5, h6⟩ := rowM_ok hm hl
 have call := hf0 (w := w) h1 h2 h3 h4 h5 h6
 rw [← ha] at call
 cases hy : yes m.know (swB l) with
 | true =>
  rw [hy] at hf
  cases hf
  have hy := yes_ok hm.know hy
  rw [swB_ev hgf h2] at hy
  refine ⟨call.mono ?_, fun y hmem => ?_⟩
  ·rintro e w' ⟨g, rfl⟩
   exact ⟨g, by rw [hy]; rfl⟩
  ·unfold factsM at hmem
   obtain ⟨i, hi, hmem⟩ := List.mem_flatMap.1 hmem
   have hi := List.mem_range.1 hi
   obtain ⟨a1, a2, a3, a4⟩ := swOK_at hy i hi
   unfold maxValue at a2 a3
   rcases List.mem_append.1 hmem with hmem | hmem
   ·simp only [List.mem_cons, List.not_mem_nil, or_false] at hmem
    unfold FactOk
    rcases hmem with rfl | rfl | rfl
    ·dsimp only; rw [atL_ev]; exact a1
    ·dsimp only; rw [atL_ev]; exact a2
    ·dsimp only; rw [atL_ev]; exact a3
   ·cases hb : Nat.beq i 0 with
    | true => rw [hb] at hmem; cases hmem
    | false =>
     rw [hb] at hmem
     have hi0 : i ≠ 0 := fun e => by rw [e] at hb; cases hb
     have a4 := a4.resolve_left hi0
     obtain ⟨c1, _, _, _⟩ := swOK_at hy (i - 1) (by omega)
     rw [show 3 * (i - 1) = 3 * i - 3 by omega] at c1
     simp only [cond, List.mem_cons, List.not_mem_nil, or_false] at hmem
     unfold FactOk
     rcases hmem with rfl | rfl
     ·dsimp only; rw [mkSub_ok, atL_ev, atL_ev]; omega
     ·dsimp only; rw [mkSub_ok, atL_ev, atL_ev]; omega
 | false =>
  rw [hy] at hf
  dsimp only [cond] at hf
  cases hn : nay m.know (swB l) with
  | false => rw [hn] at hf; cases hf
  | true =>
   rw [hn] at hf
   cases hf
   have hn := nay_ok hm.know hn
   rw [swB_ev hgf h2] at hn
   refine ⟨call.mono ?_, fun _ h => (by cases h)⟩
   rintro e w' ⟨g, rfl⟩
   exact ⟨g, by rw [hn]; rfl⟩
noncomputable def mayX (f : Nat) : List SV → X SV := orX (preX askM (pureX formM)) (fun0 f)
theorem mayX_ok {V : List Int} {f : Nat} (hf0 : SemMay f) : SpecOk (G0 V) Try.prog f (mayX f) := orX_ok (preX_ok (formM_ok hf0) _) (fun0_ok f)
end Go.Proofs.Ytofmndcdcchflaa
