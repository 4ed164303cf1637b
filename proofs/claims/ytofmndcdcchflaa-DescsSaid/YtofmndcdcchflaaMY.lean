/- may the entries be: by an unknown function of their numbers. -/
import Derived.Test.YtofmndcdcchflaaGW
namespace Go.Proofs.Ytofmndcdcchflaa
open Go.Sx Go Go.DescNum
set_option maxRecDepth 100000
noncomputable def mE (j : Nat) : IE := .sel 24 (.lit j)
noncomputable def goodSw (kn : Know) : Nat → Bool
 | 0 => true
 | n + 1 => goodSw kn n && (rngIn kn (mE (3 * n)) 0 15 && (rngIn kn (mE (3 * n + 1)) 0 1099511627775 && (rngIn kn (mE (3 * n + 2)) 0 1099511627775 && orB' (Nat.beq n 0) (orB' (rngIn kn (mkSub (mE (3 * n)) (mE (3 * n - 3))) 1 hi64) (orB' (rngIn kn (mkSub (mE (3 * n - 3)) (mE (3 * n))) lo64 (-1)) (nay kn (.lt (mE (3 * n)) (.add (mE (3 * n - 3)) (.lit 1)))))))))
noncomputable def out1 (kn : Know) (e : IE) (hi : Int) : Bool := orB' (rngIn kn e lo64 (-1)) (rngIn kn e (hi + 1) hi64)
noncomputable def badSw (kn : Know) : Nat → Bool
 | 0 => false
 | n + 1 => orB' (badSw kn n) (orB' (out1 kn (mE (3 * n)) 15) (orB' (out1 kn (mE (3 * n + 1)) 1099511627775) (orB' (out1 kn (mE (3 * n + 2)) 1099511627775) (Nat.blt 0 n && orB' (rngIn kn (mkSub (mE (3 * n)) (mE (3 * n - 3))) (lo64 * 2) 0) (orB' (rngIn kn (mkSub (mE (3 * n - 3)) (mE (3 * n))) 0 (hi64 * 2)) (yes kn (.lt (mE (3 * n)) (.add (mE (3 * n - 3)) (.lit 1)))))))))
noncomputable def chkMay (k : Nat) (q : SV × Mem) : Bool := match q.1 with
 | .bool (.lit true) => goodSw q.2.know k
 | .bool (.lit false) => badSw q.2.know k
 | _ => false
noncomputable def slM (k : Nat) : SV := .sli 20 0 (.lit 0) (.lit k) (.var 23)
noncomputable def enM (k : Nat) : Ent := ⟨20, 0, true, 0, .lit 0, .cons (.arr .i64 24 (.lit (3 * k : Nat)) .nil) .nil⟩
noncomputable def okMay (f k : Nat) : Bool := allOf (fun0 f [slM k] (slMem [enM k] [(.var 23, k, hi64)] 60)) (chkMay k)
section
variable {E : Env} {N : List Int} (hN : E.row 24 = N) {kn : Know} (hk : KnowOk E kn)
include hN hk
omit hk in
theorem mE_ev (j : Nat) : ev E (mE j) = N.getD j 0 := by
 unfold mE
 rw [ev_sel, hN, ev_lit, Int.toNat_natCast]
theorem goodSw_ok : ∀ n, goodSw kn n = true → swOK N n = true
 | 0, _ => rfl
 | n + 1, h => by
  unfold goodSw at h
  simp only [Bool.and_eq_true] at h
  obtain ⟨h1, h2, h3, h4, h5⟩ := h
  have h2 := rngIn_ok hk h2
  have h3 := rngIn_ok hk h3
  have h4 := rngIn_ok hk h4
  rw [mE_ev hN] at h2 h3 h4
  have h6 : n = 0 ∨ N.getD (3 * n - 3) 0 < N.getD (3 * n) 0 := by
   rcases orB'_ok h5 with g | g
   ·exact .inl (Nat.eq_of_beq_eq_true g)
   rcases orB'_ok g with g | g
   ·have g := rngIn_ok hk g
    rw [mkSub_ok, mE_ev hN, mE_ev hN] at g
    exact .inr (by omega)
   rcases orB'_ok g with g | g
   ·have g := rngIn_ok hk g
    rw [mkSub_ok, mE_ev hN, mE_ev hN] at g
    exact .inr (by omega)
   ·have g : decide (ev E (mE (3 * n)) < ev E (.add (mE (3 * n - 3)) (.lit 1))) = false := nay_ok hk g
    rw [decide_eq_false_iff_not, ev_add, ev_lit, mE_ev hN, mE_ev hN] at g
    exact .inr (by omega)
  unfold swOK
  simp only [Bool.and_eq_true, Bool.or_eq_true, decide_eq_true_eq]
  exact ⟨goodSw_ok n h1, h2, h3, h4, h6⟩
omit hN in
theorem out1_ok {e : IE} {hi : Int} (h : out1 kn e hi = true) : ¬ (0 ≤ ev E e ∧ ev E e ≤ hi) := by
 unfold out1 at h
 rcases orB'_ok h with g | g
 ·have g := rngIn_ok hk g
  omega
 ·have g := rngIn_ok hk g
  omega
theorem badSw_ok : ∀ n, badSw kn n = true → swOK N n = false
 | 0, h => by cases h
 | n + 1, h => by
  cases he : swOK N (n + 1) with
  | false => rfl
  | true =>
   exfalso
   obtain ⟨a1, a2, a3, a4⟩ := swOK_at he n (Nat.lt_succ_self n)
   unfold maxValue at a2 a3
   unfold badSw at h
   rcases orB'_ok h with g | g
   ·have := badSw_ok n g
    unfold swOK at he
    rw [this] at he
    cases he
   rcases orB'_ok g with g | g
   ·have := out1_ok hk g
    rw [mE_ev hN] at this
    exact this a1
   rcases orB'_ok g with g | g
   ·have := out1_ok hk g
    rw [mE_ev hN] at this
    exact this a2
   rcases orB'_ok g with g | g
   ·have := out1_ok hk g
    rw [mE_ev hN] at this
    exact this a3
   ·rw [Bool.and_eq_true] at g
    have g0 : 0 < n := by simpa [Nat.blt_eq] using g.1
    have a4 : N.getD (3 * n - 3) 0 < N.getD (3 * n) 0 := a4.resolve_left (by omega)
    rcases orB'_ok g.2 with g | g
    ·have g := rngIn_ok hk g
     rw [mkSub_ok, mE_ev hN, mE_ev hN] at g
     omega
    rcases orB'_ok g with g | g
    ·have g := rngIn_ok hk g
     rw [mkSub_ok, mE_ev hN, mE_ev hN] at g
     omega
    ·have g : decide (ev E (mE (3 * n)) < ev E (.add (mE (3 * n - 3)) (.lit 1))) = true := yes_ok hk g
     rw [decide_eq_true_eq, ev_add, ev_lit, mE_ev hN, mE_ev hN] at g
     omega
end
def SemMay (f : Nat) : Prop := ∀ {w : World} {b o cap k : Nat} {N : List Int}, k ≤ 16 → N.length = 3 * k → (∀ z ∈ N, in64 z) → k ≤ cap → (cap : Int) ≤ hi64 → RowN w b o N → Calls Try.prog f #[.slice (some ⟨b, o, none⟩) k cap] w fun e w' => Ext (fun _ => False) w w' ∧ e = .returned (.bool (swOK N k))
theorem sem_may {f : Nat} (hall : ∀ k, k ≤ 16 → okMay f k = true) : SemMay f := by
 intro w b o cap k N hk hl h64 hc1 hc2 hr
 obtain ⟨hb, hcells⟩ := hr
 let E : Env := { i := fun j => if j = 23 then (cap : Int) else 0, b := fun _ => false, l := fun r => if r = 24 then N else [], base := fun x => if x = 20 then b else w.heap.size, o := fun x => if x = 20 then o else 0, v := fun _ => .tuple #[], f := G0 [] }
 have hE : E.Ok := by
  refine ⟨fun j => ?_, fun r z hz => ?_, G0_in []⟩
  ·show in64 (if j = 23 then (cap : Int) else 0)
   unfold hi64 at hc2
   unfold in64 lo64 hi64
   split <;> omega
  ·replace hz : z ∈ (if r = 24 then N else []) := hz
   split at hz
   ·exact h64 z hz
   ·cases hz
 have hrow : E.row 24 = N := by
  rw [Env.row_l (by unfold fixR; omega)]
  rfl
 obtain ⟨outs, ho, hchk⟩ := allOf_ok (hall k hk)
 have call := run_ro (fun0_ok (G := G0 []) f) ho (E := E) (w := w) rfl hE rfl rfl (fun e he => by
  rcases List.mem_singleton.1 he with rfl
  refine ⟨rfl, ⟨hb, fun _ j v hv => ?_, fun h => (by cases h), fun _ x h => (by cases h)⟩⟩
  have hd : dl E (enM k).c = (List.range (3 * k)).map fun j => Value.int .i64 (N.getD j 0) := by
   show arrCells E .i64 24 ((3 * k : Nat) : Int).toNat .nil ++ [] = _
   rw [List.append_nil, Int.toNat_natCast]
   unfold arrCells
   refine List.map_congr_left fun j _ => ?_
   show Value.int .i64 ((E.row 24).getD j 0) = _
   rw [hrow]
  rw [hd, List.getElem?_map] at hv
  have hj : j < 3 * k := by
   rcases Nat.lt_or_ge j (3 * k) with h | h
   ·exact h
   ·rw [List.getElem?_eq_none (by simpa using h)] at hv
    cases hv
  rw [List.getElem?_range hj] at hv
  cases hv
  have := hcells j (by omega)
  show w.cell? ⟨b + 0, o + ((0 : Int).toNat + j), none⟩ = _
  rw [show b + 0 = b from rfl, show ((0 : Int).toNat + j) = j by simp]
  exact this) (fun f hf => by
  rcases List.mem_singleton.1 hf with rfl
  show (k : Int) ≤ cap ∧ (cap : Int) ≤ hi64
  omega)
 have ha : (([slM k] : List SV).map (dv E)).toArray = #[.slice (some ⟨b, o, none⟩) k cap] := by
  show #[Value.slice (some ⟨b + 0, o + (0 : Int).toNat, none⟩) ((k : Int)).toNat ((cap : Int)).toNat] = _
  simp
 rw [ha] at call
 refine call.mono ?_
 rintro e w' ⟨q, hq, E', hA, rfl, hm⟩
 have hN : E'.row 24 = N := by
  rw [Env.row_l (by unfold fixR; omega), hA.l 24 (by omega), ← Env.row_l (E := E) (r := 24) (by unfold fixR; omega)]
  exact hrow
 refine ⟨hm.ext, ?_⟩
 have hq := hchk q hq
 unfold chkMay at hq
 split at hq
 ·rename_i heq
  rw [heq, goodSw_ok hN hm.know k hq]
  rfl
 ·rename_i heq
  rw [heq, badSw_ok hN hm.know k hq]
  rfl
 ·cases hq
end Go.Proofs.Ytofmndcdcchflaa
namespace Go.Proofs.Ytofmndcdcchflaa
open Go.Sx Go Go.DescNum
set_option maxRecDepth 100000
noncomputable def numsC (kn : Know) : Nat → SV → Option (List IE)
 | 0, _ => some []
 | n + 1, .cons (.int .i64 e) r => match numsC kn n r with
  | some l => some (e :: l)
  | none => none
 | n + 1, .cons (.arr .i64 q m ws) _ => cond (factIn kn m (n + 1 : Nat) hi64) (allSome ((List.range (n + 1)).map fun (j : Nat) => wsLook kn q ws (.lit (j : Int)))) none
 | _, _ => none
theorem numsC_ok {E : Env} {kn : Know} (hk : KnowOk E kn) : ∀ (n : Nat) (c : SV) (l : List IE), numsC kn n c = some l → l.length = n ∧ ∀ j, j < n → (dl E c)[j]? = some (.int .i64 ((l.map (ev E)).getD j 0))
 | 0, c, l, h => by
  unfold numsC at h
  cases h
  exact ⟨rfl, fun j hj => absurd hj (Nat.not_lt_zero _)⟩
 | n + 1, c, l, h => by
  unfold numsC at h
  split at h
  ·rename_i heq
   cases heq
  ·rename_i n' e r heq
   cases heq
   split at h
   ·rename_i l' hl
    cases h
    obtain ⟨h1, h2⟩ := numsC_ok hk n r l' hl
    refine ⟨by rw [List.length_cons, h1], fun j hj => ?_⟩
    show ([Value.int .i64 (ev E e)] ++ dl E r)[j]? = _
    cases j with
    | zero => rfl
    | succ j => exact h2 j (by omega)
   ·cases h
  ·rename_i n' q m ws x heq
   cases heq
   cases hf : factIn kn m (n + 1 : Nat) hi64 with
   | false => rw [hf] at h; cases h
   | true =>
    rw [hf] at h
    dsimp only [cond] at h
    have hf := factIn_ok hk hf
    obtain ⟨g, rfl, hg⟩ := allSome_ok h
    refine ⟨by rw [List.length_map, List.length_range], fun j hj => ?_⟩
    show (arrCells E .i64 q (ev E m).toNat ws ++ dl E x)[j]? = _
    rw [List.getElem?_append_left (by rw [arrCells_len]; omega), arrCells_get _ _ _ _ _ _ (by omega)]
    have h1 := wsLook_ok hk q ws _ _ (by rw [ev_lit]; omega) (hg j (List.mem_range.2 hj))
    rw [ev_lit, Int.toNat_natCast] at h1
    rw [List.getD_eq_getElem?_getD, List.map_map, List.getElem?_map, List.getElem?_range hj]
    show _ = some (Value.int .i64 (ev E (g j)))
    rw [h1]
  ·cases h
noncomputable def rowM (args : List SV) (m : Mem) : Option (List IE × Nat) := match args with
 | [.sli s k off len cap] => match m.find s k with
  | some en => cond (ieEq off en.base && (factIn m.know off 0 hi64 && (zEq (rng m.know.facts len).1 (rng m.know.facts len).2 && (zEq (rng m.know.facts len).1 (rng m.know.facts len).1.toNat && (Nat.ble (rng m.know.facts len).1.toNat 16 && (factIn m.know (.sub cap len) 0 hi64 && factIn m.know cap 0 hi64))))))
   (match numsC m.know (3 * (rng m.know.facts len).1.toNat) en.c with
   | some l => cond (l.all (in64S m.know)) (some (l, (rng m.know.facts len).1.toNat)) none
   | none => none) none
  | none => none
 | _ => none
theorem rowM_ok {F : Nat → Prop} {w0 w : World} {E : Env} {args : List SV} {m : Mem} {l : List IE} {k : Nat} (hm : MemOk F w0 E m w) (h : rowM args m = some (l, k)) :
  ∃ b o cap : Nat, (args.map (dv E)).toArray = #[.slice (some ⟨b, o, none⟩) k cap] ∧ k ≤ 16 ∧ (l.map (ev E)).length = 3 * k ∧ (∀ z ∈ l.map (ev E), in64 z) ∧ k ≤ cap ∧ (cap : Int) ≤ hi64 ∧ RowN w b o (l.map (ev E)) := by
 unfold rowM at h
 split at h
 case h_2 => cases h
 rename_i s j off len cap
 split at h
 case h_2 => cases h
 rename_i en hen
 cases hg : (ieEq off en.base && (factIn m.know off 0 hi64 && (zEq (rng m.know.facts len).1 (rng m.know.facts len).2 && (zEq (rng m.know.facts len).1 (rng m.know.facts len).1.toNat && (Nat.ble (rng m.know.facts len).1.toNat 16 && (factIn m.know (.sub cap len) 0 hi64 && factIn m.know cap 0 hi64)))))) with
 | false => rw [hg] at h; cases h
 | true =>
 rw [hg] at h
 dsimp only [cond] at h
 split at h
 case h_2 => cases h
 rename_i l' hl
 cases hin : l'.all (in64S m.know) with
 | false => rw [hin] at h; cases h
 | true =>
 rw [hin] at h
 cases h
 simp only [Bool.and_eq_true] at hg
 obtain ⟨g1, g2, g3, g4, g5, g6, g7⟩ := hg
 have g1 := ieEq_ok g1
 have g2 := factIn_ok hm.know g2
 have g3 := zEq_ok g3
 have g4 := zEq_ok g4
 have g5 := Nat.le_of_ble_eq_true g5
 have g6 := factIn_ok hm.know g6
 have g7 := factIn_ok hm.know g7
 rw [ev_sub] at g6
 have hr := rng_ok hm.know.env hm.know.facts len
 obtain ⟨n1, n2⟩ := numsC_ok hm.know _ _ _ hl
 obtain ⟨k1, k2, k3⟩ := Mem.find_ok hen
 have ok := hm.ents en k1
 have hlen : (ev E len).toNat = (rng m.know.facts len).1.toNat := by omega
 refine ⟨E.base s + j, E.o s + (ev E off).toNat, (ev E cap).toNat, ?_, g5, by rw [List.length_map, n1], fun z hz => ?_, by omega, by omega, ?_, fun i hi => ?_⟩
 ·show #[Value.slice (some (addrOf E s j off)) (ev E len).toNat (ev E cap).toNat] = _
  rw [hlen]
  rfl
 ·obtain ⟨e, he, rfl⟩ := List.mem_map.1 hz
  exact in64S_ok hm.know (List.all_eq_true.1 hin e he)
 ·have := ok.lt
  unfold Ent.blk at this
  rw [k2, k3] at this
  exact this
 ·have := ok.cell i _ (n2 i (by rw [List.length_map, n1] at hi; exact hi))
  rw [← this]
  unfold Ent.blk
  rw [k2, k3, g1, Nat.add_assoc]
noncomputable def swB (l : List IE) : BE := .eq (.app 830 (argsE l)) (.lit 1)
theorem swB_ev {V : List Int} {E : Env} (hE : E.f = G0 V) {l : List IE} {k : Nat} (hl : (l.map (ev E)).length = 3 * k) : evB E (swB l) = swOK (l.map (ev E)) k := by
 show decide (ev E (.app 830 (argsE l)) = 1) = _
 rw [ev_app, argsE_ev, hE]
 show decide (clampZ (if swOK (l.map (ev E)) ((l.map (ev E)).length / 3) then 1 else 0) = 1) = _
 rw [hl, show 3 * k / 3 = k by omega]
 cases swOK (l.map (ev E)) k with
 | true => rw [if_pos rfl, clampZ_of (by constructor <;> decide)]; rfl
 | false => rw [if_neg Bool.false_ne_true, clampZ_of (by constructor <;> decide)]; rfl
noncomputable def factsM (l : List IE) (k : Nat) : List Fact := (List.range k).flatMap fun (i : Nat) => [(atL l (3 * i), 0, 15), (atL l (3 * i + 1), 0, 1099511627775), (atL l (3 * i + 2), 0, 1099511627775)] ++ cond (Nat.beq i 0) [] [(mkSub (atL l (3 * i)) (atL l (3 * i - 3)), 1, 15), (mkSub (atL l (3 * i - 3)) (atL l (3 * i)), -15, -1)]
noncomputable def askM (args : List SV) (m : Mem) : Option BE := match rowM args m with
 | some (l, _) => some (swB l)
 | none => none
noncomputable def formM (args : List SV) (m : Mem) : Option (SV × List Fact) := match rowM args m with
 | some (l, k) => cond (yes m.know (swB l)) (some (.bool (.lit true), factsM l k)) (cond (nay m.know (swB l)) (some (.bool (.lit false), [])) none)
 | none => none
theorem formM_ok {V : List Int} {f : Nat} (hf0 : SemMay f) : SpecOk (G0 V) Try.prog f (pureX formM) := pureX_ok fun F w0 E args m w v fs hgf hm hf => by
 unfold formM at hf
 split at hf
 case h_2 => cases hf
 rename_i l k hl
 obtain ⟨b, o, cap, ha, h1, h2, h3, h4, h5, h6⟩ := rowM_ok hm hl
 have call := hf0 (w := w) h1 h2 h3 h4 h5 h6
 rw [← ha] at call
 cases hy : yes m.know (swB l) with
 | true =>
  rw [hy] at hf
  cases hf
  have hy := yes_ok hm.know hy
  rw [swB_ev hgf h2] at hy
  refine ⟨call.mono ?_, fun y hmem => ?_⟩
  ·rintro e w' ⟨g, rfl⟩
   exact ⟨g, by rw [hy]; rfl⟩
  ·unfold factsM at hmem
   obtain ⟨i, hi, hmem⟩ := List.mem_flatMap.1 hmem
   have hi := List.mem_range.1 hi
   obtain ⟨a1, a2, a3, a4⟩ := swOK_at hy i hi
   unfold maxValue at a2 a3
   rcases List.mem_append.1 hmem with hmem | hmem
   ·simp only [List.mem_cons, List.not_mem_nil, or_false] at hmem
    unfold FactOk
    rcases hmem with rfl | rfl | rfl
    ·dsimp only; rw [atL_ev]; exact a1
    ·dsimp only; rw [atL_ev]; exact a2
    ·dsimp only; rw [atL_ev]; exact a3
   ·cases hb : Nat.beq i 0 with
    | true => rw [hb] at hmem; cases hmem
    | false =>
     rw [hb] at hmem
     have hi0 : i ≠ 0 := fun e => by rw [e] at hb; cases hb
     have a4 := a4.resolve_left hi0
     obtain ⟨c1, _, _, _⟩ := swOK_at hy (i - 1) (by omega)
     rw [show 3 * (i - 1) = 3 * i - 3 by omega] at c1
     simp only [cond, List.mem_cons, List.not_mem_nil, or_false] at hmem
     unfold FactOk
     rcases hmem with rfl | rfl
     ·dsimp only; rw [mkSub_ok, atL_ev, atL_ev]; omega
     ·dsimp only; rw [mkSub_ok, atL_ev, atL_ev]; omega
 | false =>
  rw [hy] at hf
  dsimp only [cond] at hf
  cases hn : nay m.know (swB l) with
  | false => rw [hn] at hf; cases hf
  | true =>
   rw [hn] at hf
   cases hf
   have hn := nay_ok hm.know hn
   rw [swB_ev hgf h2] at hn
   refine ⟨call.mono ?_, fun _ h => (by cases h)⟩
   rintro e w' ⟨g, rfl⟩
   exact ⟨g, by rw [hn]; rfl⟩
noncomputable def mayX (f : Nat) : List SV → X SV := orX (preX askM (pureX formM)) (fun0 f)
theorem mayX_ok {V : List Int} {f : Nat} (hf0 : SemMay f) : SpecOk (G0 V) Try.prog f (mayX f) := orX_ok (preX_ok (formM_ok hf0) _) (fun0_ok f)
end Go.Proofs.Ytofmndcdcchflaa
