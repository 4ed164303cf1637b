/- Get: its contract. -/
import Derived.Test.YtofmndcdcchflaaGS
import Derived.Test.YtofmndcdcchflaaGW
namespace Go.Proofs.Ytofmndcdcchflaa
open Go.Sx Go Go.DescNum
set_option maxRecDepth 100000
noncomputable def wordsX (args : List SV) (m : Mem) : Option (List IE) := match args with
 | [.ptr s k (.lit (.ofNat 0)), .int .i64 e] => match m.find s k with
  | some en => match en.c with
   | .cons (.arr .i64 r n ws) _ => cond (!en.ro && (ieEq en.base (.lit 0) && (factIn m.know n 634 hi64 && (factIn m.know e 0 11 && numsIn m.know ws)))) (allSome ((List.range 50).map fun j => wsLook m.know r ws (mkAdd (mkMul e (.lit 50)) (.lit (34 + j : Nat))))) none
   | _ => none
  | none => none
 | _ => none
theorem wordsX_ok {F : Nat → Prop} {w0 w : World} {E : Env} {args : List SV} {m : Mem} {l : List IE} (hm : MemOk F w0 E m w) (h : wordsX args m = some l) :
  ∃ (b s : Nat) (N : List Int), (args.map (dv E)).toArray = #[.pointer (some ⟨b, 0, none⟩), .int .i64 (s : Int)] ∧ s < 12 ∧ (∀ z ∈ N, in64 z) ∧ ArenaAt w b N ∧ l.map (ev E) = words50 N s := by
 unfold wordsX at h
 split at h
 case h_2 => cases h
 rename_i s k e
 split at h
 case h_2 => cases h
 rename_i en hen
 split at h
 case h_2 => cases h
 rename_i r n ws rest hc
 cases hg : (!en.ro && (ieEq en.base (.lit 0) && (factIn m.know n 634 hi64 && (factIn m.know e 0 11 && numsIn m.know ws)))) with
 | false => rw [hg] at h; cases h
 | true =>
 rw [hg] at h
 dsimp only [cond] at h
 simp only [Bool.and_eq_true, Bool.not_eq_true'] at hg
 obtain ⟨g1, g2, g3, g4, g5⟩ := hg
 have g2 := ieEq_ok g2
 have g3 := factIn_ok hm.know g3
 have g4 := factIn_ok hm.know g4
 obtain ⟨k1, k2, k3⟩ := Mem.find_ok hen
 have ok := hm.ents en k1
 have h64 : ∀ j, in64 (wsVal E r ws j) := numsIn_ok hm.know r g5
 obtain ⟨g, rfl, hgs⟩ := allSome_ok h
 have hidx : ∀ j, j < 50 → ev E (mkAdd (mkMul e (.lit 50)) (.lit (34 + j : Nat))) = ((50 * (ev E e).toNat + (34 + j) : Nat) : Int) := fun j hj => by
  rw [mkAdd_ok, mkMul_ok, ev_lit, ev_lit]
  omega
 obtain ⟨⟨o1, _⟩, _⟩ := ok.own g1
 have hcell : ∀ j, j < 634 → w.cell? ⟨E.base s + k, j, none⟩ = some (.int .i64 (wsVal E r ws j)) := fun j hj => by
  have hd : (dl E en.c)[j]? = some (.int .i64 (wsVal E r ws j)) := by
   rw [hc]
   show (arrCells E .i64 r (ev E n).toNat ws ++ dl E rest)[j]? = _
   rw [List.getElem?_append_left (by rw [arrCells_len]; omega), arrCells_get _ _ _ _ _ _ (by omega)]
  have := ok.cell j _ hd
  rw [← this]
  unfold Ent.blk
  rw [o1, k2, k3, g2, ev_lit]
  simp
 refine ⟨E.base s + k, (ev E e).toNat, (List.range 634).map (wsVal E r ws), ?_, by omega, fun z hz => ?_, ⟨?_, fun j hj => ?_⟩, ?_⟩
 ·have o2 : E.o s = 0 := by rw [← k2]; exact o1
  have e1 : addrOf E s k (.lit 0) = ⟨E.base s + k, 0, none⟩ := by simp [addrOf, o2, ev_lit]
  have e2 : ((ev E e).toNat : Int) = ev E e := by omega
  show #[Value.pointer (some (addrOf E s k (.lit 0))), Value.int .i64 (ev E e)] = _
  rw [e1, e2]
 ·obtain ⟨j, _, rfl⟩ := List.mem_map.1 hz
  exact h64 j
 ·have := ok.lt
  unfold Ent.blk at this
  rw [k2, k3] at this
  exact this
 ·rw [hcell j hj, List.getD_eq_getElem?_getD, List.getElem?_map, List.getElem?_range hj]
  rfl
 ·unfold words50
  rw [List.map_map]
  refine List.map_congr_left fun j hj => ?_
  have hj := List.mem_range.1 hj
  have h1 := wsLook_ok hm.know r ws _ _ (by rw [hidx j hj]; omega) (hgs j (List.mem_range.2 hj))
  show ev E (g j) = _
  rw [h1, hidx j hj, Int.toNat_natCast, List.getD_eq_getElem?_getD, List.getElem?_map, List.getElem?_range (by omega)]
  rfl
noncomputable def descB (l : List IE) : BE := .eq (.app 820 (argsE l)) (.lit 1)
theorem descB_ev {V : List Int} {E : Env} (hE : E.f = G0 V) (l : List IE) : evB E (descB l) = descOK (l.map (ev E)) := by
 show decide (ev E (.app 820 (argsE l)) = 1) = _
 rw [ev_app, argsE_ev, hE]
 show decide (clampZ (if descOK (l.map (ev E)) then 1 else 0) = 1) = _
 cases descOK (l.map (ev E)) with
 | true => rw [if_pos rfl, clampZ_of (by constructor <;> decide)]; rfl
 | false => rw [if_neg Bool.false_ne_true, clampZ_of (by constructor <;> decide)]; rfl
noncomputable def numL (l : List IE) (j : Nat) : IE := f1 716 (atL l j)
theorem numL_ev {V : List Int} {E : Env} (hE : E.f = G0 V) (l : List IE) (j : Nat) : ev E (numL l j) = valN (l.map (ev E)) j := by
 unfold numL valN
 rw [f716 hE, atL_ev]
noncomputable def askD (args : List SV) (m : Mem) : Option BE := match wordsX args m with
 | some l => some (descB l)
 | none => none
noncomputable def formDn (args : List SV) (m : Mem) : Option (SV × List Fact) := match wordsX args m with
 | some l => cond (nay m.know (descB l)) (some (.tup (.cons (.int .i64 (.lit 0)) (.cons (.int .i64 (.lit 0)) (.cons .nils (.cons (.int .i64 (.lit 1300)) .nil)))), [])) none
 | none => none
def SemGet (f : Nat) : Prop := ∀ {w : World} {b s : Nat} {N : List Int}, s < 12 → (∀ z ∈ N, in64 z) → ArenaAt w b N → Calls Try.prog f #[.pointer (some ⟨b, 0, none⟩), .int .i64 (s : Int)] w fun e w' => Ext (fun _ => False) w w' ∧ GetRes w (words50 N s) e w'
section
variable {V : List Int} {f : Nat} (hf0 : SemGet f)
include hf0
theorem formDn_ok : SpecOk (G0 V) Try.prog f (pureX formDn) := pureX_ok fun F w0 E args m w v fs hgf hm hf => by
 unfold formDn at hf
 split at hf
 case h_2 => cases hf
 rename_i l hl
 cases hn : nay m.know (descB l) with
 | false => rw [hn] at hf; cases hf
 | true =>
 rw [hn] at hf
 cases hf
 obtain ⟨b, s, N, ha, hs, h64, hat, hw⟩ := wordsX_ok hm hl
 have hn := nay_ok hm.know hn
 rw [descB_ev hgf, hw] at hn
 refine ⟨?_, fun _ h => (by cases h)⟩
 rw [ha]
 refine (hf0 (w := w) hs h64 hat).mono ?_
 rintro e w' ⟨hx, hr⟩
 refine ⟨hx, ?_⟩
 unfold GetRes at hr
 rw [if_neg (by rw [hn]; exact Bool.false_ne_true)] at hr
 rw [hr]
 rfl
noncomputable def headL (l : List IE) : IE × IE := (.quo (numL l 0) (.lit 4), .rem (numL l 0) (.lit 4))
noncomputable def formD0 (args : List SV) (m : Mem) : Option (SV × List Fact) := match wordsX args m with
 | some l => cond (yes m.know (descB l)) (some (.tup (.cons (.int .i64 (headL l).1) (.cons (.int .i64 (headL l).2) (.cons .nils (.cons (.int .i64 (.lit 0)) .nil)))), [])) none
 | none => none
omit hf0 in
theorem headL_ev {E : Env} (hE : E.f = G0 V) (l : List IE) : ev E (headL l).1 = valN (l.map (ev E)) 0 / 4 ∧ ev E (headL l).2 = valN (l.map (ev E)) 0 % 4 := by
 have h0 : 0 ≤ valN (l.map (ev E)) 0 := (numOf_in _).1
 unfold headL
 dsimp only
 rw [ev_quo, ev_rem, ev_lit, numL_ev hE, Int.tdiv_eq_ediv_of_nonneg h0, Int.tmod_eq_emod_of_nonneg h0]
 exact ⟨rfl, rfl⟩
noncomputable def valD (l : List IE) (sl : SV) : SV := .tup (.cons (.int .i64 (headL l).1) (.cons (.int .i64 (headL l).2) (.cons sl (.cons (.int .i64 (.lit 0)) .nil))))
noncomputable def formDk (z : Int) (l : List IE) (_ : List SV) (m : Mem) : Option (List IE × Int) := cond (yes m.know (descB l) && decide (1 ≤ z)) (some ((List.range (3 * z.toNat)).map fun j => numL l (2 + j), z)) none
noncomputable def waysD (z : Int) : List SV → X SV := fun args m => match wordsX args m with
 | some l => cond (decide (z = 0)) (pureX formD0 args m) (cond ((headL l).1.nm m.nv && (headL l).2.nm m.nv) (blkWX 3 56 (valD l) (formDk z l) args m) none)
 | none => none
noncomputable def numD (args : List SV) (m : Mem) : Option (IE × Nat × Int) := match wordsX args m with
 | some l => some (numL l 1, 16, 0)
 | none => none
omit hf0 in
theorem same_arena {w : World} {b s : Nat} {N N' : List Int} (hs : s < 12) (h : ArenaAt w b N) (h' : ArenaAt w b N') : words50 N s = words50 N' s := by
 unfold words50
 refine List.map_congr_left fun j hj => ?_
 have hj := List.mem_range.1 hj
 have e := (h.2 (50 * s + (34 + j)) (by omega)).symm.trans (h'.2 (50 * s + (34 + j)) (by omega))
 simpa using e
theorem waysD_ok : SpecOk (G0 V) Try.prog f (waysX numD waysD) := waysX_ok fun args e n z0 z F w0 E m0 m outs w hgf hn hm0 ho hm hz => by
 unfold waysD at ho
 split at ho
 case h_2 => cases ho
 rename_i l hl
 obtain ⟨b, s, N, ha, hs, h64, hat, hw⟩ := wordsX_ok hm hl
 have hcount : valN (words50 N s) 1 = z := by
  unfold numD at hn
  split at hn
  case h_2 => cases hn
  rename_i l0 hl0
  cases hn
  obtain ⟨b0, s0, N0, ha0, hs0, _, hat0, hw0⟩ := wordsX_ok hm0 hl0
  rw [ha] at ha0
  simp only [Array.mk.injEq, List.cons.injEq, Value.pointer.injEq, Option.some.injEq, Addr.mk.injEq, and_true, Value.int.injEq, true_and] at ha0
  obtain ⟨rfl, e2⟩ := ha0
  have e2 : s = s0 := by omega
  subst e2
  rw [numL_ev hgf, hw0, same_arena hs hat0 hat] at hz
  exact hz
 obtain ⟨v1, v2⟩ := headL_ev hgf l
 rw [hw] at v1 v2
 have hv0 := (numOf_in ((words50 N s).getD 1 0)).1
 cases hz0 : decide (z = 0) with
 | true =>
  rw [hz0] at ho
  have hz0 := of_decide_eq_true hz0
  refine pureX_use hgf ho hm fun v fs hform => ?_
  unfold formD0 at hform
  rw [hl] at hform
  dsimp only at hform
  cases hy : yes m.know (descB l) with
  | false => rw [hy] at hform; cases hform
  | true =>
  rw [hy] at hform
  cases hform
  have hy := yes_ok hm.know hy
  rw [descB_ev hgf, hw] at hy
  refine ⟨?_, fun _ h => (by cases h)⟩
  rw [ha]
  refine (hf0 (w := w) hs h64 hat).mono ?_
  rintro e' w' ⟨hx, hr⟩
  refine ⟨hx, ?_⟩
  unfold GetRes at hr
  rw [if_pos hy] at hr
  rcases hr with ⟨_, rfl⟩ | ⟨h1, _⟩
  ·show _ = Ending.returned (.tuple #[.int .i64 (ev E (headL l).1), .int .i64 (ev E (headL l).2), .slice none 0 0, .int .i64 0])
   rw [v1, v2]
  ·omega
 | false =>
  rw [hz0] at ho
  have hz0 := of_decide_eq_false hz0
  dsimp only [cond] at ho
  cases hnm : ((headL l).1.nm m.nv && (headL l).2.nm m.nv) with
  | false => rw [hnm] at ho; cases ho
  | true =>
  rw [hnm] at ho
  dsimp only [cond] at ho
  rw [Bool.and_eq_true] at hnm
  refine blkWX_ok (vals := fun v => .tuple #[.int .i64 (ev E (headL l).1), .int .i64 (ev E (headL l).2), v, .int .i64 0]) ho hm (fun E' s k o l' c hA => ?_) fun es z' hform hwd hlen => ?_
  ·show Value.tuple #[.int .i64 (ev E' (headL l).1), .int .i64 (ev E' (headL l).2), dv E' (.sli s k o l' c), .int .i64 0] = _
   rw [ev_agree hA hnm.1, ev_agree hA hnm.2]
  ·unfold formDk at hform
   cases hy : (yes m.know (descB l) && decide (1 ≤ z)) with
   | false => rw [hy] at hform; cases hform
   | true =>
   rw [hy] at hform
   cases hform
   rw [Bool.and_eq_true, decide_eq_true_eq] at hy
   have hy1 := yes_ok hm.know hy.1
   rw [descB_ev hgf, hw] at hy1
   rw [ha]
   refine (hf0 (w := w) hs h64 hat).mono ?_
   rintro e' w' ⟨hx, hr⟩
   refine ⟨hx, ?_⟩
   unfold GetRes at hr
   rw [if_pos hy1] at hr
   rcases hr with ⟨h1, _⟩ | ⟨_, bl, cap, b1, b2, b3, b4, b5, rfl⟩
   ·omega
   rw [hcount] at b3 b5 ⊢
   refine ⟨bl, cap, b1, b2, b3, b4, ?_, ?_⟩
   ·rw [b5]
    congr 4
    unfold entsN
    rw [List.map_map, List.map_map]
    refine List.map_congr_left fun j _ => ?_
    show Value.int .i64 (valN (words50 N s) (2 + j)) = .int .i64 (ev E (numL l (2 + j)))
    rw [numL_ev hgf, hw]
   ·show _ = Ending.returned (.tuple #[.int .i64 (ev E (headL l).1), .int .i64 (ev E (headL l).2), .slice (some ⟨bl, 0, none⟩) z.toNat cap, .int .i64 0])
    rw [v1, v2]
noncomputable def factsD (args : List SV) (m : Mem) : List Fact := match wordsX args m with
 | some l => cond (yes m.know (descB l)) [(numL l 1, 0, 16), (numL l 0, 0, 262143), (.rem (numL l 0) (.lit 4), 0, 2), (.quo (numL l 0) (.lit 4), 0, 65535)] []
 | none => []
omit hf0 in
theorem factsD_ok : ∀ (F : Nat → Prop) (w0 : World) (E : Env) (args : List SV) (m : Mem) (w : World), E.f = G0 V → MemOk F w0 E m w → ∀ y ∈ factsD args m, FactOk E y := fun F w0 E args m w hgf hm y hy => by
 unfold factsD at hy
 split at hy
 case h_2 => cases hy
 rename_i l hl
 obtain ⟨b, s, N, ha, hs, h64, hat, hw⟩ := wordsX_ok hm hl
 cases hq : yes m.know (descB l) with
 | false => rw [hq] at hy; cases hy
 | true =>
 rw [hq] at hy
 have hq := yes_ok hm.know hq
 rw [descB_ev hgf] at hq
 unfold descOK at hq
 simp only [Bool.and_eq_true, decide_eq_true_eq] at hq
 obtain ⟨d1, d2, d3, d4, d5, _⟩ := hq
 obtain ⟨v1, v2⟩ := headL_ev hgf l
 have h0 : 0 ≤ valN (l.map (ev E)) 0 := (numOf_in _).1
 have h1 : 0 ≤ valN (l.map (ev E)) 1 := (numOf_in _).1
 simp only [cond, List.mem_cons, List.not_mem_nil, or_false] at hy
 unfold FactOk
 rcases hy with rfl | rfl | rfl | rfl
 ·dsimp only; rw [numL_ev hgf]; omega
 ·dsimp only; rw [numL_ev hgf]; omega
 ·dsimp only
  have v2 : ev E (.rem (numL l 0) (.lit 4)) = _ := v2
  rw [v2]; omega
 ·dsimp only
  have v1 : ev E (.quo (numL l 0) (.lit 4)) = _ := v1
  rw [v1]; omega
noncomputable def getDX : List SV → X SV := preX askD (factX factsD (orX (pureX formDn) (waysX numD waysD)))
theorem getDX_ok : SpecOk (G0 V) Try.prog f getDX := preX_ok (factX_ok (orX_ok (formDn_ok hf0) (waysD_ok hf0)) factsD_ok) _
end
theorem get22_ok {V : List Int} : SpecOk (G0 V) Try.prog 22 getDX := getDX_ok (f := 22) fun hs h64 ha => sem_desc runs22 hs h64 ha
theorem get21_ok {V : List Int} : SpecOk (G0 V) Try.prog 21 getDX := getDX_ok (f := 21) fun hs h64 ha => sem_desc runs21 hs h64 ha
end Go.Proofs.Ytofmndcdcchflaa
namespace Go.Proofs.Ytofmndcdcchflaa
open Go.Sx Go Go.DescNum
set_option maxRecDepth 100000
theorem ent_of_sw {ws : List Int} {k : Nat} (hv : ∀ j, j < 3 * k → isN ws (2 + j) = true) : ∀ n, n ≤ k → swOK (entsN ws k) n = true → entOK ws n = true
 | 0, _, _ => rfl
 | n + 1, hn, h => by
  unfold swOK at h
  rw [entsN_at (by omega), entsN_at (by omega), entsN_at (by omega), show 2 + (3 * n + 1) = 3 + 3 * n by omega, show 2 + (3 * n + 2) = 4 + 3 * n by omega] at h
  simp only [Bool.and_eq_true, Bool.or_eq_true, decide_eq_true_eq] at h
  obtain ⟨e1, e2, _, _, e5⟩ := h
  have v0 := hv (3 * n) (by omega)
  have v1 := hv (3 * n + 1) (by omega)
  have v2 := hv (3 * n + 2) (by omega)
  rw [show 2 + (3 * n + 1) = 3 + 3 * n by omega] at v1
  rw [show 2 + (3 * n + 2) = 4 + 3 * n by omega] at v2
  unfold entOK
  simp only [Bool.and_eq_true, Bool.or_eq_true, decide_eq_true_eq]
  refine ⟨ent_of_sw hv n (by omega) e1, v0, v1, v2, e2.2, ?_⟩
  rcases e5 with e5 | e5
  ·exact .inl e5
  ·by_cases h0 : n = 0
   ·exact .inl h0
   ·rw [entsN_at (by omega), show 2 + (3 * n - 3) = 3 * n - 1 by omega] at e5
    exact .inr e5
noncomputable def litN : IE → Option Nat
 | .lit (.ofNat n) => some n
 | _ => none
theorem litN_ok {E : Env} {e : IE} {n : Nat} (h : litN e = some n) : ev E e = n := by
 unfold litN at h
 split at h
 ·cases h
  rfl
 ·cases h
noncomputable def ptN (kn : Know) (e : IE) : Option Nat := cond (zEq (rng kn.facts e).1 (rng kn.facts e).2 && zEq (rng kn.facts e).1 (rng kn.facts e).1.toNat) (some (rng kn.facts e).1.toNat) none
theorem ptN_ok {E : Env} {kn : Know} (hk : KnowOk E kn) {e : IE} {n : Nat} (h : ptN kn e = some n) : ev E e = n := by
 unfold ptN at h
 cases hc : (zEq (rng kn.facts e).1 (rng kn.facts e).2 && zEq (rng kn.facts e).1 (rng kn.facts e).1.toNat) with
 | false => rw [hc] at h; cases h
 | true =>
 rw [hc] at h
 cases h
 rw [Bool.and_eq_true] at hc
 have h1 := zEq_ok hc.1
 have h2 := zEq_ok hc.2
 have h3 := rng_ok hk.env hk.facts e
 omega
structure Back where
 g : IE
 d : Nat
 k : Nat
 qs : List IE
noncomputable def backW (args : List SV) (m : Mem) : Option Back := match wordsX args m with
 | some l => match litN (dm 4 (dm 4 (atL l 0)).1).2, ptN m.know (dm 4 (atL l 1)).1 with
  | some d, some k => cond (isWd m.know (atL l 0) && (isWd m.know (atL l 1) && (Nat.ble d 2 && (Nat.ble k 16 && (factIn m.know (dm 4 (dm 4 (atL l 0)).1).1 0 65535 && (((List.range (3 * k)).all fun j => isWd m.know (atL l (2 + j))) && orB' (Nat.beq k 0) (yes m.know (swB ((List.range (3 * k)).map fun j => (dm 4 (atL l (2 + j))).1)))))))))
   (some ⟨(dm 4 (dm 4 (atL l 0)).1).1, d, k, (List.range (3 * k)).map fun j => (dm 4 (atL l (2 + j))).1⟩) none
  | _, _ => none
 | none => none
theorem backW_ok {V : List Int} {F : Nat → Prop} {w0 w : World} {E : Env} {args : List SV} {m : Mem} {r : Back} (hgf : E.f = G0 V) (hm : MemOk F w0 E m w) (h : backW args m = some r) :
  ∃ (b s : Nat) (N : List Int), (args.map (dv E)).toArray = #[.pointer (some ⟨b, 0, none⟩), .int .i64 (s : Int)] ∧ s < 12 ∧ (∀ z ∈ N, in64 z) ∧ ArenaAt w b N ∧
   descOK (words50 N s) = true ∧ valN (words50 N s) 0 / 4 = ev E r.g ∧ valN (words50 N s) 0 % 4 = r.d ∧ valN (words50 N s) 1 = r.k ∧ entsN (words50 N s) r.k = r.qs.map (ev E) := by
 unfold backW at h
 split at h
 case h_2 => cases h
 rename_i l hl
 split at h
 case h_2 => cases h
 rename_i d k hd hk
 obtain ⟨b, s, N, ha, hs, h64, hat, hw⟩ := wordsX_ok hm hl
 have hat' : ∀ j, ev E (atL l j) = (words50 N s).getD j 0 := fun j => by rw [atL_ev, hw]
 obtain ⟨ws, hws⟩ : ∃ ws, ws = words50 N s := ⟨_, rfl⟩
 rw [← hws] at hw hat'
 have hd := litN_ok (E := E) hd
 have hk := ptN_ok hm.know hk
 cases hc : (isWd m.know (atL l 0) && (isWd m.know (atL l 1) && (Nat.ble d 2 && (Nat.ble k 16 && (factIn m.know (dm 4 (dm 4 (atL l 0)).1).1 0 65535 && (((List.range (3 * k)).all fun j => isWd m.know (atL l (2 + j))) && orB' (Nat.beq k 0) (yes m.know (swB ((List.range (3 * k)).map fun j => (dm 4 (atL l (2 + j))).1))))))))) with
 | false => rw [hc] at h; cases h
 | true =>
 rw [hc] at h
 cases h
 simp only [Bool.and_eq_true] at hc
 obtain ⟨c1, c2, c3, c4, c5, c6, c7⟩ := hc
 obtain ⟨v1, v2, _, _⟩ := isWd_ok hm.know c1
 obtain ⟨u1, u2, _, _⟩ := isWd_ok hm.know c2
 have c3 := Nat.le_of_ble_eq_true c3
 have c4 := Nat.le_of_ble_eq_true c4
 have c5 := factIn_ok hm.know c5
 have hq := dm_ok E 4 (dm 4 (atL l 0)).1
 rw [hd] at hq
 rw [hat'] at v1 v2 u1 u2
 have n0 : valN ws 0 = 4 * ev E (dm 4 (dm 4 (atL l 0)).1).1 + d := by unfold valN; rw [v2, hq]
 have n1 : valN ws 1 = k := by unfold valN; rw [u2, hk]
 have hents : entsN ws k = ((List.range (3 * k)).map fun j => (dm 4 (atL l (2 + j))).1).map (ev E) := by
  unfold entsN
  rw [List.map_map]
  refine List.map_congr_left fun j hj => ?_
  obtain ⟨_, x2, _, _⟩ := isWd_ok hm.know (List.all_eq_true.1 c6 j hj)
  rw [hat'] at x2
  exact x2
 have c7 : swOK (entsN ws k) k = true := by
  rcases orB'_ok c7 with c7 | c7
  ·rw [Nat.eq_of_beq_eq_true c7]
   rfl
  ·have c7 := yes_ok hm.know c7
   rw [swB_ev hgf (k := k) (by simp), ← hents] at c7
   exact c7
 refine ⟨b, s, N, ha, hs, h64, hat, ?_⟩
 rw [← hws]
 refine ⟨?_, by rw [n0]; show _ = ev E (dm 4 (dm 4 (atL l 0)).1).1; omega, by rw [n0]; show _ = (d : Int); omega, n1, hents⟩
 unfold descOK
 simp only [Bool.and_eq_true, decide_eq_true_eq]
 refine ⟨v1, u1, by omega, by omega, by omega, ?_⟩
 rw [n1, Int.toNat_natCast]
 refine ent_of_sw (fun j hj => ?_) k (Nat.le_refl _) c7
 obtain ⟨x1, _, _, _⟩ := isWd_ok hm.know (List.all_eq_true.1 c6 j (List.mem_range.2 hj))
 rw [hat'] at x1
 exact x1
noncomputable def valK (r : Back) (sl : SV) : SV := .tup (.cons (.int .i64 r.g) (.cons (.int .i64 (.lit r.d)) (.cons sl (.cons (.int .i64 (.lit 0)) .nil))))
noncomputable def formK0 (args : List SV) (m : Mem) : Option (SV × List Fact) := match backW args m with
 | some r => cond (Nat.beq r.k 0) (some (valK r .nils, [])) none
 | none => none
noncomputable def formKk (r : Back) (_ : List SV) (_ : Mem) : Option (List IE × Int) := cond (Nat.ble 1 r.k) (some (r.qs, r.k)) none
noncomputable def backX : List SV → X SV := orX (pureX formK0) fun args m => match backW args m with
 | some r => cond (r.g.nm m.nv) (blkWX 3 56 (valK r) (formKk r) args m) none
 | none => none
theorem backX_ok {V : List Int} {f : Nat} (hf0 : SemGet f) : SpecOk (G0 V) Try.prog f backX := orX_ok (pureX_ok fun F w0 E args m w v fs hgf hm hf => by
 unfold formK0 at hf
 split at hf
 case h_2 => cases hf
 rename_i r hr
 cases hk : Nat.beq r.k 0 with
 | false => rw [hk] at hf; cases hf
 | true =>
 rw [hk] at hf
 cases hf
 have hk := Nat.eq_of_beq_eq_true hk
 obtain ⟨b, s, N, ha, hs, h64, hat, hd, q1, q2, q3, q4⟩ := backW_ok hgf hm hr
 refine ⟨?_, fun _ h => (by cases h)⟩
 rw [ha]
 refine (hf0 (w := w) hs h64 hat).mono ?_
 rintro e' w' ⟨hx, h⟩
 refine ⟨hx, ?_⟩
 unfold GetRes at h
 rw [if_pos hd] at h
 rcases h with ⟨_, rfl⟩ | ⟨h1, _⟩
 ·show _ = Ending.returned (.tuple #[.int .i64 (ev E r.g), .int .i64 (r.d : Int), .slice none 0 0, .int .i64 0])
  rw [q1, q2]
 ·omega) fun F w0 E args m outs w hgf ho hm => by
 split at ho
 case h_2 => cases ho
 rename_i r hr
 cases hnm : r.g.nm m.nv with
 | false => rw [hnm] at ho; cases ho
 | true =>
 rw [hnm] at ho
 dsimp only [cond] at ho
 obtain ⟨b, s, N, ha, hs, h64, hat, hd, q1, q2, q3, q4⟩ := backW_ok hgf hm hr
 refine blkWX_ok (vals := fun v => .tuple #[.int .i64 (ev E r.g), .int .i64 (r.d : Int), v, .int .i64 0]) ho hm (fun E' s k o l' c hA => ?_) fun es z' hform hwd hlen => ?_
 ·show Value.tuple #[.int .i64 (ev E' r.g), .int .i64 (r.d : Int), dv E' (.sli s k o l' c), .int .i64 0] = _
  rw [ev_agree hA hnm]
 ·unfold formKk at hform
  cases hk : Nat.ble 1 r.k with
  | false => rw [hk] at hform; cases hform
  | true =>
  rw [hk] at hform
  cases hform
  have hk := Nat.le_of_ble_eq_true hk
  rw [ha]
  refine (hf0 (w := w) hs h64 hat).mono ?_
  rintro e' w' ⟨hx, h⟩
  refine ⟨hx, ?_⟩
  unfold GetRes at h
  rw [if_pos hd] at h
  rcases h with ⟨h1, _⟩ | ⟨_, bl, cap, b1, b2, b3, b4, b5, rfl⟩
  ·omega
  rw [q3, Int.toNat_natCast] at b3 b5 ⊢
  refine ⟨bl, cap, b1, b2, b3, b4, ?_, ?_⟩
  ·rw [b5, q4, List.map_map]
   rfl
  ·rw [q1, q2]
theorem back21_ok {V : List Int} : SpecOk (G0 V) Try.prog 21 backX := backX_ok fun hs h64 ha => sem_desc runs21 hs h64 ha
end Go.Proofs.Ytofmndcdcchflaa
