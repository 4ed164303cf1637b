/- Get of a slot whose words are known: its contract. -/
import Derived.Test.YtofmndcdcchflaaGX
namespace Go.Proofs.Ytofmndcdcchflaa
open Go.Sx Go Go.DescNum
set_option maxRecDepth 100000
theorem ent_of_sw {ws : List Int} {k : Nat} (hv : ∀ j, j < 3 * k → isN ws (2 + j) = true) : ∀ n, n ≤ k → swOK (entsN ws k) n = true → entOK ws n = true
 | 0, _, _ => rfl
 | n + 1, hn, h => by
  unfold swOK at h
  rw [entsN_at (by omega), entsN_at (by omega), entsN_at (by omega), show 2 + (3 * n + 1) = 3 + 3 * n by omega, show 2 + (3 * n + 2) = 4 + 3 * n by omega] at h
  simp only [Bool.and_eq_true, Bool.or_eq_true, decide_eq_true_eq] at h
  obtain ⟨e1, e2, _, _, e5⟩ := h
  have v0 := hv (3 * n) (by omega)
  have v1 := hv (3 * n + 1) (by omega)
  have v2 := hv (3 * n + 2) (by omega)
  rw [show 2 + (3 * n + 1) = 3 + 3 * n by omega] at v1
  rw [show 2 + (3 * n + 2) = 4 + 3 * n by omega] at v2
  unfold entOK
  simp only [Bool.and_eq_true, Bool.or_eq_true, decide_eq_true_eq]
  refine ⟨ent_of_sw hv n (by omega) e1, v0, v1, v2, e2.2, ?_⟩
  rcases e5 with e5 | e5
  ·exact .inl e5
  ·by_cases h0 : n = 0
   ·exact .inl h0
   ·rw [entsN_at (by omega), show 2 + (3 * n - 3) = 3 * n - 1 by omega] at e5
    exact .inr e5
noncomputable def litN : IE → Option Nat
 | .lit (.ofNat n) => some n
 | _ => none
theorem litN_ok {E : Env} {e : IE} {n : Nat} (h : litN e = some n) : ev E e = n := by
 unfold litN at h
 split at h
 ·cases h
  rfl
 ·cases h
noncomputable def ptN (kn : Know) (e : IE) : Option Nat := cond (zEq (rng kn.facts e).1 (rng kn.facts e).2 && zEq (rng kn.facts e).1 (rng kn.facts e).1.toNat) (some (rng kn.facts e).1.toNat) none
theorem ptN_ok {E : Env} {kn : Know} (hk : KnowOk E kn) {e : IE} {n : Nat} (h : ptN kn e = some n) : ev E e = n := by
 unfold ptN at h
 cases hc : (zEq (rng kn.facts e).1 (rng kn.facts e).2 && zEq (rng kn.facts e).1 (rng kn.facts e).1.toNat) with
 | false => rw [hc] at h; cases h
 | true =>
 rw [hc] at h
 cases h
 rw [Bool.and_eq_true] at hc
 have h1 := zEq_ok hc.1
 have h2 := zEq_ok hc.2
 have h3 := rng_ok hk.env hk.facts e
 omega
structure Back where
 g : IE
 d : Nat
 k : Nat
 qs : List IE
noncomputable def backW (args : List SV) (m : Mem) : Option Back := match wordsX args m with
 | some l => match litN (dm 4 (dm 4 (atL l 0)).1).2, ptN m.know (dm 4 (atL l 1)).1 with
  | some d, some k => cond (isWd m.know (atL l 0) && (isWd m.know (atL l 1) && (Nat.ble d 2 && (Nat.ble k 16 && (factIn m.know (dm 4 (dm 4 (atL l 0)).1).1 0 65535 && (((List.range (3 * k)).all fun j => isWd m.know (atL l (2 + j))) && orB' (Nat.beq k 0) (yes m.know (swB ((List.range (3 * k)).map fun j => (dm 4 (atL l (2 + j))).1)))))))))
   (some ⟨(dm 4 (dm 4 (atL l 0)).1).1, d, k, (List.range (3 * k)).map fun j => (dm 4 (atL l (2 + j))).1⟩) none
  | _, _ => none
 | none => none
theorem backW_ok {V : List Int} {F : Nat → Prop} {w0 w : World} {E : Env} {args : List SV} {m : Mem} {r : Back} (hgf : E.f = G0 V) (hm : MemOk F w0 E m w) (h : backW args m = some r) :
  ∃ (b s : Nat) (N : List Int), (args.map (dv E)).toArray = #[.pointer (some ⟨b, 0, none⟩), .int .i64 (s : Int)] ∧ s < 12 ∧ (∀ z ∈ N, in64 z) ∧ ArenaAt w b N ∧
   descOK (words50 N s) = true ∧ valN (words50 N s) 0 / 4 = ev E r.g ∧ valN (words50 N s) 0 % 4 = r.d ∧ valN (words50 N s) 1 = r.k ∧ entsN (words50 N s) r.k = r.qs.map (ev E) := by
 unfold backW at h
 split at h
 case h_2 => cases h
 rename_i l hl
 split at h
 case h_2 => cases h
 rename_i d k hd hk
 obtain ⟨b, s, N, ha, hs, h64, hat, hw⟩ := wordsX_ok hm hl
 have hat' : ∀ j, ev E (atL l j) = (words50 N s).getD j 0 := fun j => by rw [atL_ev, hw]
 obtain ⟨ws, hws⟩ : ∃ ws, ws = words50 N s := ⟨_, rfl⟩
 rw [← hws] at hw hat'
 have hd := litN_ok (E := E) hd
 have hk := ptN_ok hm.know hk
 cases hc : (isWd m.know (atL l 0) && (isWd m.know (atL l 1) && (Nat.ble d 2 && (Nat.ble k 16 && (factIn m.know (dm 4 (dm 4 (atL l 0)).1).1 0 65535 && (((List.range (3 * k)).all fun j => isWd m.know (atL l (2 + j))) && orB' (Nat.beq k 0) (yes m.know (swB ((List.range (3 * k)).map fun j => (dm 4 (atL l (2 + j))).1))))))))) with
 | false => rw [hc] at h; cases h
 | true =>
 rw [hc] at h
 cases h
 simp only [Bool.and_eq_true] at hc
 obtain ⟨c1, c2, c3, c4, c5, c6, c7⟩ := hc
 obtain ⟨v1, v2, _, _⟩ := isWd_ok hm.know c1
 obtain ⟨u1, u2, _, _⟩ := isWd_ok hm.know c2
 have c3 := Nat.le_of_ble_eq_true c3
 have c4 := Nat.le_of_ble_eq_true c4
 have c5 := factIn_ok hm.know c5
 have hq := dm_ok E 4 (dm 4 (atL l 0)).1
 rw [hd] at hq
 rw [hat'] at v1 v2 u1 u2
 have n0 : valN ws 0 = 4 * ev E (dm 4 (dm 4 (atL l 0)).1).1 + d := by unfold valN; rw [v2, hq]
 have n1 : valN ws 1 = k := by unfold valN; rw [u2, hk]
 have hents : entsN ws k = ((List.range (3 * k)).map fun j => (dm 4 (atL l (2 + j))).1).map (ev E) := by
  unfold entsN
  rw [List.map_map]
  refine List.map_congr_left fun j hj => ?_
  obtain ⟨_, x2, _, _⟩ := isWd_ok hm.know (List.all_eq_true.1 c6 j hj)
  rw [hat'] at x2
  exact x2
 have c7 : swOK (entsN ws k) k = true := by
  rcases orB'_ok c7 with c7 | c7
  ·rw [Nat.eq_of_beq_eq_true c7]
   rfl
  ·have c7 := yes_ok hm.know c7
   rw [swB_ev hgf (k := k) (by simp), ← hents] at c7
   exact c7
 refine ⟨b, s, N, ha, hs, h64, hat, ?_⟩
 rw [← hws]
 refine ⟨?_, by rw [n0]; show _ = ev E (dm 4 (dm 4 (atL l 0)).1).1; omega, by rw [n0]; show _ = (d : Int); omega, n1, hents⟩
 unfold descOK
 simp only [Bool.and_eq_true, decide_eq_true_eq]
 refine ⟨v1, u1, by omega, by omega, by omega, ?_⟩
 rw [n1, Int.toNat_natCast]
 refine ent_of_sw (fun j hj => ?_) k (Nat.le_refl _) c7
 obtain ⟨x1, _, _, _⟩ := isWd_ok hm.know (List.all_eq_true.1 c6 j (List.mem_range.2 hj))
 rw [hat'] at x1
 exact x1
noncomputable def valK (r : Back) (sl : SV) : SV := .tup (.cons (.int .i64 r.g) (.cons (.int .i64 (.lit r.d)) (.cons sl (.cons (.int .i64 (.lit 0)) .nil))))
noncomputable def formK0 (args : List SV) (m : Mem) : Option (SV × List Fact) := match backW args m with
 | some r => cond (Nat.beq r.k 0) (some (valK r .nils, [])) none
 | none => none
noncomputable def formKk (r : Back) (_ : List SV) (_ : Mem) : Option (List IE × Int) := cond (Nat.ble 1 r.k) (some (r.qs, r.k)) none
noncomputable def backX : List SV → X SV := orX (pureX formK0) fun args m => match backW args m with
 | some r => cond (r.g.nm m.nv) (blkWX 3 56 (valK r) (formKk r) args m) none
 | none => none
theorem backX_ok {V : List Int} {f : Nat} (hf0 : SemGet f) : SpecOk (G0 V) Try.prog f backX := orX_ok (pureX_ok fun F w0 E args m w v fs hgf hm hf => by
 unfold formK0 at hf
 split at hf
 case h_2 => cases hf
 rename_i r hr
 cases hk : Nat.beq r.k 0 with
 | false => rw [hk] at hf; cases hf
 | true =>
 rw [hk] at hf
 cases hf
 have hk := Nat.eq_of_beq_eq_true hk
 obtain ⟨b, s, N, ha, hs, h64, hat, hd, q1, q2, q3, q4⟩ := backW_ok hgf hm hr
 refine ⟨?_, fun _ h => (by cases h)⟩
 rw [ha]
 refine (hf0 (w := w) hs h64 hat).mono ?_
 rintro e' w' ⟨hx, h⟩
 refine ⟨hx, ?_⟩
 unfold GetRes at h
 rw [if_pos hd] at h
 rcases h with ⟨_, rfl⟩ | ⟨h1, _⟩
 ·show _ = Ending.returned (.tuple #[.int .i64 (ev E r.g), .int .i64 (r.d : Int), .slice none 0 0, .int .i64 0])
  rw [q1, q2]
 ·omega) fun F w0 E args m outs w hgf ho hm => by
 split at ho
 case h_2 => cases ho
 rename_i r hr
 cases hnm : r.g.nm m.nv with
 | false => rw [hnm] at ho; cases ho
 | true =>
 rw [hnm] at ho
 dsimp only [cond] at ho
 obtain ⟨b, s, N, ha, hs, h64, hat, hd, q1, q2, q3, q4⟩ := backW_ok hgf hm hr
 refine blkWX_ok (vals := fun v => .tuple #[.int .i64 (ev E r.g), .int .i64 (r.d : Int), v, .int .i64 0]) ho hm (fun E' s k o l' c hA => ?_) fun es z' hform hwd hlen => ?_
 ·show Value.tuple #[.int .i64 (ev E' r.g), .int .i64 (r.d : Int), dv E' (.sli s k o l' c), .int .i64 0] = _
  rw [ev_agree hA hnm]
 ·unfold formKk at hform
  cases hk : Nat.ble 1 r.k with
  | false => rw [hk] at hform; cases hform
  | true =>
  rw [hk] at hform
  cases hform
  have hk := Nat.le_of_ble_eq_true hk
  rw [ha]
  refine (hf0 (w := w) hs h64 hat).mono ?_
  rintro e' w' ⟨hx, h⟩
  refine ⟨hx, ?_⟩
  unfold GetRes at h
  rw [if_pos hd] at h
  rcases h with ⟨h1, _⟩ | ⟨_, bl, cap, b1, b2, b3, b4, b5, rfl⟩
  ·omega
  rw [q3, Int.toNat_natCast] at b3 b5 ⊢
  refine ⟨bl, cap, b1, b2, b3, b4, ?_, ?_⟩
  ·rw [b5, q4, List.map_map]
   rfl
  ·rw [q1, q2]
theorem back21_ok {V : List Int} : SpecOk (G0 V) Try.prog 21 backX := backX_ok fun hs h64 ha => sem_desc runs21 hs h64 ha
end Go.Proofs.Ytofmndcdcchflaa
