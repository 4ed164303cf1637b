/- Get: what it comes to, for any words. -/
import Derived.Test.YtofmndcdcchflaaGD
import Derived.Test.YtofmndcdcchflaaE5
namespace Go.Proofs.Ytofmndcdcchflaa
open Go.Sx Go Go.DescNum
set_option maxRecDepth 100000
def entsN (ws : List Int) (k : Nat) : List Int := (List.range (3 * k)).map fun j => valN ws (2 + j)
def GetRes (w : World) (ws : List Int) (e : Ending) (w' : World) : Prop := if descOK ws = true then
  (valN ws 1 = 0 ∧ e = .returned (.tuple #[.int .i64 (valN ws 0 / 4), .int .i64 (valN ws 0 % 4), .slice none 0 0, .int .i64 0])) ∨
  (0 < valN ws 1 ∧ ∃ bl cap : Nat, w.heap.size ≤ bl ∧ bl < w'.heap.size ∧ (valN ws 1).toNat ≤ cap ∧ (cap : Int) ≤ hi64 ∧
   w'.heap[bl]? = some (.cells ((entsN ws (valN ws 1).toNat).map (Value.int .i64) ++ List.replicate ((cap - (valN ws 1).toNat) * 3) (Value.int .i64 0)).toArray 56 (0, 0)) ∧
   e = .returned (.tuple #[.int .i64 (valN ws 0 / 4), .int .i64 (valN ws 0 % 4), .slice (some ⟨bl, 0, none⟩) (valN ws 1).toNat cap, .int .i64 0]))
 else e = .returned (.tuple #[.int .i64 0, .int .i64 0, .slice none 0 0, .int .i64 1300])
theorem cells3_ok {E : Env} {kn : Know} (hk : KnowOk E kn) {c cap : Nat} {n : Int} (hc : E.i c = cap) (h0 : 0 ≤ n) (hn : n ≤ cap) : ∀ {l : List IE} {v : SV}, cells3 kn c n l v = true → dl E v = l.map (fun e => Value.int .i64 (ev E e)) ++ List.replicate ((cap - n.toNat) * 3) (Value.int .i64 0)
 | [], v, h => by
  unfold cells3 at h
  split at h
  ·rename_i e heq
   have := sameK_ok hk h
   rw [List.map_nil, List.nil_append, ← tailW_dl (wd := 3) hc h0 hn]
   show arrCells E .i64 0 (ev E e).toNat .nil ++ [] = arrCells E .i64 0 (ev E (.mul (.add (.var c) (.lit (-n))) (.lit 3))).toNat .nil ++ []
   rw [this]
  ·rename_i heq; cases heq
  ·cases h
 | e :: l, v, h => by
  unfold cells3 at h
  split at h
  ·rename_i heq; cases heq
  ·rename_i e' l' x r heq
   cases heq
   rw [Bool.and_eq_true] at h
   have h1 := sameK_ok hk h.1
   show [Value.int .i64 (ev E x)] ++ dl E r = _
   rw [cells3_ok hk hc h0 hn h.2, h1]
   rfl
  ·cases h
theorem cellsG_ev {E : Env} {N : List Int} {s : Nat} {V : List Int} (h : At E N s V) {k : Nat} (hk : k ≤ 16) : (cellsG k).map (fun e => Value.int .i64 (ev E e)) = (entsN (words50 N s) k).map (Value.int .i64) := by
 unfold cellsG entsN
 rw [List.map_map, List.map_map]
 refine List.map_congr_left fun j hj => ?_
 have hj := List.mem_range.1 hj
 show Value.int .i64 (ev E (nE (2 + j))) = .int .i64 (valN (words50 N s) (2 + j))
 rw [nE_ev h (by omega)]
theorem entsN_at {ws : List Int} {k i : Nat} (h : i < 3 * k) : (entsN ws k).getD i 0 = valN ws (2 + i) := by
 unfold entsN
 rw [List.getD_eq_getElem?_getD, List.getElem?_map, List.getElem?_range h]
 rfl
theorem sw_of_ent {ws : List Int} {k : Nat} : ∀ n, n ≤ k → entOK ws n = true → swOK (entsN ws k) n = true
 | 0, _, _ => rfl
 | n + 1, hn, h => by
  unfold entOK at h
  simp only [Bool.and_eq_true, Bool.or_eq_true, decide_eq_true_eq] at h
  obtain ⟨e1, _, _, _, e5, e6⟩ := h
  have r0 := numOf_in (ws.getD (2 + 3 * n) 0)
  have r1 := numOf_in (ws.getD (3 + 3 * n) 0)
  have r2 := numOf_in (ws.getD (4 + 3 * n) 0)
  unfold swOK
  rw [entsN_at (by omega), entsN_at (by omega), entsN_at (by omega), show 2 + (3 * n + 1) = 3 + 3 * n by omega, show 2 + (3 * n + 2) = 4 + 3 * n by omega]
  simp only [Bool.and_eq_true, Bool.or_eq_true, decide_eq_true_eq]
  refine ⟨sw_of_ent n (by omega) e1, ⟨r0.1, e5⟩, r1, r2, ?_⟩
  rcases e6 with e6 | e6
  ·exact .inl e6
  ·by_cases h0 : n = 0
   ·exact .inl h0
   ·rw [entsN_at (by omega), show 2 + (3 * n - 3) = 3 * n - 1 by omega]
    exact .inr e6
theorem badSw_of {E : Env} {N : List Int} {s : Nat} {V : List Int} (h : At E N s V) {kn : Know} (hk : KnowOk E kn) {k : Nat} (hk16 : k ≤ 16) (hcount : valN (words50 N s) 1 = k) (hb : nay kn (swB (cellsG k)) = true) : descOK (words50 N s) = false := by
 cases hd : descOK (words50 N s) with
 | false => rfl
 | true =>
  exfalso
  have hb := nay_ok hk hb
  have hmap : (cellsG k).map (ev E) = entsN (words50 N s) k := by
   unfold cellsG entsN
   rw [List.map_map]
   refine List.map_congr_left fun j hj => ?_
   have hj := List.mem_range.1 hj
   exact nE_ev h (by omega)
  rw [swB_ev h.f (k := k) (by rw [hmap]; unfold entsN; simp), hmap] at hb
  unfold descOK at hd
  simp only [Bool.and_eq_true, decide_eq_true_eq] at hd
  obtain ⟨_, _, _, _, _, d6⟩ := hd
  rw [hcount, Int.toNat_natCast] at d6
  rw [sw_of_ent k (Nat.le_refl _) d6] at hb
  cases hb
theorem chkG_ok {w w' : World} {E : Env} {q : SV × Mem} {N : List Int} {s k : Nat} {V : List Int} (h : At E N s V) (hk16 : k ≤ 16) (hcount : valN (words50 N s) 1 = k) (hm : MemOk (fun _ => False) w E q.2 w') (hq : chkG k q = true) : GetRes w (words50 N s) (.returned (dv E q.1)) w' := by
 have hk := hm.know
 unfold chkG at hq
 split at hq
 ·rename_i e1 e2 sl heq
  simp only [Bool.and_eq_true] at hq
  obtain ⟨q1, q2, q3, q4, q5⟩ := hq
  have hd := good_ok h hk hk16 hcount q1 q2
  have q3 := sameK_ok hk q3
  have q4 := sameK_ok hk q4
  obtain ⟨u1, u2⟩ := quo4 h
  rw [u1] at q3
  rw [u2] at q4
  unfold GetRes
  rw [if_pos hd, heq]
  unfold slG at q5
  split at q5
  ·left
   have q5 := Nat.eq_of_beq_eq_true q5
   refine ⟨by omega, ?_⟩
   show Ending.returned (.tuple #[.int .i64 (ev E e1), .int .i64 (ev E e2), .slice none 0 0, .int .i64 0]) = _
   rw [q3, q4]
  ·rename_i s' j' n c
   simp only [Bool.and_eq_true] at q5
   obtain ⟨g0, g1, g2, g3⟩ := q5
   have g1 := zEq_ok g1
   have g2 := factIn_ok hk g2
   split at g3
   case h_2 => cases g3
   rename_i en hf
   simp only [Bool.and_eq_true, Bool.not_eq_true'] at g3
   obtain ⟨r1, r2, r3, r4⟩ := g3
   have r2 := Nat.eq_of_beq_eq_true r2
   obtain ⟨f1', f2, f3⟩ := Mem.find_ok hf
   have he := hm.ents en f1'
   obtain ⟨⟨o1, o2⟩, o3⟩ := he.own r1
   have hmine := hm.mine en f1' r1
   have hblk : en.blk E = E.base s' + j' := by unfold Ent.blk; rw [f2, f3]
   have g2 : n ≤ E.i c ∧ E.i c ≤ hi64 := g2
   right
   have g0 := Nat.lt_of_lt_of_le Nat.zero_lt_one (Nat.le_of_ble_eq_true g0)
   refine ⟨by omega, E.base s' + j', (E.i c).toNat, ?_, ?_, ?_, ?_, ?_, ?_⟩
   ·rcases hmine with h | h
    ·rw [← hblk]; exact h
    ·exact absurd h (fun h => h)
   ·rw [← hblk]; exact he.lt
   ·rw [hcount]; omega
   ·have := g2.1
    omega
   ·rw [← hblk, o3, r2]
    have hcells := cells3_ok hk (c := c) (cap := (E.i c).toNat) (n := n) (by omega) (by omega) (by omega) r4
    rw [hcells, cellsG_ev h hk16, hcount, Int.toNat_natCast, g1, Int.toNat_natCast]
   ·show Ending.returned (.tuple #[.int .i64 (ev E e1), .int .i64 (ev E e2), .slice (some ⟨E.base s' + j', E.o s' + (0 : Int).toNat, none⟩) n.toNat (E.i c).toNat, .int .i64 0]) = _
    rw [q3, q4, ← f2, o1, g1, hcount]
    rfl
  ·cases q5
 ·rename_i heq
  have hd : descOK (words50 N s) = false := by
   rcases orB'_ok hq with g | g
   ·exact badHd_ok h hk g
   rcases orB'_ok g with g | g
   ·exact badEnts_ok h hk hk16 hcount g
   ·exact badSw_of h hk hk16 hcount g
  unfold GetRes
  rw [if_neg (by rw [hd]; exact Bool.false_ne_true), heq]
  rfl
 ·cases hq
end Go.Proofs.Ytofmndcdcchflaa
