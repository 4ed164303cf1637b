/- a shelf of one descriptor: what it answers. -/
import Derived.Test.YtdchpckikclmlaaSH
namespace Go.Proofs.Ytdchpckikclmlaa
open Go.Sx Go
set_option maxRecDepth 100000
def OrdN (N : List Int) (k : Nat) : Prop := ∀ n, n < k → (0 ≤ N.getD (3 * n) 0 ∧ N.getD (3 * n) 0 ≤ 15) ∧ (0 ≤ N.getD (3 * n + 1) 0 ∧ N.getD (3 * n + 1) 0 ≤ 1099511627775) ∧ (0 ≤ N.getD (3 * n + 2) 0 ∧ N.getD (3 * n + 2) 0 ≤ 1099511627775) ∧ (n = 0 ∨ (-15 ≤ N.getD (3 * n - 3) 0 - N.getD (3 * n) 0 ∧ N.getD (3 * n - 3) 0 - N.getD (3 * n) 0 ≤ -1))
theorem ordF_ok {E : Env} {num : Nat → IE} {N : List Int} (h2 : ∀ j, ev E (num j) = N.getD j 0) : ∀ {k : Nat}, OrdN N k → ∀ f ∈ ordF num k, FactOk E f
 | 0, _, f, hf => by cases hf
 | n + 1, h, f, hf => by
  have hn := h n (by omega)
  have ih := ordF_ok h2 (k := n) (fun i hi => h i (by omega))
  unfold ordF at hf
  rcases List.mem_cons.1 hf with rfl | hf
  ·show 0 ≤ ev E (num (3 * n)) ∧ ev E (num (3 * n)) ≤ 15
   rw [h2]; exact hn.1
  rcases List.mem_cons.1 hf with rfl | hf
  ·show 0 ≤ ev E (num (3 * n + 1)) ∧ ev E (num (3 * n + 1)) ≤ 1099511627775
   rw [h2]; exact hn.2.1
  rcases List.mem_cons.1 hf with rfl | hf
  ·show 0 ≤ ev E (num (3 * n + 2)) ∧ ev E (num (3 * n + 2)) ≤ 1099511627775
   rw [h2]; exact hn.2.2.1
  by_cases h0 : n = 0
  ·subst h0
   exact ih f hf
  ·have : Nat.beq n 0 = false := by
    cases hb : Nat.beq n 0 with
    | false => rfl
    | true => exact absurd (Nat.eq_of_beq_eq_true hb) h0
   rw [this] at hf
   rcases List.mem_cons.1 hf with rfl | hf
   ·show -15 ≤ ev E (.sub (num (3 * n - 3)) (num (3 * n))) ∧ ev E (.sub (num (3 * n - 3)) (num (3 * n))) ≤ -1
    rw [ev_sub, h2, h2]
    rcases hn.2.2.2 with h | h
    ·exact absurd h h0
    ·exact h
   ·exact ih f hf
noncomputable def okOrd (kn : Know) (num : Nat → IE) : Nat → Bool
 | 0 => true
 | n + 1 => okOrd kn num n && (factIn kn (num (3 * n)) 0 15 && (factIn kn (num (3 * n + 1)) 0 1099511627775 && (factIn kn (num (3 * n + 2)) 0 1099511627775 && cond (Nat.beq n 0) true (factIn kn (mkSub (num (3 * n - 3)) (num (3 * n))) (-15) (-1)))))
theorem okOrd_ok {E : Env} {kn : Know} (hk : KnowOk E kn) {num : Nat → IE} {N : List Int} (h2 : ∀ j, ev E (num j) = N.getD j 0) : ∀ {k : Nat}, okOrd kn num k = true → OrdN N k
 | 0, _ => fun n hn => absurd hn (Nat.not_lt_zero _)
 | m + 1, h => fun n hn => by
  unfold okOrd at h
  simp only [Bool.and_eq_true] at h
  obtain ⟨h0, h1, h3, h4, h5⟩ := h
  rcases Nat.lt_or_ge n m with g | g
  ·exact okOrd_ok hk h2 h0 n g
  ·obtain rfl : n = m := by omega
   have h1 := factIn_ok hk h1
   have h3 := factIn_ok hk h3
   have h4 := factIn_ok hk h4
   rw [h2] at h1 h3 h4
   refine ⟨h1, h3, h4, ?_⟩
   by_cases hz : n = 0
   ·exact .inl hz
   ·have : Nat.beq n 0 = false := by
     cases hb : Nat.beq n 0 with
     | false => rfl
     | true => exact absurd (Nat.eq_of_beq_eq_true hb) hz
    rw [this] at h5
    have h5 := factIn_ok hk h5
    rw [mkSub_ok, h2, h2] at h5
    exact .inr h5
theorem row_cell {E : Env} {w : World} {s r b o n : Nat} {L : List Int} (hb : E.base s = b) (ho : E.o s = o) (hr : E.row r = L) (hL : L.length = n) (h : RowN w b o L) : EntOk E w ⟨s, 0, true, 0, .lit 0, .cons (.arr .i64 r (.lit (n : Nat)) .nil) .nil⟩ := by
 obtain ⟨h1, h2⟩ := h
 refine ⟨by show E.base s + 0 < _; rw [hb]; exact h1, fun _ j v hv => ?_, fun h => (by cases h), fun _ x h => (by cases h)⟩
 have hd : dl E (SV.cons (.arr .i64 r (.lit (n : Nat)) .nil) .nil) = (List.range n).map fun j => Value.int .i64 (L.getD j 0) := by
  show arrCells E .i64 r ((n : Nat) : Int).toNat .nil ++ [] = _
  rw [List.append_nil, Int.toNat_natCast]
  unfold arrCells
  refine List.map_congr_left fun j _ => ?_
  show Value.int .i64 ((E.row r).getD j 0) = _
  rw [hr]
 have hv : (dl E (SV.cons (.arr .i64 r (.lit (n : Nat)) .nil) .nil))[j]? = some v := hv
 rw [hd, List.getElem?_map] at hv
 have hj : j < n := by
  rcases Nat.lt_or_ge j n with h | h
  ·exact h
  ·rw [List.getElem?_eq_none (by simpa using h)] at hv
   cases hv
 rw [List.getElem?_range hj] at hv
 cases hv
 have := h2 j (by omega)
 show w.cell? ⟨E.base s + 0, E.o s + ((0 : Int).toNat + j), none⟩ = _
 rw [hb, ho, show b + 0 = b from rfl, show ((0 : Int).toNat + j) = j by simp]
 exact this
def InS (w : World) (k : Nat) (N : List Int) (v : Value) : Prop := (k = 0 ∧ v = .slice none 0 0) ∨ (0 < k ∧ ∃ b o cap : Nat, v = .slice (some ⟨b, o, none⟩) k cap ∧ k ≤ cap ∧ (cap : Int) ≤ hi64 ∧ RowN w b o N)
theorem sem_sh {k : Nat} (hrun : okSh k = true) {w : World} {bc oc capc bd od capd : Nat} {L N : List Int} {v : Value} (hL : L.length = 16) (hL64 : ∀ z ∈ L, in64 z) (hN : N.length = 3 * k) (hN64 : ∀ z ∈ N, in64 z) (ho : OrdN N k)
  (hc : RowN w bc oc L) (hcc : 16 ≤ capc) (hcc' : (capc : Int) ≤ hi64) (hd : bd < w.heap.size) (hd' : w.cell? ⟨bd, od, none⟩ = some v) (hdc : 1 ≤ capd) (hdc' : (capd : Int) ≤ hi64) (hv : InS w k N v) {E0 : Env} {cel num : Nat → IE} (h1 : ∀ j, j < 16 → ev E0 (cel j) = L.getD j 0) (h2 : ∀ j, ev E0 (num j) = N.getD j 0) :
  Calls Try.prog 13 #[.slice (some ⟨bc, oc, none⟩) 16 capc, .slice (some ⟨bd, od, none⟩) 1 capd] w fun e w' => Ext (fun _ => False) w w' ∧ ∃ bl b2 o2, w.heap.size ≤ bl ∧ bl < w'.heap.size ∧ w'.heap[bl]? = some (.cells (dl E0 (shC cel k num)).toArray 84 (0, 0)) ∧ e = .returned (.tuple #[.pointer (some ⟨bl, 0, none⟩), .pointer (some ⟨b2, o2, none⟩)]) := by
 have hv' : ∃ b o cap : Nat, v = (if k = 0 then .slice none 0 0 else .slice (some ⟨b, o, none⟩) k cap) ∧ k ≤ cap ∧ (cap : Int) ≤ hi64 ∧ (0 < k → RowN w b o N) := by
  rcases hv with ⟨h, e⟩ | ⟨h, b, o, cap, e, h3, h4, h5⟩
  ·exact ⟨0, 0, 0, by rw [if_pos h, e], by omega, by unfold hi64; omega, fun g => by omega⟩
  ·exact ⟨b, o, cap, by rw [if_neg (by omega), e], h3, h4, fun _ => h5⟩
 obtain ⟨b, o, cap, rfl, hk1, hk2, hrow⟩ := hv'
 let E : Env := { i := fun j => if j = 33 then (capc : Int) else if j = 43 then capd else if j = 23 then cap else 0, b := fun _ => false, l := fun r => if r = 34 then L else if r = 24 then N else [], base := fun x => if x = 30 then bc else if x = 40 then bd else if x = 20 then b else w.heap.size, o := fun x => if x = 30 then oc else if x = 40 then od else if x = 20 then o else 0, v := fun _ => .tuple #[], f := G0 }
 have hE : E.Ok := by
  refine ⟨fun j => ?_, fun r z hz => ?_, G0_in⟩
  ·show in64 (if j = 33 then (capc : Int) else if j = 43 then capd else if j = 23 then cap else 0)
   unfold hi64 at hcc' hdc' hk2
   unfold in64 lo64 hi64
   repeat' split
   all_goals omega
  ·replace hz : z ∈ (if r = 34 then L else if r = 24 then N else []) := hz
   split at hz
   ·exact hL64 z hz
   ·split at hz
    ·exact hN64 z hz
    ·cases hz
 have hr34 : E.row 34 = L := by
  rw [Env.row_l (by unfold fixR; omega)]
  rfl
 have hr24 : E.row 24 = N := by
  rw [Env.row_l (by unfold fixR; omega)]
  rfl
 have hmE : ∀ j, ev E (mE j) = N.getD j 0 := fun j => by
  unfold mE
  rw [ev_sel, hr24]
  rfl
 have hcE : ∀ j, ev E (cE j) = L.getD j 0 := fun j => by
  unfold cE
  rw [ev_sel, hr34]
  rfl
 obtain ⟨outs, ho', hchk⟩ := allOf_ok hrun
 have hin : dv E (inS k) = (if k = 0 then .slice none 0 0 else .slice (some ⟨b, o, none⟩) k cap) := by
  unfold inS
  by_cases h0 : k = 0
  ·subst h0
   rfl
  ·have : Nat.beq k 0 = false := by
    cases hb : Nat.beq k 0 with
    | false => rfl
    | true => exact absurd (Nat.eq_of_beq_eq_true hb) h0
   rw [this, if_neg h0]
   show Value.slice (some ⟨b + 0, o + (0 : Int).toNat, none⟩) ((k : Nat) : Int).toNat ((cap : Nat) : Int).toNat = _
   simp
 have hinV : (inS k).isV = true := by
  unfold inS
  cases Nat.beq k 0 <;> rfl
 have call := run_ro (funSh_ok (G := G0)) ho' (E := E) (w := w) rfl hE rfl rfl (fun e he => by
  unfold entsS at he
  rcases List.mem_cons.1 he with rfl | he
  ·exact ⟨rfl, row_cell (s := 30) rfl rfl hr34 hL hc⟩
  rcases List.mem_cons.1 he with rfl | he
  ·refine ⟨rfl, ⟨hd, fun _ j x hx => ?_, fun h => (by cases h), fun _ x h => ?_⟩⟩
   ·have hx : (dl E (inS k) ++ [])[j]? = some x := hx
    rw [List.append_nil, dl_isV E hinV, hin] at hx
    cases j with
    | zero =>
     cases hx
     exact hd'
    | succ j => cases hx
   ·unfold inS at h
    cases hb : Nat.beq k 0 <;> rw [hb] at h <;> cases h
  ·by_cases h0 : k = 0
   ·subst h0
    cases he
   ·have : Nat.beq k 0 = false := by
     cases hb : Nat.beq k 0 with
     | false => rfl
     | true => exact absurd (Nat.eq_of_beq_eq_true hb) h0
    rw [this] at he
    rcases List.mem_singleton.1 he with rfl
    exact ⟨rfl, row_cell (s := 20) rfl rfl hr24 hN (hrow (by omega))⟩) (fun f hf => by
  unfold facS at hf
  rcases List.mem_cons.1 hf with rfl | hf
  ·show (16 : Int) ≤ capc ∧ (capc : Int) ≤ hi64
   omega
  rcases List.mem_cons.1 hf with rfl | hf
  ·show (1 : Int) ≤ capd ∧ (capd : Int) ≤ hi64
   omega
  rcases List.mem_cons.1 hf with rfl | hf
  ·show (k : Int) ≤ cap ∧ (cap : Int) ≤ hi64
   omega
  ·exact ordF_ok hmE ho f hf)
 have ha : (argsSh.map (dv E)).toArray = #[.slice (some ⟨bc, oc, none⟩) 16 capc, .slice (some ⟨bd, od, none⟩) 1 capd] := by
  show #[Value.slice (some ⟨bc + 0, oc + (0 : Int).toNat, none⟩) (16 : Int).toNat ((capc : Nat) : Int).toNat, Value.slice (some ⟨bd + 0, od + (0 : Int).toNat, none⟩) (1 : Int).toNat ((capd : Nat) : Int).toNat] = _
  simp
 rw [ha] at call
 refine call.mono ?_
 rintro e w' ⟨q, hq, E', hA, rfl, hm⟩
 refine ⟨hm.ext, ?_⟩
 have hq := hchk q hq
 unfold chkSh at hq
 split at hq
 case h_2 => cases hq
 rename_i s j s2 j2 heq
 split at hq
 case h_2 => cases hq
 rename_i en hf
 simp only [Bool.and_eq_true, Bool.not_eq_true'] at hq
 obtain ⟨p1, p2, p3⟩ := hq
 have p2 := Nat.eq_of_beq_eq_true p2
 have p3 := sameC_ok (E := E') p3
 obtain ⟨f1, f2, f3⟩ := Mem.find_ok hf
 have he := hm.ents en f1
 obtain ⟨⟨o1, _⟩, o3⟩ := he.own p1
 have hmine := hm.mine en f1 p1
 have hblk : en.blk E' = E'.base s + j := by unfold Ent.blk; rw [f2, f3]
 have row' : ∀ r, r < 60 → ¬ fixR r → E'.row r = E.row r := fun r h g => by
  rw [Env.row_l g, Env.row_l g]
  exact hA.l r h
 have hs : dl E' (shC cE k mE) = dl E0 (shC cel k num) := shC_same (L := L) (N := N) (fun j _ => by
  unfold cE
  rw [ev_sel, row' 34 (by omega) (by unfold fixR; omega), hr34]
  rfl) (fun j => by
  unfold mE
  rw [ev_sel, row' 24 (by omega) (by unfold fixR; omega), hr24]
  rfl) h1 h2
 refine ⟨E'.base s + j, E'.base s2 + j2, E'.o s2 + (0 : Int).toNat, ?_, ?_, ?_, ?_⟩
 ·rcases hmine with h | h
  ·rw [← hblk]; exact h
  ·exact absurd h (fun h => h)
 ·rw [← hblk]; exact he.lt
 ·rw [← hblk, o3, p2, p3, hs]
 ·rw [heq]
  show Ending.returned (.tuple #[.pointer (some ⟨E'.base s + j, E'.o s + (0 : Int).toNat, none⟩), .pointer (some ⟨E'.base s2 + j2, E'.o s2 + (0 : Int).toNat, none⟩)]) = _
  rw [← f2, o1]
  rfl
noncomputable def rowI (v : SV) (m : Mem) : Option (List IE × Nat) := match v with
 | .nils => some ([], 0)
 | v => match rowZ 3 v m with
  | some (l, n) => cond (Nat.beq n 0) none (some (l, n))
  | none => none
theorem rowI_ok {F : Nat → Prop} {w0 w : World} {E : Env} {v : SV} {m : Mem} {l : List IE} {k : Nat} (hm : MemOk F w0 E m w) (h : rowI v m = some (l, k)) : (l.map (ev E)).length = 3 * k ∧ InS w k (l.map (ev E)) (dv E v) ∧ v.isV = true := by
 unfold rowI at h
 split at h
 ·cases h
  exact ⟨rfl, .inl ⟨rfl, rfl⟩, rfl⟩
 ·split at h
  ·rename_i v' _ l' n' hr
   cases hb : Nat.beq n' 0 with
   | true => rw [hb] at h; cases h
   | false =>
    rw [hb] at h
    cases h
    obtain ⟨b, o, cap, h1, h2, h3, h4, h5⟩ := rowZ_ok hm hr
    have h0 : 0 < k := by
     rcases Nat.eq_zero_or_pos k with h | h
     ·subst h; cases hb
     ·exact h
    refine ⟨h2, .inr ⟨h0, b, o, cap, h1, h3, h4, h5⟩, ?_⟩
    unfold rowZ at hr
    split at hr
    ·rfl
    ·cases hr
  ·cases h
noncomputable def formSh (args : List SV) (m : Mem) : Option SV := match args with
 | [cs, .sli s k (.lit (.ofNat 0)) (.lit (.ofNat 1)) cap] => match rowZ 1 cs m, m.find s k with
  | some (l, n), some en => (match en.base, en.c with
   | .lit (.ofNat 0), .cons rs _ => (match rowI rs m with
    | some (ns, k) => cond (Nat.beq n 16 && (Nat.ble k 16 && (l.all (in64S m.know) && (factIn m.know cap 1 hi64 && (okOrd m.know (atL ns) k && ns.all (in64S m.know)))))) (some (shC (atL l) k (atL ns))) none
    | none => none)
   | _, _ => none)
  | _, _ => none
 | _ => none
theorem shX_sem {G : Gf} (hall : ∀ k, k ≤ 16 → okSh k = true) : SpecOk G Try.prog 13 (blkP 84 formSh) := blkP_ok fun F w0 E args m w c hgf hm hform => by
 unfold formSh at hform
 split at hform
 case h_2 => cases hform
 rename_i cs s j cap
 split at hform
 case h_2 => cases hform
 rename_i l n en hl hen
 split at hform
 case h_2 => cases hform
 rename_i rs rest hbase hc
 split at hform
 case h_2 => cases hform
 rename_i ns k hns
 cases hg : (Nat.beq n 16 && (Nat.ble k 16 && (l.all (in64S m.know) && (factIn m.know cap 1 hi64 && (okOrd m.know (atL ns) k && ns.all (in64S m.know)))))) with
 | false => rw [hg] at hform; cases hform
 | true =>
 rw [hg] at hform
 cases hform
 simp only [Bool.and_eq_true] at hg
 obtain ⟨g1, g2, g3, g4, g5, g6⟩ := hg
 have g1 := Nat.eq_of_beq_eq_true g1
 have g2 := Nat.le_of_ble_eq_true g2
 have g4 := factIn_ok hm.know g4
 obtain ⟨bc, oc, capc, a1, a2, a3, a4, a5⟩ := rowZ_ok hm hl
 obtain ⟨n1, n2, n3⟩ := rowI_ok hm hns
 obtain ⟨k1, k2, k3⟩ := Mem.find_ok hen
 have ok := hm.ents en k1
 have hord := okOrd_ok hm.know (fun j => atL_ev E ns j) g5
 subst g1
 have hcell := ok.cell 0 (dv E rs) (by
  rw [hc]
  show (dl E rs ++ dl E rest)[0]? = _
  rw [dl_isV E n3]
  rfl)
 have hlt := ok.lt
 unfold Ent.blk at hcell hlt
 rw [k2, k3, hbase] at hcell
 rw [k2, k3] at hlt
 have ha : (([cs, .sli s j (.lit (.ofNat 0)) (.lit (.ofNat 1)) cap] : List SV).map (dv E)).toArray = #[.slice (some ⟨bc, oc, none⟩) 16 capc, .slice (some ⟨E.base s + j, E.o s, none⟩) 1 (ev E cap).toNat] := by
  rw [List.map_cons, a1]
  rfl
 rw [ha]
 exact (sem_sh (hall k g2) (L := l.map (ev E)) (N := ns.map (ev E)) (E0 := E) (cel := atL l) (num := atL ns) (by rw [a2]) (fun z hz => by
  obtain ⟨e, he, rfl⟩ := List.mem_map.1 hz
  exact in64S_ok hm.know (List.all_eq_true.1 g3 e he)) n1 (fun z hz => by
  obtain ⟨e, he, rfl⟩ := List.mem_map.1 hz
  exact in64S_ok hm.know (List.all_eq_true.1 g6 e he)) hord a5 a3 a4 hlt hcell (by omega) (by omega) n2 (fun j _ => atL_ev E l j) (fun j => atL_ev E ns j))
noncomputable def shX : List SV → X SV := orX (blkP 84 formSh) funSh
theorem shX_ok {G : Gf} (hall : ∀ k, k ≤ 16 → okSh k = true) : SpecOk G Try.prog 13 shX := orX_ok (shX_sem hall) funSh_ok
end Go.Proofs.Ytdchpckikclmlaa
