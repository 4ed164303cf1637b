/- an operation's call upon a view of an image: what it comes to. -/
import Derived.Test.YtojpmbkbeoolcaaN
namespace Go.Proofs.Ytojpmbkbeoolcaa
open Go.Sx Go
set_option maxRecDepth 100000
def accIn (z : Int) : Prop := 0 ≤ z ∧ z ≤ 1048576
noncomputable def trues : List Bool := List.replicate 16 true
noncomputable def imgVal (W N : List Int) : Value := .agg (trues.map Value.bool ++ (W.map (Value.int .i64) ++ N.map (Value.int .i64))).toArray
noncomputable def outN (ys xs : List Int) (k a b x : Int) : List Int := [tellZ 2 ys + 1, tellZ 3 ys + 1, tellZ 4 ys + 1, tellZ 5 ys + 1] ++ linksZ (nrm (nextOf ys xs k a b x))
def SemImg (f : Nat) (k a b x : Int) : Prop := ∀ (a0 a1 a2 a3 : Int) (xs W : List Int) (w : World), accIn a0 → accIn a1 → accIn a2 → accIn a3 → xs ∈ cfgs → W.length = 16 → (∀ z ∈ W, 0 ≤ z ∧ z ≤ 1099511627775) →
 Calls Try.prog f #[imgVal W ([a0, a1, a2, a3] ++ linksZ xs), opVal k a b x] w fun e w' => Ext (fun _ => False) w w' ∧ ∃ bl, w.heap.size ≤ bl ∧ bl < w'.heap.size ∧
  w'.heap[bl]? = some (.cells #[.int .i64 (tellZ 0 (ysOf a0 a1 a2 a3 xs k a b x)), .int .i64 (tellZ 1 (ysOf a0 a1 a2 a3 xs k a b x))] 76 (0, 0)) ∧
  e = .returned (K.wrapV true (K.askVal (-1) trues W (outN (ysOf a0 a1 a2 a3 xs k a b x) xs k a b x) (K.sliV bl)))
noncomputable def envI (w : World) (ys W N : List Int) (x : Int) (full : Bool) : Env := { i := fun j => if j = 9 then x else 0, b := fun j => full || decide (ys.getD (j - 16) 0 = 1), l := fun r => if r = 6 then W else if r = 7 then N else [], base := fun _ => w.heap.size, o := fun _ => 0, v := fun _ => .tuple #[], f := G0 }
theorem acc_links_in {a0 a1 a2 a3 : Int} (h0 : accIn a0) (h1 : accIn a1) (h2 : accIn a2) (h3 : accIn a3) (xs : List Int) : ∀ z ∈ [a0, a1, a2, a3] ++ linksZ xs, 0 ≤ z ∧ z ≤ 1099511627775 := by
 unfold accIn at *
 intro z hz
 rcases List.mem_append.1 hz with hz | hz
 ·simp only [List.mem_cons, List.not_mem_nil, or_false] at hz
  rcases hz with rfl | rfl | rfl | rfl <;> omega
 ·obtain ⟨c, hc, rfl⟩ := List.mem_map.1 hz
  have := link_in xs (List.mem_range.1 hc)
  omega
theorem N_len {a0 a1 a2 a3 : Int} (xs : List Int) : ([a0, a1, a2, a3] ++ linksZ xs).length = 16 := by unfold linksZ; simp
theorem wide_in {z : Int} (h : 0 ≤ z ∧ z ≤ 1099511627775) : in64 z := by unfold in64 lo64 hi64; omega
theorem envI_ok {w : World} {ys W N : List Int} {x : Int} {full : Bool} (hx : in64 x) (hW : ∀ z ∈ W, 0 ≤ z ∧ z ≤ 1099511627775) (hN : ∀ z ∈ N, 0 ≤ z ∧ z ≤ 1099511627775) : (envI w ys W N x full).Ok := by
 refine ⟨fun j => ?_, fun r z hz => ?_, G0_in⟩
 ·show in64 (if j = 9 then x else 0)
  split
  ·exact hx
  ·constructor <;> decide
 ·replace hz : z ∈ (if r = 6 then W else if r = 7 then N else []) := hz
  split at hz
  ·exact wide_in (hW z hz)
  ·split at hz
   ·exact wide_in (hN z hz)
   ·cases hz
theorem getD_wide {l : List Int} (h : ∀ z ∈ l, 0 ≤ z ∧ z ≤ 1099511627775) (i : Nat) : 0 ≤ l.getD i 0 ∧ l.getD i 0 ≤ 1099511627775 := by
 rw [List.getD_eq_getElem?_getD]
 cases hq : l[i]? with
 | none => decide
 | some z => exact h z (List.mem_of_getElem? hq)
theorem rngs_mem {r : Nat} : ∀ {n : Nat} {l : List Fact} {f : Fact}, f ∈ K.rngs r n l → f ∈ l ∨ ∃ i : Nat, i < n ∧ f = (.sel r (.lit i), 0, 1099511627775)
 | 0, _, _, h => .inl h
 | n + 1, l, f, h => by
  rcases rngs_mem (n := n) (l := (.sel r (.lit n), 0, 1099511627775) :: l) h with h | ⟨i, hi, rfl⟩
  ·rcases List.mem_cons.1 h with rfl | h
   ·exact .inr ⟨n, by omega, rfl⟩
   ·exact .inl h
  ·exact .inr ⟨i, by omega, rfl⟩
theorem rngs_I {w : World} {ys W N : List Int} {x : Int} {full : Bool} (hW : ∀ z ∈ W, 0 ≤ z ∧ z ≤ 1099511627775) (hN : ∀ z ∈ N, 0 ≤ z ∧ z ≤ 1099511627775) : ∀ f ∈ K.rngs 6 16 (K.rngs 7 16 []), FactOk (envI w ys W N x full) f := by
 intro f hf
 rcases rngs_mem hf with hf | ⟨i, _, rfl⟩
 ·rcases rngs_mem hf with hf | ⟨i, _, rfl⟩
  ·cases hf
  ·unfold FactOk
   rw [ev_sel, ev_lit, Int.toNat_natCast]
   exact getD_wide hN i
 ·unfold FactOk
  rw [ev_sel, ev_lit, Int.toNat_natCast]
  exact getD_wide hW i
theorem end_congr {B B' Kf : Int → Int} {x k a b d : Int} {r : Int → Int} (ha : k ≤ 4 → B a = B' a) (hb : k = 4 → B b = B' b) : endZ B Kf x k a b r d = endZ B' Kf x k a b r d := by
 unfold endZ
 by_cases h : k ≤ 4
 ·rw [ha h]
  by_cases h4 : k = 4
  ·rw [hb h4]
  ·simp only [if_neg h4]
 ·simp only [if_neg (show ¬ k = 0 by omega), if_neg (show ¬ k = 1 by omega), if_neg (show ¬ k = 2 by omega), if_neg (show ¬ k = 3 by omega), if_neg (show ¬ k = 4 by omega)]
theorem quant_congr {B B' Kf : Int → Int} {x k a b : Int} (hB : k ≤ 5 → ∀ i, 0 ≤ i → i ≤ 3 → B i = B' i) (ha : k ≤ 4 → 0 ≤ a ∧ a ≤ 3) (hb : k = 4 → 0 ≤ b ∧ b ≤ 3) {i : Nat} (hi : (k ≤ 5 ∧ i ≤ 5) ∨ i ≤ 1 ∨ 6 ≤ i) : quantZ B Kf x i k a b = quantZ B' Kf x i k a b := by
 have hA : k ≤ 4 → B a = B' a := fun h => hB (by omega) a (ha h).1 (ha h).2
 have hBb : k = 4 → B b = B' b := fun h => hB (by omega) b (hb h).1 (hb h).2
 have he : ∀ (r r' : Int → Int) (d d' : Int), (∀ z, r z = r' z) → d = d' → endZ B Kf x k a b r d = endZ B' Kf x k a b r' d' := fun r r' d d' h1 h2 => by
  obtain rfl : r = r' := funext h1
  subst h2
  exact end_congr hA hBb
 unfold quantZ
 split
 ·exact he _ _ _ _ (fun _ => rfl) rfl
 ·split
  ·unfold numZ
   refine he _ _ _ _ (fun _ => rfl) ?_
   by_cases h4 : k ≤ 4
   ·rw [hA h4]
    simp only [if_neg (show ¬ k = 5 by omega)]
   ·simp only [if_neg (show ¬ k = 0 by omega), if_neg (show ¬ k = 1 by omega), if_neg (show ¬ k = 2 by omega), if_neg (show ¬ k = 3 by omega), if_neg (show ¬ k = 4 by omega)]
    by_cases h5 : k = 5
    ·rw [if_pos h5, if_pos h5]
     have h := hB (by omega)
     simp only [sumZZ]
     rw [h 0 (by omega) (by omega), h 1 (by omega) (by omega), h 2 (by omega) (by omega), h 3 (by omega) (by omega)]
    ·rw [if_neg h5, if_neg h5]
  ·split
   ·rename_i h0 h1 h5
    have h : B ((i : Int) - 2) = B' ((i : Int) - 2) := hB (by omega) _ (by omega) (by omega)
    unfold balZ
    split
    ·rename_i hc
     refine he _ _ _ _ (fun _ => h) ?_
     rw [hA (by omega)]
    ·split
     ·rename_i hc
      exact he _ _ _ _ (fun _ => h) (by rw [hA (by omega)])
     ·split
      ·rename_i hc
       exact he _ _ _ _ (fun _ => h) (by rw [hBb hc.1])
      ·exact h
   ·unfold keyZ
    split
    ·exact he _ _ _ _ (fun _ => rfl) rfl
    ·split
     ·exact he _ _ _ _ (fun _ => rfl) rfl
     ·rfl
noncomputable def KY (xs : List Int) : Int → Int := fun j => if decide (xs.getD (4 + j.toNat) 0 = 1) then 1 else 0
theorem tell_quant {ys : List Int} (i : Nat) : tellZ i ys = quantZ (fun j => ys.getD j.toNat 0) (KY ys) (ys.getD 12 0) i (ys.getD 9 0) (ys.getD 10 0) (ys.getD 11 0) := by
 unfold tellZ quant
 rw [ev_quant]
 congr 1
 funext j
 show (if (envT ys).b (20 + j.toNat) then (1 : Int) else 0) = _
 unfold KY
 show (if decide (ys.getD (20 + j.toNat - 16) 0 = 1) then (1 : Int) else 0) = _
 rw [show 20 + j.toNat - 16 = 4 + j.toNat by omega]
theorem getD_four {p q r s : Int} {l : List Int} (n : Nat) : (p :: q :: r :: s :: l).getD (4 + n) 0 = l.getD n 0 := by
 rw [Nat.add_comm]
 rfl
noncomputable def KX (e0 e1 e2 e3 e4 k a b x : Int) : Int → Int := fun j => if decide (([e0, e1, e2, e3, e4, k, a, b, x] : List Int).getD j.toNat 0 = 1) then 1 else 0
noncomputable def BX4 (a0 a1 a2 a3 e0 e1 e2 e3 e4 k a b x : Int) : Int → Int := fun j => ([a0 - 1, a1 - 1, a2 - 1, a3 - 1, e0, e1, e2, e3, e4, k, a, b, x] : List Int).getD j.toNat 0
theorem tell_ys {a0 a1 a2 a3 e0 e1 e2 e3 e4 g0 g1 g2 g3 g4 k a b x : Int} (i : Nat) : tellZ i (ysOf a0 a1 a2 a3 [e0, e1, e2, e3, e4, g0, g1, g2, g3, g4] k a b x) = quantZ (BX4 a0 a1 a2 a3 e0 e1 e2 e3 e4 k a b x) (KX e0 e1 e2 e3 e4 k a b x) x i k a b := by
 rw [tell_quant]
 have hK : KY (ysOf a0 a1 a2 a3 [e0, e1, e2, e3, e4, g0, g1, g2, g3, g4] k a b x) = KX e0 e1 e2 e3 e4 k a b x := by
  funext j
  unfold KY KX
  rw [show (ysOf a0 a1 a2 a3 [e0, e1, e2, e3, e4, g0, g1, g2, g3, g4] k a b x).getD (4 + j.toNat) 0 = ([e0, e1, e2, e3, e4, k, a, b, x] : List Int).getD j.toNat 0 from getD_four _]
 rw [hK]
 rfl
theorem may_ab {k a b x : Int} (h : mayZ k a b x = 1) : (k ≤ 4 → 0 ≤ a ∧ a ≤ 3) ∧ (k = 4 → 0 ≤ b ∧ b ≤ 3) ∧ 0 ≤ k := by
 have e : (combos.all fun p => decide ((p.1 ≤ 4 → 0 ≤ p.2.1 ∧ p.2.1 ≤ 3) ∧ (p.1 = 4 → 0 ≤ p.2.2 ∧ p.2.2 ≤ 3) ∧ 0 ≤ p.1)) = true := by kernel_rfl
 exact of_decide_eq_true (List.all_eq_true.1 e _ (combo_mem h))
theorem may_x64 {k a b x : Int} (h : mayZ k a b x = 1) : in64 x := by
 have hx := may_x h
 unfold limX at hx
 unfold in64 lo64 hi64
 split at hx <;> (try split at hx) <;> omega
section
variable {k a b x : Int}
theorem tell_key (h6 : 6 ≤ k) {a0 a1 a2 a3 b0 b1 b2 b3 : Int} {xs : List Int} (hl : xs.length = 10) {i : Nat} (hi : i ≤ 1 ∨ 6 ≤ i) : tellZ i (ysOf a0 a1 a2 a3 xs k a b x) = tellZ i (ysOf b0 b1 b2 b3 xs k a b x) := by
 obtain ⟨e0, e1, e2, e3, e4, g0, g1, g2, g3, g4, rfl⟩ := len10 hl
 rw [tell_ys, tell_ys]
 exact quant_congr (fun h => by omega) (fun h => by omega) (fun h => by omega) (.inr hi)
theorem next_key (h6 : 6 ≤ k) {a0 a1 a2 a3 b0 b1 b2 b3 : Int} {xs : List Int} (hl : xs.length = 10) : nextOf (ysOf a0 a1 a2 a3 xs k a b x) xs k a b x = nextOf (ysOf b0 b1 b2 b3 xs k a b x) xs k a b x := by
 unfold nextOf
 congr 1
 refine List.map_congr_left fun j hj => ?_
 have hj := List.mem_range.1 hj
 rw [show 306 + j = 300 + (6 + j) by omega, G0_key (by omega) (by omega), G0_key (by omega) (by omega), tell_key h6 hl (.inr (by omega))]
theorem tell_bal (h6 : 6 ≤ k) {a0 a1 a2 a3 : Int} {xs : List Int} (hl : xs.length = 10) : tellZ 2 (ysOf a0 a1 a2 a3 xs k a b x) + 1 = a0 ∧ tellZ 3 (ysOf a0 a1 a2 a3 xs k a b x) + 1 = a1 ∧ tellZ 4 (ysOf a0 a1 a2 a3 xs k a b x) + 1 = a2 ∧ tellZ 5 (ysOf a0 a1 a2 a3 xs k a b x) + 1 = a3 := by
 obtain ⟨e0, e1, e2, e3, e4, g0, g1, g2, g3, g4, rfl⟩ := len10 hl
 have key : ∀ (i : Nat), 2 ≤ i → i ≤ 5 → tellZ i (ysOf a0 a1 a2 a3 [e0, e1, e2, e3, e4, g0, g1, g2, g3, g4] k a b x) = (ysOf a0 a1 a2 a3 [e0, e1, e2, e3, e4, g0, g1, g2, g3, g4] k a b x).getD ((i : Int) - 2).toNat 0 := fun i h1 h2 => by
  rw [tell_ys]
  unfold quantZ balZ
  rw [if_neg (by omega), if_neg (by omega), if_pos h2, if_neg (by omega), if_neg (by omega), if_neg (by omega)]
  rfl
 refine ⟨?_, ?_, ?_, ?_⟩
 ·rw [key 2 (by omega) (by omega)]; show a0 - 1 + 1 = a0; omega
 ·rw [key 3 (by omega) (by omega)]; show a1 - 1 + 1 = a1; omega
 ·rw [key 4 (by omega) (by omega)]; show a2 - 1 + 1 = a2; omega
 ·rw [key 5 (by omega) (by omega)]; show a3 - 1 + 1 = a3; omega
theorem sem31 (hm : mayZ k a b x = 1) (h6 : 6 ≤ k) (hc : chkC k a b x = true) : SemImg 39 k a b x := by
 intro a0 a1 a2 a3 xs W w h0 h1 h2 h3 hxs hW hWr
 have hl := cfg_len hxs
 have hNr := acc_links_in h0 h1 h2 h3 xs
 let E := envI w [] W ([a0, a1, a2, a3] ++ linksZ xs) x true
 have hE : E.Ok := envI_ok (may_x64 hm) hWr hNr
 have := K.hsem8 hm h6 E w rfl ⟨hE, fun f hf => rngs_I hWr hNr f hf, fun _ h => (by cases h)⟩ rfl rfl rfl
 rw [K.dv_view] at this
 have r6 : K.row16 E 6 = W := range_self hW
 have r7 : K.row16 E 7 = [a0, a1, a2, a3] ++ linksZ xs := range_self (N_len xs)
 have rf : K.fl16 E = trues := rfl
 rw [r6, r7, rf] at this
 refine this.mono ?_
 rintro e w' ⟨hext, hq⟩
 refine ⟨hext, ?_⟩
 unfold chkC at hc
 rw [Bool.and_eq_true, List.all_eq_true] at hc
 have hx := hc.2 xs hxs
 have hp := hc.1
 unfold chkP at hp
 unfold chkX at hx
 rw [forceL_eq, forceL_eq, forceL_eq, forceL_eq] at hx
 simp only [Bool.and_eq_true, List.all_eq_true, List.mem_range] at hx hp
 obtain ⟨⟨⟨x0, x1⟩, x2⟩, x3⟩ := hx
 obtain ⟨⟨p0, p1⟩, p2⟩ := hp
 have same : SameL E (envC ([0, 0, 0, 0] ++ linksZ xs)) := ⟨fun _ _ _ => rfl, fun c h4 _ => by
  obtain ⟨d, rfl⟩ : ∃ d, c = d + 4 := ⟨c - 4, by omega⟩
  rfl, rfl⟩
 have q0 : ev E (K.quant 0 k a b x) = -1 := (pureL_ev same _ (p0 0 (by omega))).trans (zEq_ok x0)
 have q1 : ev E (K.quant 1 k a b x) = tellZ 0 (ysOf a0 a1 a2 a3 xs k a b x) := (pureL_ev same _ (p0 1 (by omega))).trans ((zEq_ok x1).trans (tell_key h6 hl (.inl (by omega))))
 have q2 : ev E (K.quant 2 k a b x) = tellZ 1 (ysOf a0 a1 a2 a3 xs k a b x) := (pureL_ev same _ (p0 2 (by omega))).trans ((zEq_ok x2).trans (tell_key h6 hl (.inl (by omega))))
 have q3 : ((List.range 16).map fun c => ev E (K.quant (3 + c) k a b x)) = outN (ysOf a0 a1 a2 a3 xs k a b x) xs k a b x := by
  obtain ⟨t0, t1, t2, t3⟩ := tell_bal (a := a) (b := b) (x := x) h6 (a0 := a0) (a1 := a1) (a2 := a2) (a3 := a3) hl
  unfold outN
  rw [t0, t1, t2, t3, next_key h6 hl (b0 := 1) (b1 := 1) (b2 := 1) (b3 := 1)]
  have c4 : ∀ c, c < 4 → ev E (K.quant (3 + c) k a b x) = ([a0, a1, a2, a3] ++ linksZ xs).getD c 0 := fun c h => by
   rw [ieEq_ok (p2 c h), ev_sel, ev_lit]
   rfl
  have c12 : ∀ c, c < 12 → ev E (K.quant (7 + c) k a b x) = linkZ (nrm (nextOf (ysOf 1 1 1 1 xs k a b x) xs k a b x)) c := fun c h => by
   rw [(pureL_ev same _ (p1 c h)).trans (zEq_ok (x3 c h))]
   unfold linksZ
   rw [List.getD_eq_getElem?_getD, List.getElem?_map, List.getElem?_range h]
   rfl
  have e : (List.range 16) = [0, 1, 2, 3] ++ (List.range 12).map fun c => 4 + c := rfl
  rw [e, List.map_append, List.map_map]
  congr 1
  ·show [ev E (K.quant (3 + 0) k a b x), ev E (K.quant (3 + 1) k a b x), ev E (K.quant (3 + 2) k a b x), ev E (K.quant (3 + 3) k a b x)] = _
   rw [c4 0 (by omega), c4 1 (by omega), c4 2 (by omega), c4 3 (by omega)]
   rfl
  ·unfold linksZ
   refine List.map_congr_left fun c hc => ?_
   show ev E (K.quant (3 + (4 + c)) k a b x) = _
   rw [show 3 + (4 + c) = 7 + c by omega]
   exact c12 c (List.mem_range.1 hc)
 rcases hq with ⟨_, bl, b1, b2, b3, b4⟩ | ⟨n0, _⟩
 ·refine ⟨bl, b1, b2, by rw [b3]; dsimp only; rw [q1, q2], ?_⟩
  rw [b4]
  dsimp only
  rw [q3]
 ·exact absurd q0 n0
end
end Go.Proofs.Ytojpmbkbeoolcaa
