/- how a state is laid, by unknown functions. -/
import Derived.Test.YtojpmbkbeoolcaaW
namespace Go.Proofs.Ytojpmbkbeoolcaa
open Go.Sx Go
set_option maxRecDepth 100000
noncomputable def rng7 : List Fact := [(.sel 7 (.lit 0), -1, 1048575), (.sel 7 (.lit 1), -1, 1048575), (.sel 7 (.lit 2), -1, 1048575), (.sel 7 (.lit 3), -1, 1048575)]
noncomputable def flV : List BE → SV | [] => .nil | b :: r => .cons (.bool b) (flV r)
theorem flV_ok (E : Env) : ∀ l : List BE, dl E (flV l) = l.map fun b => Value.bool (evB E b)
 | [] => rfl
 | b :: r => by
  show [Value.bool (evB E b)] ++ dl E (flV r) = _
  rw [flV_ok E r]
  rfl
noncomputable def wrI (q : Nat → IE) : Nat → Nat → SV | 0, _ => .nil | n + 1, c => .wr (.lit (.ofNat c)) (q c) (wrI q n (c + 1))
theorem wrI_val (E : Env) (r : Nat) (q : Nat → IE) : ∀ (n c j : Nat), c ≤ j → j < c + n → wsVal E r (wrI q n c) j = ev E (q j)
 | 0, c, j, h1, h2 => by omega
 | n + 1, c, j, h1, h2 => by
  unfold wrI wsVal
  rw [ev_lit]
  by_cases h : (Int.ofNat c) = (j : Int)
  ·rw [if_pos h]
   have : c = j := Int.ofNat.inj h
   rw [this]
  ·rw [if_neg h]
   have : c ≠ j := fun e => h (by rw [e]; rfl)
   exact wrI_val E r q n (c + 1) j (by omega) (by omega)
noncomputable def row16V (q : Nat → IE) : SV := .cons (.arr .i64 0 (.lit 16) (wrI q 16 0)) .nil
theorem row16V_ok (E : Env) (q : Nat → IE) : dl E (row16V q) = (List.range 16).map fun j => Value.int .i64 (ev E (q j)) := by
 show arrCells E .i64 0 (ev E (.lit 16)).toNat (wrI q 16 0) ++ [] = _
 rw [List.append_nil]
 unfold arrCells
 rw [ev_lit]
 refine List.map_congr_left fun j hj => ?_
 rw [wrI_val E 0 q 16 0 j (by omega) (by have := List.mem_range.1 hj; exact this)]
noncomputable def putN (bs : List Int) (xs : List Int) : List Int := bs.map (· + 1) ++ linksZ (nrm xs)
theorem putN_row {b0 b1 b2 b3 : Int} {xs : List Int} {E : Env} {q : Nat → IE} (h0 : ev E (q 0) = b0 + 1) (h1 : ev E (q 1) = b1 + 1) (h2 : ev E (q 2) = b2 + 1) (h3 : ev E (q 3) = b3 + 1) (hl : ∀ c, c < 12 → ev E (q (4 + c)) = linkZ (nrm xs) c) :
  dl E (row16V q) = (putN [b0, b1, b2, b3] xs).map (Value.int .i64) := by
 rw [row16V_ok]
 have e : (List.range 16) = [0, 1, 2, 3] ++ (List.range 12).map fun c => 4 + c := rfl
 unfold putN
 rw [e, List.map_append, List.map_map, List.map_append]
 congr 1
 ·show [Value.int .i64 (ev E (q 0)), Value.int .i64 (ev E (q 1)), Value.int .i64 (ev E (q 2)), Value.int .i64 (ev E (q 3))] = _
  rw [h0, h1, h2, h3]
  rfl
 ·unfold linksZ
  rw [List.map_map]
  refine List.map_congr_left fun c hc => ?_
  show Value.int .i64 (ev E (q (4 + c))) = Value.int .i64 (linkZ (nrm xs) c)
  rw [hl c (List.mem_range.1 hc)]
noncomputable def inL (xs : List Int) : List BE := (List.range 5).map fun j => .lit (zEq (xs.getD j 0) 1)
noncomputable def upL (xs : List Int) : List BE := (List.range 5).map fun j => cond (zEq (xs.getD j 0) 1) (.lit (zEq (xs.getD (5 + j) 0) 1)) (.var (30 + j))
noncomputable def stL (bs : List BE) : SV := .agg (.cons (.arr .i64 7 (.lit 4) .nil) (flV bs))
noncomputable def cellL (xs : List Int) (c : Nat) : IE := cond (Nat.ble 4 c) (.lit (linkZ xs (c - 4))) (.add (.sel 7 (.lit (.ofNat c))) (.lit 1))
noncomputable def runL (xs : List Int) : Bool := match fun0 24 [stL (inL xs), .agg (flV (upL xs))] (slMem [] rng7 60) with
 | some outs => outs.all fun q => wrongs q.2.know || eqU q.2.know q.1 (.agg (row16V (cellL xs)))
 | none => false
def SemLay : Prop := ∀ (b0 b1 b2 b3 : Int) (e0 e1 e2 e3 e4 h0 h1 h2 h3 h4 : Bool) (w : World), balIn b0 → balIn b1 → balIn b2 → balIn b3 →
 Calls Try.prog 24 #[stVals [b0, b1, b2, b3] [e0, e1, e2, e3, e4], .agg #[.bool h0, .bool h1, .bool h2, .bool h3, .bool h4]] w fun e w' => Ext (fun _ => False) w w' ∧ e = .returned (.agg ((putN [b0, b1, b2, b3] [b2i e0, b2i e1, b2i e2, b2i e3, b2i e4, b2i h0, b2i h1, b2i h2, b2i h3, b2i h4]).map (Value.int .i64)).toArray)
theorem b2i_bit (c : Bool) : Bit (b2i c) := by cases c <;> simp [Bit, b2i]
theorem z1_b2i (c : Bool) : zEq (b2i c) 1 = c := by cases c <;> rfl
theorem rng7_ok {E : Env} {b0 b1 b2 b3 : Int} (h : E.l 7 = [b0, b1, b2, b3]) (h0 : balIn b0) (h1 : balIn b1) (h2 : balIn b2) (h3 : balIn b3) : ∀ f ∈ rng7, FactOk E f := by
 intro f hf
 unfold rng7 at hf
 have e : ∀ i : Int, ev E (.sel 7 (.lit i)) = ([b0, b1, b2, b3] : List Int).getD i.toNat 0 := fun i => by
  rw [ev_sel, ev_lit]
  show (E.l 7).getD _ 0 = _
  rw [h]
 simp only [List.mem_cons, List.not_mem_nil, or_false] at hf
 unfold FactOk
 rcases hf with rfl | rfl | rfl | rfl <;> rw [e]
 ·exact h0
 ·exact h1
 ·exact h2
 ·exact h3
theorem up_one {E : Env} {e h : Bool} {k : Nat} (hb : E.b k = h) : evB E (cond (zEq (b2i e) 1) (.lit (zEq (if b2i e = 1 then b2i h else 0) 1)) (.var k)) = h := by
 cases e
 ·exact hb
 ·show zEq (if (1 : Int) = 1 then b2i h else 0) 1 = h
  rw [if_pos rfl, z1_b2i]
theorem semLay (hr : ∀ xs ∈ cfgs, runL xs = true) : SemLay := by
 intro b0 b1 b2 b3 e0 e1 e2 e3 e4 h0 h1 h2 h3 h4 w k0 k1 k2 k3
 have hm := nrm_mem (e0 := b2i e0) (e1 := b2i e1) (e2 := b2i e2) (e3 := b2i e3) (e4 := b2i e4) (h0 := b2i h0) (h1 := b2i h1) (h2 := b2i h2) (h3 := b2i h3) (h4 := b2i h4) (fun z hz => by
  simp only [List.mem_cons, List.not_mem_nil, or_false] at hz
  rcases hz with rfl | rfl | rfl | rfl | rfl <;> exact b2i_bit _) (fun z hz => by
  simp only [List.mem_cons, List.not_mem_nil, or_false] at hz
  rcases hz with rfl | rfl | rfl | rfl | rfl <;> exact b2i_bit _)
 have hr := hr _ hm
 generalize hxs : ([b2i e0, b2i e1, b2i e2, b2i e3, b2i e4, b2i h0, b2i h1, b2i h2, b2i h3, b2i h4] : List Int) = ys at *
 have hn : nrm ys = [b2i e0, b2i e1, b2i e2, b2i e3, b2i e4, if b2i e0 = 1 then b2i h0 else 0, if b2i e1 = 1 then b2i h1 else 0, if b2i e2 = 1 then b2i h2 else 0, if b2i e3 = 1 then b2i h3 else 0, if b2i e4 = 1 then b2i h4 else 0] := by rw [← hxs]; rfl
 unfold runL at hr
 split at hr
 case h_2 => cases hr
 rename_i outs hrun
 rw [List.all_eq_true] at hr
 let E := envR w [b0, b1, b2, b3] 0 (fun j => ([h0, h1, h2, h3, h4] : List Bool).getD (j - 30) false) 0 0 0
 have hE : E.Ok := envR_ok (fun z hz => by
  simp only [List.mem_cons, List.not_mem_nil, or_false] at hz
  rcases hz with rfl | rfl | rfl | rfl <;> exact balIn_64 ‹_›) zero64 zero64
 have := run_ro (fun0_ok 24) hrun (E := E) (w := w) rfl hE rfl rfl (fun _ h => (by cases h)) (rng7_ok rfl k0 k1 k2 k3)
 rw [show (([stL (inL (nrm ys)), .agg (flV (upL (nrm ys)))] : List SV).map (dv E)).toArray = #[stVals [b0, b1, b2, b3] [e0, e1, e2, e3, e4], .agg #[.bool h0, .bool h1, .bool h2, .bool h3, .bool h4]] by
  show #[Value.agg (arrCells E .i64 7 4 .nil ++ dl E (flV (inL (nrm ys)))).toArray, Value.agg (dl E (flV (upL (nrm ys)))).toArray] = _
  rw [flV_ok, flV_ok, hn]
  have i : ∀ c : Bool, evB E (.lit (zEq (b2i c) 1)) = c := z1_b2i
  have q1 : (inL [b2i e0, b2i e1, b2i e2, b2i e3, b2i e4, if b2i e0 = 1 then b2i h0 else 0, if b2i e1 = 1 then b2i h1 else 0, if b2i e2 = 1 then b2i h2 else 0, if b2i e3 = 1 then b2i h3 else 0, if b2i e4 = 1 then b2i h4 else 0]).map (fun b => Value.bool (evB E b)) = [.bool e0, .bool e1, .bool e2, .bool e3, .bool e4] := by
   show [Value.bool (evB E (.lit (zEq (b2i e0) 1))), Value.bool (evB E (.lit (zEq (b2i e1) 1))), Value.bool (evB E (.lit (zEq (b2i e2) 1))), Value.bool (evB E (.lit (zEq (b2i e3) 1))), Value.bool (evB E (.lit (zEq (b2i e4) 1)))] = _
   rw [i, i, i, i, i]
  have q2 : (upL [b2i e0, b2i e1, b2i e2, b2i e3, b2i e4, if b2i e0 = 1 then b2i h0 else 0, if b2i e1 = 1 then b2i h1 else 0, if b2i e2 = 1 then b2i h2 else 0, if b2i e3 = 1 then b2i h3 else 0, if b2i e4 = 1 then b2i h4 else 0]).map (fun b => Value.bool (evB E b)) = [.bool h0, .bool h1, .bool h2, .bool h3, .bool h4] := by
   show [Value.bool (evB E (cond (zEq (b2i e0) 1) (.lit (zEq (if b2i e0 = 1 then b2i h0 else 0) 1)) (.var 30))), Value.bool (evB E (cond (zEq (b2i e1) 1) (.lit (zEq (if b2i e1 = 1 then b2i h1 else 0) 1)) (.var 31))), Value.bool (evB E (cond (zEq (b2i e2) 1) (.lit (zEq (if b2i e2 = 1 then b2i h2 else 0) 1)) (.var 32))), Value.bool (evB E (cond (zEq (b2i e3) 1) (.lit (zEq (if b2i e3 = 1 then b2i h3 else 0) 1)) (.var 33))), Value.bool (evB E (cond (zEq (b2i e4) 1) (.lit (zEq (if b2i e4 = 1 then b2i h4 else 0) 1)) (.var 34)))] = _
   rw [up_one (E := E) (h := h0) rfl, up_one (E := E) (h := h1) rfl, up_one (E := E) (h := h2) rfl, up_one (E := E) (h := h3) rfl, up_one (E := E) (h := h4) rfl]
  rw [q1, q2]
  rfl] at this
 refine this.mono ?_
 rintro e w' ⟨q, hq, E', hA, rfl, hm'⟩
 refine ⟨hm'.ext, ?_⟩
 have hq1 := hr q hq
 rw [wrongs_ok hm'.know, Bool.false_or] at hq1
 have := eqU_ok hm'.know hq1
 unfold dv
 rw [this]
 show Ending.returned (Value.agg (dl E' (row16V (cellL (nrm ys)))).toArray) = _
 have hs : ∀ i : Nat, i < 4 → ev E' (cellL (nrm ys) i) = ([b0, b1, b2, b3] : List Int).getD i 0 + 1 := fun i hi => by
  unfold cellL
  rw [show Nat.ble 4 i = false by
   rcases (by omega : i = 0 ∨ i = 1 ∨ i = 2 ∨ i = 3) with rfl | rfl | rfl | rfl <;> rfl]
  show ev E' (.add (.sel 7 (.lit (.ofNat i))) (.lit 1)) = _
  rw [ev_add, ev_sel, ev_lit, ev_lit, row_agree hA (by decide)]
  rfl
 rw [putN_row (b0 := b0) (b1 := b1) (b2 := b2) (b3 := b3) (xs := ys) (hs 0 (by omega)) (hs 1 (by omega)) (hs 2 (by omega)) (hs 3 (by omega)) (fun c hc => by
  unfold cellL
  rw [show Nat.ble 4 (4 + c) = true from Nat.ble_eq_true_of_le (by omega), Nat.add_sub_cancel_left]
  rfl)]
noncomputable def linkA (A : IE) (c : Nat) : IE := appV (430 + c) A
noncomputable def cellA (e0 e1 e2 e3 : IE) (A : IE) : Nat → IE
 | 0 => mkAdd e0 (.lit 1)
 | 1 => mkAdd e1 (.lit 1)
 | 2 => mkAdd e2 (.lit 1)
 | 3 => mkAdd e3 (.lit 1)
 | c + 4 => linkA A c
noncomputable def factsA (A : IE) : List Fact := (List.range 12).map fun c => (.app (430 + c) A, 0, 5)
theorem factsA_ok {E : Env} (hE : E.f = G0) {A : IE} {xs : List Int} (hx : evA E A = xs) : ∀ y ∈ factsA A, FactOk E y := by
 intro y hy
 obtain ⟨c, hc, rfl⟩ := List.mem_map.1 hy
 unfold FactOk
 dsimp only
 rw [G0_link hE (List.mem_range.1 hc) hx]
 exact link_in _ (List.mem_range.1 hc)
noncomputable def flagU (kn : Know) : BE → Option IE
 | .eq (.lit z) e => cond (zEq z 1 && factIn kn e 0 1) (some e) none
 | b => flagT kn b
theorem flagU_ok {E : Env} {kn : Know} (hk : KnowOk E kn) {b : BE} {e : IE} (h : flagU kn b = some e) : ev E e = b2i (evB E b) := by
 unfold flagU at h
 split at h
 ·rename_i z e'
  cases hc : (zEq z 1 && factIn kn e' 0 1) with
  | false => rw [hc] at h; cases h
  | true =>
   rw [hc] at h
   cases h
   rw [Bool.and_eq_true] at hc
   have h1 := zEq_ok hc.1
   have h2 := factIn_ok hk hc.2
   subst h1
   show _ = b2i (decide (1 = ev E e))
   rcases (by omega : ev E e = 0 ∨ ev E e = 1) with h | h <;> rw [h] <;> rfl
 ·exact flagT_ok hk h
noncomputable def flagsU (kn : Know) : List BE → Option (List IE)
 | [] => some []
 | b :: r => match flagU kn b, flagsU kn r with
  | some e, some l => some (e :: l)
  | _, _ => none
theorem flagsU_ok {E : Env} {kn : Know} (hk : KnowOk E kn) : ∀ {l : List BE} {r : List IE}, flagsU kn l = some r → r.map (ev E) = l.map fun b => b2i (evB E b)
 | [], r, h => by cases h; rfl
 | b :: l, r, h => by
  unfold flagsU at h
  split at h
  ·rename_i e l' h1 h2
   cases h
   rw [List.map_cons, List.map_cons, flagsU_ok hk h2, flagU_ok hk h1]
  ·cases h
noncomputable def layX : List SV → X SV := pureX fun args m => match args with
 | [s, .agg ch] => match stOf s, unB 5 ch with
  | some ([e0, e1, e2, e3], l), some (u, .nil) => match flagsU m.know l, flagsU m.know u with
   | some fI, some hI => cond ([e0, e1, e2, e3].all fun e => factIn m.know e (-1) 1048575) (some (.agg (row16V (cellA e0 e1 e2 e3 (mkArgs (fI ++ hI)))), factsA (mkArgs (fI ++ hI)))) none
   | _, _ => none
  | _, _ => none
 | _ => none
theorem mkAdd_lit (E : Env) (e : IE) : ev E (mkAdd e (.lit 1)) = ev E e + 1 := by rw [mkAdd_ok, ev_lit]
theorem layX_ok (sem : SemLay) : SpecOk G0 Try.prog 24 layX := pureX_ok fun F w0 E args m w v fs hgf hm hf => by
 split at hf
 case h_2 => cases hf
 rename_i s ch
 split at hf
 case h_2 => cases hf
 rename_i e0 e1 e2 e3 l u hS hU
 split at hf
 case h_2 => cases hf
 rename_i fI hI hfI hhI
 cases hc : ([e0, e1, e2, e3].all fun e => factIn m.know e (-1) 1048575) with
 | false => rw [hc] at hf; cases hf
 | true =>
 rw [hc] at hf
 cases hf
 rw [List.all_eq_true] at hc
 have hb : ∀ e ∈ [e0, e1, e2, e3], balIn (ev E e) := fun e he => factIn_ok hm.know (hc e he)
 obtain ⟨_, l5, hs⟩ := stOf_ok E hS
 obtain ⟨u5, hu⟩ := unB_ok E hU
 obtain ⟨g0, g1, g2, g3, g4, rfl⟩ := len5 l5
 obtain ⟨p0, p1, p2, p3, p4, rfl⟩ := len5 u5
 have hx : evA E (mkArgs (fI ++ hI)) = [b2i (evB E g0), b2i (evB E g1), b2i (evB E g2), b2i (evB E g3), b2i (evB E g4), b2i (evB E p0), b2i (evB E p1), b2i (evB E p2), b2i (evB E p3), b2i (evB E p4)] := by
  rw [mkArgs_ev, List.map_append, flagsU_ok hm.know hfI, flagsU_ok hm.know hhI]
  rfl
 refine ⟨?_, factsA_ok hgf hx⟩
 have := sem (ev E e0) (ev E e1) (ev E e2) (ev E e3) (evB E g0) (evB E g1) (evB E g2) (evB E g3) (evB E g4) (evB E p0) (evB E p1) (evB E p2) (evB E p3) (evB E p4) w (hb e0 (by simp)) (hb e1 (by simp)) (hb e2 (by simp)) (hb e3 (by simp))
 rw [show (([s, .agg ch] : List SV).map (dv E)).toArray = #[stVals [ev E e0, ev E e1, ev E e2, ev E e3] [evB E g0, evB E g1, evB E g2, evB E g3, evB E g4], .agg #[.bool (evB E p0), .bool (evB E p1), .bool (evB E p2), .bool (evB E p3), .bool (evB E p4)]] by
  show #[dv E s, Value.agg (dl E ch).toArray] = _
  rw [hu]
  unfold dv
  rw [hs]
  rfl]
 refine this.mono ?_
 rintro e w' ⟨h1, rfl⟩
 refine ⟨h1, congrArg Ending.returned ?_⟩
 show _ = Value.agg (dl E (row16V (cellA e0 e1 e2 e3 (mkArgs (fI ++ hI))))).toArray
 rw [putN_row (b0 := ev E e0) (b1 := ev E e1) (b2 := ev E e2) (b3 := ev E e3) (xs := evA E (mkArgs (fI ++ hI))) (mkAdd_lit E e0) (mkAdd_lit E e1) (mkAdd_lit E e2) (mkAdd_lit E e3) (fun c hc => by
  rw [Nat.add_comm]
  show ev E (linkA _ c) = _
  unfold linkA
  rw [appV_ok hgf]
  exact G0_link hgf hc rfl), hx]
end Go.Proofs.Ytojpmbkbeoolcaa
