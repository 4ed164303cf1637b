/- a slice of sixteen cells, told as a state, by unknown functions. -/
import Derived.Test.YtojpmbkbeoolcaaH
namespace Go.Proofs.Ytojpmbkbeoolcaa
open Go.Sx Go
set_option maxRecDepth 100000
noncomputable def bitB : IE → BE
 | .bv j => .var j
 | .lit z => .lit (zEq z 1)
 | e => .eq e (.lit 1)
theorem bitB_ok (E : Env) (e : IE) : evB E (bitB e) = decide (ev E e = 1) := by
 unfold bitB
 split
 ·rename_i j
  rw [ev_bv]
  show E.b j = _
  cases E.b j <;> rfl
 ·rename_i z
  show zEq z 1 = _
  rw [zEq_of]
  rfl
 ·rfl
noncomputable def stA (bal : Nat → IE) (fl : List BE) : SV := .agg (.cons (.arr .i64 0 (.lit 4) (wrI bal 4 0)) (flV fl))
theorem stA_ok (E : Env) (bal : Nat → IE) (fl : List BE) : dv E (stA bal fl) = stVals [ev E (bal 0), ev E (bal 1), ev E (bal 2), ev E (bal 3)] (fl.map (evB E)) := by
 show Value.agg (arrCells E .i64 0 4 (wrI bal 4 0) ++ dl E (flV fl)).toArray = _
 rw [flV_ok]
 have e1 : arrCells E .i64 0 4 (wrI bal 4 0) = [.int .i64 (ev E (bal 0)), .int .i64 (ev E (bal 1)), .int .i64 (ev E (bal 2)), .int .i64 (ev E (bal 3))] := by
  show [Value.int .i64 (wsVal E 0 _ 0), Value.int .i64 (wsVal E 0 _ 1), Value.int .i64 (wsVal E 0 _ 2), Value.int .i64 (wsVal E 0 _ 3)] = _
  rw [wrI_val E 0 bal 4 0 0 (by omega) (by omega), wrI_val E 0 bal 4 0 1 (by omega) (by omega), wrI_val E 0 bal 4 0 2 (by omega) (by omega), wrI_val E 0 bal 4 0 3 (by omega) (by omega)]
 rw [e1]
 unfold stVals
 rw [List.map_map]
 rfl
noncomputable def getI (ac bs : List IE) : SV := .tup (.cons (stA (fun c => mkAdd (ac.getD c (.lit 0)) (.lit (-1))) ((bs.take 5).map bitB)) (.cons (.int .i64 (.lit 0)) .nil))
noncomputable def getU (A : IE) : SV := .tup (.cons (stA (fun c => .app (521 + c) A) [.eq (.app 525 A) (.lit 1), .eq (.app 526 A) (.lit 1), .eq (.app 527 A) (.lit 1), .eq (.app 528 A) (.lit 1), .eq (.app 529 A) (.lit 1)]) (.cons (.int .i64 (.app 520 A)) .nil))
noncomputable def formI (kn : Know) (l : List IE) : Option (SV × List Fact) := match bitsOf (l.drop 4) with
 | some bs => cond (Nat.beq bs.length 10 && ((bs.all fun e => factIn kn e 0 1) && (l.take 4).all fun e => factIn kn e 0 1048576)) (some (getI (l.take 4) bs, (l.drop 4).map fun e => (e, 0, 5))) none
 | none => none
noncomputable def getX : List SV → X SV := pureX fun args m => match args with
 | [v] => match getArgs m v with
  | some l => cond (l.all (in64S m.know)) (match formI m.know l with
   | some r => some r
   | none => some (getU (mkArgs l), [])) none
  | none => none
 | _ => none
theorem G0_get {i : Nat} (hi : i ≤ 9) (N : List Int) : G0 (520 + i) N = clampZ (getZ i N) := by
 unfold G0
 rw [if_neg (by omega), if_neg (by omega), if_neg (by omega), if_neg (by omega), if_neg (by omega), if_neg (by omega), if_pos (by omega), Nat.add_sub_cancel_left]
theorem getZ_in {N : List Int} (i : Nat) : in64 (getZ i N) := by
 unfold getZ
 split
 ·rename_i xs h
  obtain ⟨ha, hx, _⟩ := imgOf_some h
  split
  ·exact zero64
  ·split
   ·rename_i h0 h4
    by_cases hl : i - 1 < N.length
    ·have := ha (N.getD (i - 1) 0) (by
      rw [List.getD_eq_getElem?_getD, List.getElem?_eq_getElem hl]
      exact List.mem_of_getElem? (i := i - 1) (by rw [List.getElem?_take_of_lt (by omega), List.getElem?_eq_getElem hl]; rfl))
     unfold in64 lo64 hi64
     omega
    ·rw [List.getD_eq_getElem?_getD, List.getElem?_eq_none (by omega)]
     constructor <;> decide
   ·have : Bit (xs.getD (i - 5) 0) := by
     by_cases hl : i - 5 < xs.length
     ·rw [List.getD_eq_getElem?_getD, List.getElem?_eq_getElem hl]
      exact cfg_bit hx _ (List.getElem_mem _)
     ·rw [List.getD_eq_getElem?_getD, List.getElem?_eq_none (by omega)]
      exact .inl rfl
    rcases this with h | h <;> rw [h] <;> (constructor <;> decide)
 ·split <;> (constructor <;> decide)
theorem ev_get {E : Env} (hE : E.f = G0) {A : IE} {N : List Int} (hA : evA E A = N) {i : Nat} (hi : i ≤ 9) : ev E (.app (520 + i) A) = getZ i N := by
 rw [ev_app, hA, hE, G0_get hi]
 unfold clampZ
 exact if_pos (getZ_in i)
theorem getX_ok {f : Nat} (sem : SemGet f) : SpecOk G0 Try.prog f getX := pureX_ok fun F w0 E args m w v fs hgf hm hf => by
 split at hf
 case h_2 => cases hf
 rename_i a
 split at hf
 case h_2 => cases hf
 rename_i l hl
 cases hc : l.all (in64S m.know) with
 | false => rw [hc] at hf; cases hf
 | true =>
 rw [hc] at hf
 dsimp only [cond] at hf
 rw [List.all_eq_true] at hc
 obtain ⟨l16, b, o, cap, hdv, hcap, hrow⟩ := getArgs_ok hm hl
 have h64 : ∀ z ∈ l.map (ev E), in64 z := fun z hz => by
  obtain ⟨e, he, rfl⟩ := List.mem_map.1 hz
  exact in64S_ok hm.know (hc e he)
 have hcall := sem _ b o cap w hrow h64 hcap
 rw [show (([a] : List SV).map (dv E)).toArray = #[.slice (some ⟨b, o, none⟩) 16 cap] by
  show #[dv E a] = _
  rw [hdv]]
 split at hf
 ·rename_i r hr
  cases hf
  unfold formI at hr
  split at hr
  case h_2 => cases hr
  rename_i bs hbs
  cases hq : (Nat.beq bs.length 10 && ((bs.all fun e => factIn m.know e 0 1) && (l.take 4).all fun e => factIn m.know e 0 1048576)) with
  | false => rw [hq] at hr; cases hr
  | true =>
  rw [hq] at hr
  cases hr
  simp only [Bool.and_eq_true, List.all_eq_true] at hq
  obtain ⟨q1, q2, q3⟩ := hq
  have q1 := Nat.eq_of_beq_eq_true q1
  obtain ⟨l4, l12⟩ := len16 l16
  have hlinks := bitsOf_ok hgf l12 hbs
  have hbits : ∀ e ∈ bs, Bit (ev E e) := fun e he => by
   have := factIn_ok hm.know (q2 e he)
   rcases (by omega : ev E e = 0 ∨ ev E e = 1) with h | h
   ·exact .inl h
   ·exact .inr h
  obtain ⟨e0, e1, e2, e3, e4, g0, g1, g2, g3, g4, rfl⟩ := len10 q1
  have hcfg : nrm ([e0, e1, e2, e3, e4, g0, g1, g2, g3, g4].map (ev E)) ∈ cfgs := nrm_mem (fun z hz => by
    simp only [List.mem_cons, List.not_mem_nil, or_false] at hz
    rcases hz with rfl | rfl | rfl | rfl | rfl <;> exact hbits _ (by simp)) (fun z hz => by
    simp only [List.mem_cons, List.not_mem_nil, or_false] at hz
    rcases hz with rfl | rfl | rfl | rfl | rfl <;> exact hbits _ (by simp))
  have hi : imgOf (l.map (ev E)) = some (nrm ([e0, e1, e2, e3, e4, g0, g1, g2, g3, g4].map (ev E))) := imgOf_of (fun z hz => by
   rw [← List.map_take] at hz
   obtain ⟨e, he, rfl⟩ := List.mem_map.1 hz
   exact factIn_ok hm.know (q3 e he)) hcfg (by rw [← List.map_drop, hlinks])
  refine ⟨?_, fun y hy => ?_⟩
  ·refine hcall.mono ?_
   rintro e w' ⟨h1, rfl⟩
   refine ⟨h1, congrArg Ending.returned ?_⟩
   show _ = Value.tuple #[dv E (stA _ _), .int .i64 0]
   rw [stA_ok]
   have ac : ∀ c, c < 4 → ev E (mkAdd ((l.take 4).getD c (.lit 0)) (.lit (-1))) = (l.map (ev E)).getD c 0 - 1 := fun c hc => by
    rw [mkAdd_ok, ev_lit, List.getD_eq_getElem?_getD, List.getElem?_take_of_lt hc, List.getElem?_eq_getElem (by omega), List.getD_eq_getElem?_getD, List.getElem?_map, List.getElem?_eq_getElem (by omega)]
    show ev E l[c] + -1 = ev E l[c] - 1
    omega
   rw [ac 0 (by omega), ac 1 (by omega), ac 2 (by omega), ac 3 (by omega)]
   unfold getVal getZ
   rw [hi]
   show Value.tuple #[stVals _ [decide (ev E e0 = 1), decide (ev E e1 = 1), decide (ev E e2 = 1), decide (ev E e3 = 1), decide (ev E e4 = 1)], .int .i64 0] = Value.tuple #[stVals _ [evB E (bitB e0), evB E (bitB e1), evB E (bitB e2), evB E (bitB e3), evB E (bitB e4)], .int .i64 0]
   rw [bitB_ok, bitB_ok, bitB_ok, bitB_ok, bitB_ok]
   rfl
  ·obtain ⟨e, he, rfl⟩ := List.mem_map.1 hy
   unfold FactOk
   have : ev E e ∈ (l.drop 4).map (ev E) := List.mem_map.2 ⟨e, he, rfl⟩
   rw [hlinks] at this
   obtain ⟨c, hc, hce⟩ := List.mem_map.1 this
   dsimp only
   rw [← hce]
   exact link_in _ (List.mem_range.1 hc)
 ·cases hf
  refine ⟨?_, fun _ h => (by cases h)⟩
  refine hcall.mono ?_
  rintro e w' ⟨h1, rfl⟩
  refine ⟨h1, congrArg Ending.returned ?_⟩
  have hA : evA E (mkArgs l) = l.map (ev E) := mkArgs_ev E l
  have g : ∀ i, i ≤ 9 → ev E (.app (520 + i) (mkArgs l)) = getZ i (l.map (ev E)) := fun i hi => ev_get hgf hA hi
  show _ = Value.tuple #[dv E (stA _ _), .int .i64 (ev E (.app (520 + 0) (mkArgs l)))]
  rw [stA_ok, g 0 (by omega)]
  show _ = Value.tuple #[stVals [ev E (.app (520 + 1) (mkArgs l)), ev E (.app (520 + 2) (mkArgs l)), ev E (.app (520 + 3) (mkArgs l)), ev E (.app (520 + 4) (mkArgs l))] [decide (ev E (.app (520 + 5) (mkArgs l)) = 1), decide (ev E (.app (520 + 6) (mkArgs l)) = 1), decide (ev E (.app (520 + 7) (mkArgs l)) = 1), decide (ev E (.app (520 + 8) (mkArgs l)) = 1), decide (ev E (.app (520 + 9) (mkArgs l)) = 1)], _]
  rw [g 1 (by omega), g 2 (by omega), g 3 (by omega), g 4 (by omega), g 5 (by omega), g 6 (by omega), g 7 (by omega), g 8 (by omega), g 9 (by omega)]
  rfl
end Go.Proofs.Ytojpmbkbeoolcaa
