/- the row of the free slots, and what is out of it, by a ghost: an unknown function of the words, the row, the others that is known to be 1. -/
import Derived.Test.YtalkfdkcimfmpaaSR
namespace Go.Proofs.Ytalkfdkcimfmpaa
open Go.Sx Go Go.FreeInv
set_option maxRecDepth 100000
noncomputable def unarg : IE → List IE
 | .arg e r => e :: unarg r
 | _ => []
theorem unarg_ev (E : Env) (A : IE) : evA E A = (unarg A).map (ev E) := by
 induction A with
 | arg e r _ ih => rw [evA_arg, ih]; rfl
 | _ => rfl
noncomputable def ghostF (g : Nat) : List Fact → Option (List IE)
 | [] => none
 | (.app f A, lo, hi) :: r => cond (Nat.beq f g && (zEq lo 1 && zEq hi 1)) (some (unarg A)) (ghostF g r)
 | _ :: r => ghostF g r
theorem ghostF_ok {E : Env} {g : Nat} : ∀ {fs : List Fact} {l : List IE}, (∀ f ∈ fs, FactOk E f) → ghostF g fs = some l → E.f g (l.map (ev E)) = 1
 | [], _, _, h => by cases h
 | f :: r, l, hf, h => by
  unfold ghostF at h
  split at h
  ·rename_i heq; cases heq
  ·rename_i f' A lo hi r' heq
   cases heq
   cases hc : (Nat.beq f' g && (zEq lo 1 && zEq hi 1)) with
   | false => rw [hc] at h; exact ghostF_ok (fun f hm => hf f (List.mem_cons_of_mem _ hm)) h
   | true =>
    rw [hc] at h
    cases h
    simp only [Bool.and_eq_true] at hc
    have h1 := Nat.eq_of_beq_eq_true hc.1
    have h2 := zEq_ok hc.2.1
    have h3 := zEq_ok hc.2.2
    subst h1 h2 h3
    have := hf _ List.mem_cons_self
    unfold FactOk at this
    dsimp only at this
    rw [ev_app, unarg_ev] at this
    omega
  ·rename_i heq
   cases heq
   exact ghostF_ok (fun f hm => hf f (List.mem_cons_of_mem _ hm)) h
noncomputable def ghostIn (m : Mem) : Option (Nat × List IE) := match ghostF 760 m.know.facts with
 | some (.lit (.ofNat n) :: l) => cond (Nat.beq l.length 25 && Nat.ble n 12) (some (n, l)) none
 | _ => none
noncomputable def gW (l : List IE) : List IE := l.take 13
noncomputable def gR (n : Nat) (l : List IE) : List IE := (l.drop 13).take n
noncomputable def gO (n : Nat) (l : List IE) : List IE := (l.drop 13).drop n
structure Ghost (E : Env) (n : Nat) (l : List IE) : Prop where
 len : l.length = 25
 le : n ≤ 12
 row : rowZ ((gW l).map (ev E)) = some ((gR n l).map (ev E))
 nodup : ((gR n l).map (ev E) ++ (gO n l).map (ev E)).Nodup
 all : ∀ z ∈ (gR n l).map (ev E) ++ (gO n l).map (ev E), 0 ≤ z ∧ z ≤ 11
theorem f760 {xs : List Int} (h : G0 760 xs = 1) : Lent xs := by
 have h1 : clampZ (@ite Int (Lent xs) (Classical.propDecidable _) 1 0) = 1 := h
 by_cases hl : Lent xs
 ·exact hl
 ·rw [if_neg hl] at h1
  have : clampZ 0 = 0 := clampZ_of (by constructor <;> decide)
  omega
theorem f760_of {xs : List Int} (h : Lent xs) : G0 760 xs = 1 := by
 show clampZ (@ite Int (Lent xs) (Classical.propDecidable _) 1 0) = 1
 rw [if_pos h]
 exact clampZ_of (by constructor <;> decide)
theorem ghostIn_ok {E : Env} {m : Mem} (hk : KnowOk E m.know) (hgf : E.f = G0) {n : Nat} {l : List IE} (h : ghostIn m = some (n, l)) : Ghost E n l := by
 unfold ghostIn at h
 split at h
 ·rename_i n' l' hg
  cases hc : (Nat.beq l'.length 25 && Nat.ble n' 12) with
  | false => rw [hc] at h; cases h
  | true =>
   rw [hc] at h
   cases h
   rw [Bool.and_eq_true] at hc
   have c1 := Nat.eq_of_beq_eq_true hc.1
   have c2 := Nat.le_of_ble_eq_true hc.2
   have h1 := ghostF_ok hk.facts hg
   rw [hgf] at h1
   obtain ⟨h2, h3, h4, h5⟩ := f760 h1
   have e0 : (.lit (.ofNat n) :: l : List IE).map (ev E) = (n : Int) :: l.map (ev E) := rfl
   rw [e0] at h2 h3 h4 h5
   have e1 : ghostW ((n : Int) :: l.map (ev E)) = (gW l).map (ev E) := by
    unfold ghostW gW
    rw [List.drop_succ_cons, List.drop_zero, List.map_take]
   have e2 : ghostR ((n : Int) :: l.map (ev E)) = (gR n l).map (ev E) := by
    unfold ghostR gR
    rw [List.drop_succ_cons, List.headD_cons, Int.toNat_natCast, List.map_take, List.map_drop]
   have e3 : ((n : Int) :: l.map (ev E)).drop 14 = (gR n l).map (ev E) ++ (gO n l).map (ev E) := by
    unfold gR gO
    rw [List.drop_succ_cons, ← List.map_append, List.take_append_drop, List.map_drop]
   rw [e1, e2] at h2
   rw [e3] at h3 h4
   exact ⟨c1, c2, h2, h3, h4⟩
 ·cases h
theorem ghost_of {E : Env} (hgf : E.f = G0) {n : Nat} {ws rs os : List IE} (hw : ws.length = 13) (hr : rs.length = n) (ho : rs.length + os.length = 12) (row : rowZ (ws.map (ev E)) = some (rs.map (ev E))) (nd : (rs.map (ev E) ++ os.map (ev E)).Nodup) (all : ∀ z ∈ rs.map (ev E) ++ os.map (ev E), 0 ≤ z ∧ z ≤ 11) :
  FactOk E (.app 760 (argsE (.lit (.ofNat n) :: (ws ++ (rs ++ os)))), 1, 1) := by
 have h : ev E (.app 760 (argsE (.lit (.ofNat n) :: (ws ++ (rs ++ os))))) = 1 := by
  rw [ev_app, argsE_ev, hgf]
  have hd : ((.lit (.ofNat n) :: (ws ++ (rs ++ os)) : List IE).map (ev E)).drop 14 = rs.map (ev E) ++ os.map (ev E) := by
   rw [List.map_cons, List.drop_succ_cons, List.map_append, List.drop_append_of_le_length (by rw [List.length_map]; omega), List.drop_eq_nil_of_le (by rw [List.length_map]; omega), List.nil_append, List.map_append]
  refine f760_of ⟨?_, by rw [hd]; exact nd, by rw [hd]; exact all, by rw [hd, List.length_append, List.length_map, List.length_map]; exact ho⟩
  have e1 : ghostW ((.lit (.ofNat n) :: (ws ++ (rs ++ os)) : List IE).map (ev E)) = ws.map (ev E) := by
   unfold ghostW
   rw [List.map_cons, List.drop_succ_cons, List.drop_zero, List.map_append, List.take_append_of_le_length (by rw [List.length_map]; omega), List.take_of_length_le (by rw [List.length_map]; omega)]
  have e2 : ghostR ((.lit (.ofNat n) :: (ws ++ (rs ++ os)) : List IE).map (ev E)) = rs.map (ev E) := by
   unfold ghostR
   rw [hd]
   show (rs.map (ev E) ++ os.map (ev E)).take (n : Int).toNat = _
   rw [Int.toNat_natCast, List.take_append_of_le_length (by rw [List.length_map]; omega), List.take_of_length_le (by rw [List.length_map]; omega)]
  rw [e1, e2]
  exact row
 unfold FactOk
 dsimp only
 omega
noncomputable def firstE : List IE → IE
 | [] => .lit 0
 | r :: _ => mkAdd r (.lit 1)
theorem firstE_ev (E : Env) (l : List IE) : ev E (firstE l) = firstOf (l.map (ev E)) := by
 cases l with
 | nil => rfl
 | cons r l => show ev E (mkAdd r (.lit 1)) = ev E r + 1; rw [mkAdd_ok, ev_lit]
theorem Ghost.w0 {E : Env} {n : Nat} {l : List IE} (h : Ghost E n l) : ((gW l).map (ev E)).getD 0 0 = ev E (l.getD 0 (.lit 0)) := by
 cases l with
 | nil => rfl
 | cons a l => rfl
noncomputable def formHg (args : List SV) (m : Mem) : Option (SV × List Fact) := match args with
 | [.int .i64 x] => match ghostIn m with
  | some (n, l) => cond (in64S m.know x && ieEq x (l.getD 0 (.lit 0))) (some (headV (f1 721 x) (firstE (gR n l)) (.lit true), [(f1 721 x, 0, 1073741823)])) none
  | none => none
 | _ => none
theorem formHg_ok : SpecOk G0 Try.prog 47 (pureX formHg) := pureX_ok fun F w0 E args m w v fs hgf hm hf => by
 unfold formHg at hf
 split at hf
 case h_2 => cases hf
 rename_i x
 split at hf
 case h_2 => cases hf
 rename_i n l hg
 cases hc : (in64S m.know x && ieEq x (l.getD 0 (.lit 0))) with
 | false => rw [hc] at hf; cases hf
 | true =>
 rw [hc] at hf
 cases hf
 rw [Bool.and_eq_true] at hc
 have hx := ieEq_ok hc.2
 have gh := ghostIn_ok hm.know hgf hg
 obtain ⟨r1, r2, _⟩ := rowZ_head gh.row
 rw [gh.w0, ← hx] at r1 r2
 have hin := isH_in r1
 have hn := numOf_in (ev E x)
 refine ⟨(sem_hd (w := w) (in64S_ok hm.know hc.1)).mono ?_, fun g hg => ?_⟩
 ·rintro e w' ⟨g1, rfl⟩
  refine ⟨g1, ?_⟩
  show _ = Ending.returned (.tuple #[.agg #[.int .i64 (ev E (f1 721 x)), .int .i64 (ev E (firstE (gR n l)))], .bool true])
  rw [f721 hgf, firstE_ev, ← r2]
  unfold hdVal
  rw [r1]
  rfl
 ·rcases List.mem_singleton.1 hg with rfl
  unfold FactOk
  dsimp only
  rw [f721 hgf]
  omega
noncomputable def rowIs (r : Nat) : List IE → Nat → Bool
 | [], _ => true
 | e :: l, j => ieEq e (.sel r (.lit (.ofNat j))) && rowIs r l (j + 1)
theorem rowIs_ok {E : Env} {r : Nat} : ∀ {l : List IE} {j : Nat}, rowIs r l j = true → ∀ i, i < l.length → (l.map (ev E)).getD i 0 = (E.row r).getD (j + i) 0
 | [], _, _, i, hi => by cases hi
 | e :: l, j, h, i, hi => by
  unfold rowIs at h
  rw [Bool.and_eq_true] at h
  have h1 := ieEq_ok h.1
  subst h1
  cases i with
  | zero =>
   show ev E (.sel r (.lit (.ofNat j))) = _
   rw [ev_sel, ev_lit]
   rfl
  | succ i =>
   have := rowIs_ok (E := E) h.2 i (by simpa using hi)
   rw [List.map_cons, List.getD_cons_succ, this]
   congr 1
   omega
noncomputable def formGg (args : List SV) (m : Mem) : Option (SV × List Fact) := match args with
 | [.int .i64 (.sel r i), .int .i64 (.lit (.ofNat 12))] => match ghostIn m with
  | some (n, l) => (match gR n l with
   | r0 :: rest => cond (in64S m.know (.sel r i) && (ieEq i (mkAdd r0 (.lit 17)) && rowIs r ((gW l).drop 1) 17)) (some (pairV (firstE rest) (.lit true), [])) none
   | [] => none)
  | none => none
 | _ => none
theorem formGg_ok : SpecOk G0 Try.prog 63 (pureX formGg) := pureX_ok fun F w0 E args m w v fs hgf hm hf => by
 unfold formGg at hf
 split at hf
 case h_2 => cases hf
 rename_i r i
 split at hf
 case h_2 => cases hf
 rename_i n l hg
 split at hf
 case h_2 => cases hf
 rename_i r0 rest hr
 cases hc : (in64S m.know (.sel r i) && (ieEq i (mkAdd r0 (.lit 17)) && rowIs r ((gW l).drop 1) 17)) with
 | false => rw [hc] at hf; cases hf
 | true =>
 rw [hc] at hf
 cases hf
 simp only [Bool.and_eq_true] at hc
 obtain ⟨c1, c2, c3⟩ := hc
 have c2 := ieEq_ok c2
 have gh := ghostIn_ok hm.know hgf hg
 obtain ⟨_, _, hgo⟩ := rowZ_head gh.row
 rw [hr] at hgo
 obtain ⟨_, g2, g3, g4, _⟩ := rowGo_cons hgo
 have hr0 := gh.all (ev E r0) (by rw [hr]; exact List.mem_append_left _ List.mem_cons_self)
 have hlen : (gW l).length = 13 := by
  unfold gW
  rw [List.length_take, gh.len]
  rfl
 have hx : ((gW l).map (ev E)).getD (firstOf ((r0 :: rest).map (ev E))).toNat 0 = ev E (.sel r i) := by
  show ((gW l).map (ev E)).getD (ev E r0 + 1).toNat 0 = _
  have h1 := rowIs_ok (E := E) c3 (ev E r0).toNat (by rw [List.length_drop, hlen]; omega)
  rw [List.map_drop, List.getD_eq_getElem?_getD, List.getElem?_drop, ← List.getD_eq_getElem?_getD] at h1
  rw [show (ev E r0 + 1).toNat = 1 + (ev E r0).toNat by omega, h1, ev_sel, c2, mkAdd_ok, ev_lit]
  congr 1
  omega
 rw [hx] at g2 g3 g4
 have hcond : isV (ev E (.sel r i)) = true ∧ numOf (ev E (.sel r i)) ≤ 12 := ⟨g2, g3⟩
 refine ⟨(sem_get (x := ev E (.sel r i)) (y := 12) (w := w) (in64S_ok hm.know c1) (by decide) (by decide)).mono ?_, fun _ h => (by cases h)⟩
 rintro e w' ⟨g1, rfl⟩
 refine ⟨g1, ?_⟩
 show _ = Ending.returned (.tuple #[.int .i64 (ev E (firstE rest)), .bool true])
 rw [if_pos hcond, decide_eq_true hcond, g4, firstE_ev]
theorem sem_wd {x : Int} {w : World} (h1 : isH x = true) : Calls Try.prog 60 #[.agg #[.int .i64 (numOf x / 16), .int .i64 (numOf x % 16)]] w fun e w' => Ext (fun _ => False) w w' ∧ e = .returned (.int .i64 x) := by
 have hin := isH_in h1
 have hn := numOf_in x
 have hv : isV x = true := by
  unfold isH at h1
  rw [Bool.and_eq_true] at h1
  exact h1.1
 have hx4 : x = 4 * numOf x := by
  have hq := hv
  unfold isV at hq
  have hq := of_decide_eq_true hq
  unfold numOf
  rw [hv, if_pos rfl]
  omega
 have call := sem_nums (fun0_ok 60) wd_run (E := envN w (numOf x / 16) (numOf x % 16)) (envN_ok (by unfold in64 lo64 hi64; omega) (by unfold in64 lo64 hi64; omega)) rfl (w := w) rfl rfl (fun f hf => by
  simp only [List.mem_cons, List.not_mem_nil, or_false] at hf
  rcases hf with rfl | rfl
  ·show 0 ≤ numOf x / 16 ∧ numOf x / 16 ≤ 1073741823; omega
  ·show 0 ≤ numOf x % 16 ∧ numOf x % 16 ≤ 12; omega)
 refine call.mono ?_
 rintro e w' ⟨q, hq, E', hA, rfl, hm'⟩
 refine ⟨hm'.ext, ?_⟩
 unfold chkWd at hq
 split at hq
 case h_2 => cases hq
 rename_i e he
 have := sameK_ok hm'.know hq
 have e1 : ev E' (.var 1) = numOf x / 16 := hA.i 1 (by omega)
 have e2 : ev E' (.var 2) = numOf x % 16 := hA.i 2 (by omega)
 rw [ev_mul, ev_add, ev_mul, ev_lit, ev_lit, e1, e2] at this
 rw [he]
 show Ending.returned (.int .i64 (ev E' e)) = .returned (.int .i64 x)
 have hz : ev E' e = x := by rw [this]; omega
 rw [hz]
noncomputable def formWg (args : List SV) (m : Mem) : Option (SV × List Fact) := match args with
 | [.agg (.cons (.int .i64 (.app 721 (.arg x .noarg))) (.cons (.int .i64 f) .nil))] => match ghostIn m with
  | some (n, l) => cond (ieEq x (l.getD 0 (.lit 0)) && sameI f (firstE (gR n l))) (some (.int .i64 x, [])) none
  | none => none
 | _ => none
theorem formWg_ok : SpecOk G0 Try.prog 60 (pureX formWg) := pureX_ok fun F w0 E args m w v fs hgf hm hf => by
 unfold formWg at hf
 split at hf
 case h_2 => cases hf
 rename_i x f
 split at hf
 case h_2 => cases hf
 rename_i n l hg
 cases hc : (ieEq x (l.getD 0 (.lit 0)) && sameI f (firstE (gR n l))) with
 | false => rw [hc] at hf; cases hf
 | true =>
 rw [hc] at hf
 cases hf
 rw [Bool.and_eq_true] at hc
 have hx := ieEq_ok hc.1
 have hf := sameI_ok (E := E) hc.2
 have gh := ghostIn_ok hm.know hgf hg
 obtain ⟨r1, r2, _⟩ := rowZ_head gh.row
 rw [gh.w0, ← hx] at r1 r2
 rw [firstE_ev, ← r2] at hf
 refine ⟨?_, fun _ h => (by cases h)⟩
 have ha : (([.agg (.cons (.int .i64 (.app 721 (.arg x .noarg))) (.cons (.int .i64 f) .nil))] : List SV).map (dv E)).toArray = #[.agg #[.int .i64 (numOf (ev E x) / 16), .int .i64 (numOf (ev E x) % 16)]] := by
  show #[Value.agg #[.int .i64 (ev E (f1 721 x)), .int .i64 (ev E f)]] = _
  rw [f721 hgf, hf]
 rw [ha]
 exact (sem_wd r1).mono fun e w' h => h
noncomputable def nextC (l : List IE) : IE := .rem (.add (f1 721 (l.getD 0 (.lit 0))) (.lit 1)) (.lit 1073741824)
noncomputable def headE (l : List IE) (f : IE) : IE := .mul (.add (.mul (nextC l) (.lit 16)) f) (.lit 4)
theorem nextC_in {E : Env} (hgf : E.f = G0) (l : List IE) : 0 ≤ ev E (nextC l) ∧ ev E (nextC l) ≤ 1073741823 := by
 unfold nextC
 rw [ev_rem, ev_add, f721 hgf, ev_lit, ev_lit]
 have := numOf_in (ev E (l.getD 0 (.lit 0)))
 rw [Int.tmod_eq_emod_of_nonneg (by omega)]
 omega
theorem headE_ev {E : Env} (l : List IE) (f : IE) : ev E (headE l f) = 4 * (16 * ev E (nextC l) + ev E f) := by
 unfold headE
 rw [ev_mul, ev_add, ev_mul, ev_lit, ev_lit]
 omega
noncomputable def allEq : List IE → List IE → Bool
 | [], [] => true
 | a :: l, b :: m => ieEq a b && allEq l m
 | _, _ => false
theorem allEq_ok : ∀ {l m : List IE}, allEq l m = true → l = m
 | [], [], _ => rfl
 | [], _ :: _, h => by cases h
 | _ :: _, [], h => by cases h
 | a :: l, b :: m, h => by
  unfold allEq at h
  rw [Bool.and_eq_true] at h
  rw [ieEq_ok h.1, allEq_ok h.2]
noncomputable def wroteS (kn : Know) (o x : IE) : List IE → List IE → Nat → Bool
 | [], [], _ => true
 | a :: l, b :: m, j => (match a with
  | .ite false i (.lit z) y y' => zEq z (.ofNat j) && (ieEq i (mkAdd o (.lit 17)) && (sameK kn y x && ieEq y' b))
  | _ => false) && wroteS kn o x l m (j + 1)
 | _, _, _ => false
theorem wroteS_ok {E : Env} {kn : Know} (hk : KnowOk E kn) {o x : IE} : ∀ {l m : List IE} {j : Nat}, wroteS kn o x l m j = true → l.length = m.length ∧ ∀ i, i < l.length → (l.map (ev E)).getD i 0 = if ev E o + 17 = (j + i : Nat) then ev E x else (m.map (ev E)).getD i 0
 | [], [], _, _ => ⟨rfl, fun i hi => by cases hi⟩
 | [], _ :: _, _, h => by cases h
 | _ :: _, [], _, h => by cases h
 | a :: l, b :: m, j, h => by
  unfold wroteS at h
  rw [Bool.and_eq_true] at h
  obtain ⟨h1, h2⟩ := h
  obtain ⟨i1, i2⟩ := wroteS_ok hk h2
  refine ⟨by rw [List.length_cons, List.length_cons, i1], fun i hi => ?_⟩
  cases i with
  | succ i =>
   have := i2 i (by simpa using hi)
   rw [List.map_cons, List.getD_cons_succ, this, List.map_cons, List.getD_cons_succ]
   rw [show j + 1 + i = j + (i + 1) by omega]
  | zero =>
   split at h1
   ·rename_i i z y y'
    simp only [Bool.and_eq_true] at h1
    obtain ⟨g1, g2, g3, g4⟩ := h1
    have g1 := zEq_ok g1
    have g2 := ieEq_ok g2
    have g3 := sameK_ok hk g3
    have g4 := ieEq_ok g4
    subst g1 g2 g4
    show ev E (.ite false (mkAdd o (.lit 17)) (.lit (.ofNat j)) y y') = if ev E o + 17 = (j + 0 : Nat) then ev E x else ev E y'
    rw [ev_ite, mkAdd_ok, ev_lit, ev_lit, g3]
    by_cases hh : ev E o + 17 = (j : Int)
    ·rw [if_pos (show ev E o + 17 = (j + 0 : Nat) from hh)]
     rw [if_pos]
     simp [hh]
    ·rw [if_neg (show ¬ ev E o + 17 = (j + 0 : Nat) from hh)]
     rw [if_neg]
     simp [hh]
   ·cases h1
noncomputable def popS (kn : Know) (n : Nat) (l A : List IE) : Option (List IE × List IE) := match gR n l with
 | r0 :: rest => cond (sameK kn (A.getD 0 (.lit 0)) (headE l (firstE rest)) && allEq (A.drop 1) ((gW l).drop 1)) (some (rest, gO n l ++ [r0])) none
 | [] => none
noncomputable def pushS (kn : Know) (n : Nat) (l A : List IE) : List IE → List IE → Option (List IE × List IE)
 | _, [] => none
 | bs, o :: os => cond (sameK kn (A.getD 0 (.lit 0)) (headE l (mkAdd o (.lit 1))) && wroteS kn o (.mul (firstE (gR n l)) (.lit 4)) (A.drop 1) ((gW l).drop 1) 17) (some (o :: gR n l, bs ++ os)) (pushS kn n l A (bs ++ [o]) os)
noncomputable def stepS (kn : Know) (n : Nat) (l A : List IE) : Option (List IE × List IE) := cond (Nat.beq A.length 13) (match popS kn n l A with
 | some r => some r
 | none => pushS kn n l A [] (gO n l)) none
structure Behind (E : Env) (A rs os : List IE) : Prop where
 len : rs.length + os.length = 12
 row : rowZ (A.map (ev E)) = some (rs.map (ev E))
 nodup : (rs.map (ev E) ++ os.map (ev E)).Nodup
 all : ∀ z ∈ rs.map (ev E) ++ os.map (ev E), 0 ≤ z ∧ z ≤ 11
theorem getD0 (E : Env) (l : List IE) : (l.map (ev E)).getD 0 0 = ev E (l.getD 0 (.lit 0)) := by
 cases l <;> rfl
theorem popS_ok {E : Env} {kn : Know} (hk : KnowOk E kn) (hgf : E.f = G0) {n : Nat} {l A rs os : List IE} (gh : Ghost E n l) (h : popS kn n l A = some (rs, os)) : Behind E A rs os := by
 unfold popS at h
 split at h
 case h_2 => cases h
 rename_i r0 rest hr
 cases hc : (sameK kn (A.getD 0 (.lit 0)) (headE l (firstE rest)) && allEq (A.drop 1) ((gW l).drop 1)) with
 | false => rw [hc] at h; cases h
 | true =>
 rw [hc] at h
 obtain ⟨rfl, rfl⟩ : rest = rs ∧ gO n l ++ [r0] = os := by cases h; exact ⟨rfl, rfl⟩
 rw [Bool.and_eq_true] at hc
 have c1 := sameK_ok hk hc.1
 have c2 := allEq_ok hc.2
 have hC := nextC_in (E := E) hgf l
 have hrow := gh.row
 rw [hr] at hrow
 have hlen : rest.length + (gO n l ++ [r0]).length = 12 := by
  have h1 : (gR n l).length + (gO n l).length = 12 := by
   unfold gR gO
   rw [← List.length_append, List.take_append_drop, List.length_drop, gh.len]
  rw [hr, List.length_cons] at h1
  rw [List.length_append, List.length_singleton]
  omega
 have perm : (rest.map (ev E) ++ (gO n l ++ [r0]).map (ev E)).Perm ((gR n l).map (ev E) ++ (gO n l).map (ev E)) := by
  rw [hr, List.map_append, List.map_cons, List.map_nil, ← List.append_assoc, List.map_cons, List.cons_append]
  exact (List.perm_append_comm (l₁ := rest.map (ev E) ++ (gO n l).map (ev E)) (l₂ := [ev E r0]))
 refine ⟨hlen, rowZ_pop (W := (gW l).map (ev E)) hrow hC.1 hC.2 ?_ ?_, perm.nodup_iff.2 gh.nodup, fun z hz => gh.all z (perm.subset hz)⟩
 ·rw [getD0, c1, headE_ev, firstE_ev]
 ·intro j hj
  obtain ⟨i, rfl⟩ : ∃ i, j = 1 + i := ⟨j - 1, by omega⟩
  have : ((A.drop 1).map (ev E)).getD i 0 = (((gW l).drop 1).map (ev E)).getD i 0 := by rw [c2]
  rw [List.map_drop, List.map_drop, List.getD_eq_getElem?_getD, List.getD_eq_getElem?_getD, List.getElem?_drop, List.getElem?_drop] at this
  rw [List.getD_eq_getElem?_getD, List.getD_eq_getElem?_getD]
  exact this
theorem pushS_ok {E : Env} {kn : Know} (hk : KnowOk E kn) (hgf : E.f = G0) {n : Nat} {l A : List IE} (hA : A.length = 13) (gh : Ghost E n l) : ∀ {os2 bs rs os : List IE}, bs ++ os2 = gO n l → pushS kn n l A bs os2 = some (rs, os) → Behind E A rs os
 | [], _, _, _, _, h => by cases h
 | o :: os2, bs, rs, os, hbs, h => by
  unfold pushS at h
  cases hc : (sameK kn (A.getD 0 (.lit 0)) (headE l (mkAdd o (.lit 1))) && wroteS kn o (.mul (firstE (gR n l)) (.lit 4)) (A.drop 1) ((gW l).drop 1) 17) with
  | false =>
   rw [hc] at h
   exact pushS_ok hk hgf hA gh (by rw [← hbs, List.append_assoc]; rfl) h
  | true =>
  rw [hc] at h
  cases h
  rw [Bool.and_eq_true] at hc
  have c1 := sameK_ok hk hc.1
  obtain ⟨w1, w2⟩ := wroteS_ok hk hc.2
  have hC := nextC_in (E := E) hgf l
  have hsum : (gR n l).length + (gO n l).length = 12 := by
   unfold gR gO
   rw [← List.length_append, List.take_append_drop, List.length_drop, gh.len]
  have perm : ((o :: gR n l).map (ev E) ++ (bs ++ os2).map (ev E)).Perm ((gR n l).map (ev E) ++ (gO n l).map (ev E)) := by
   rw [← hbs, List.map_append, List.map_append, List.map_cons, List.map_cons, List.cons_append]
   have h1 : ((gR n l).map (ev E) ++ (bs.map (ev E) ++ ev E o :: os2.map (ev E))).Perm (ev E o :: ((gR n l).map (ev E) ++ (bs.map (ev E) ++ os2.map (ev E)))) := by
    rw [← List.append_assoc, ← List.append_assoc]
    exact List.perm_middle
   exact h1.symm
  have ho : 0 ≤ ev E o ∧ ev E o ≤ 11 := gh.all _ (perm.subset (by rw [List.map_cons]; exact List.mem_append_left _ List.mem_cons_self))
  have hnd := perm.nodup_iff.2 gh.nodup
  have hni : ev E o ∉ (gR n l).map (ev E) := by
   rw [List.map_cons, List.cons_append, List.nodup_cons] at hnd
   exact fun hm => hnd.1 (List.mem_append_left _ hm)
  have hlenR : (gR n l).length ≤ 11 := by
   rw [← hbs, List.length_append, List.length_cons] at hsum
   omega
  refine ⟨?_, ?_, hnd, fun z hz => gh.all z (perm.subset hz)⟩
  ·rw [← hbs, List.length_append, List.length_cons] at hsum
   rw [List.length_cons, List.length_append]
   omega
  ·have hd : ∀ i, i < 12 → (A.map (ev E)).getD (1 + i) 0 = if ev E o + 17 = (17 + i : Nat) then ev E (.mul (firstE (gR n l)) (.lit 4)) else ((gW l).map (ev E)).getD (1 + i) 0 := fun i hi => by
    have := w2 i (by rw [List.length_drop, hA]; exact hi)
    rw [List.map_drop, List.map_drop, List.getD_eq_getElem?_getD, List.getElem?_drop, ← List.getD_eq_getElem?_getD, List.getD_eq_getElem?_getD (l := (List.drop 1 _)), List.getElem?_drop, ← List.getD_eq_getElem?_getD] at this
    exact this
   have hW13 : (gW l).length = 13 := by
    unfold gW
    rw [List.length_take, gh.len]
    rfl
   refine rowZ_push (W := (gW l).map (ev E)) gh.row hC.1 hC.2 ho.1 ho.2 hni (by rw [List.length_map]; exact hlenR) ?_ ?_ ?_
   ·rw [getD0, c1, headE_ev, mkAdd_ok, ev_lit]
   ·have := hd (ev E o).toNat (by omega)
    rw [if_pos (by omega), ev_mul, firstE_ev, ev_lit] at this
    rw [show (ev E o + 1).toNat = 1 + (ev E o).toNat by omega, this]
    omega
   ·intro j hj hne
    by_cases h13 : j < 13
    ·obtain ⟨i, rfl⟩ : ∃ i, j = 1 + i := ⟨j - 1, by omega⟩
     rw [hd i (by omega), if_neg (by omega)]
    ·rw [List.getD_eq_getElem?_getD, List.getElem?_eq_none (by rw [List.length_map, hA]; omega), List.getD_eq_getElem?_getD, List.getElem?_eq_none (by rw [List.length_map, hW13]; omega)]
theorem stepS_ok {E : Env} {kn : Know} (hk : KnowOk E kn) (hgf : E.f = G0) {n : Nat} {l A rs os : List IE} (gh : Ghost E n l) (h : stepS kn n l A = some (rs, os)) : A.length = 13 ∧ Behind E A rs os := by
 unfold stepS at h
 cases hc : Nat.beq A.length 13 with
 | false => rw [hc] at h; cases h
 | true =>
  rw [hc] at h
  have hA := Nat.eq_of_beq_eq_true hc
  dsimp only [cond] at h
  split at h
  ·rename_i r hp
   cases h
   exact ⟨hA, popS_ok hk hgf gh hp⟩
  ·exact ⟨hA, pushS_ok hk hgf hA gh (List.nil_append _) h⟩
noncomputable def ghostNow (args : List SV) (m : Mem) : Option (List IE × List IE × List IE) := match argR args m with
 | some A => (match ghostIn m with
  | some (n, l) => (match stepS m.know n l (unarg A) with
   | some (rs, os) => some (unarg A, rs, os)
   | none => none)
  | none => none)
 | none => none
theorem ghostNow_ok {F : Nat → Prop} {w0 : World} {E : Env} {args : List SV} {m : Mem} {w : World} {A rs os : List IE} (hgf : E.f = G0) (hm : MemOk F w0 E m w) (h : ghostNow args m = some (A, rs, os)) :
  A.length = 13 ∧ Behind E A rs os ∧ Calls Try.prog 19 (args.map (dv E)).toArray w fun e w' => Ext (fun _ => False) w w' ∧ RowRes w (some (rs.map (ev E))) e w' := by
 unfold ghostNow at h
 split at h
 case h_2 => cases h
 rename_i B hB
 split at h
 case h_2 => cases h
 rename_i n l hg
 split at h
 case h_2 => cases h
 rename_i rs' os' hs
 cases h
 obtain ⟨h1, h2⟩ := stepS_ok hm.know hgf (ghostIn_ok hm.know hgf hg) hs
 have call := argR_ok sem19 hm hB
 rw [unarg_ev, h2.row] at call
 exact ⟨h1, h2, call⟩
noncomputable def factsG (args : List SV) (m : Mem) : List Fact := match ghostNow args m with
 | some (A, rs, os) => [(.app 760 (argsE (.lit (.ofNat rs.length) :: (A ++ (rs ++ os)))), 1, 1)]
 | none => []
noncomputable def formG0 (args : List SV) (m : Mem) : Option (SV × List Fact) := match ghostNow args m with
 | some (_, [], _) => some (valR .nils, [])
 | _ => none
noncomputable def formG1 (args : List SV) (m : Mem) : Option (List IE × Int) := match ghostNow args m with
 | some (_, r :: rs, _) => some (r :: rs, .ofNat (rs.length + 1))
 | _ => none
noncomputable def rowG : List SV → X SV := factX factsG (orX (pureX formG0) (blkCX 3 valR formG1))
theorem rowG_ok : SpecOk G0 Try.prog 19 rowG := factX_ok (orX_ok (pureX_ok fun F w0 E args m w v fs hgf hm hf => by
 unfold formG0 at hf
 split at hf
 case h_2 => cases hf
 rename_i A os hg
 cases hf
 obtain ⟨_, _, call⟩ := ghostNow_ok hgf hm hg
 exact ⟨call.mono fun e w' ⟨g1, g2⟩ => ⟨g1, g2⟩, fun _ h => (by cases h)⟩) (fun F w0 E args m outs w hgf ho hm => blkCX_ok (vals := fun v => .tuple #[v, .int .i64 0]) (fun _ _ _ _ _ _ => rfl) ho hm fun es z hf => by
 unfold formG1 at hf
 split at hf
 case h_2 => cases hf
 rename_i A r rs os hg
 cases hf
 obtain ⟨_, _, call⟩ := ghostNow_ok hgf hm hg
 refine call.mono fun e w' ⟨g1, bl, cap, b1, b2, b3, b4, b5, b6⟩ => ⟨g1, bl, cap, b1, b2, ?_, b4, ?_, ?_⟩
 ·rw [List.length_map] at b3
  exact b3
 ·rw [b5, List.length_map]
  show some (Obj.cells ((ev E r :: rs.map (ev E)).map (Value.int .i64) ++ _).toArray 3 (0, 0)) = some (Obj.cells ((r :: rs).map (fun e => Value.int .i64 (ev E e)) ++ _).toArray 3 (0, 0))
  rw [show (ev E r :: rs.map (ev E)).map (Value.int .i64) = (r :: rs).map (fun e => Value.int .i64 (ev E e)) by
   rw [List.map_cons, List.map_cons, List.map_map]
   rfl]
  rfl
 ·rw [List.length_map] at b6
  exact b6)) (fun F w0 E args m w hgf hm y hy => by
 unfold factsG at hy
 split at hy
 ·rename_i A rs os hg
  rcases List.mem_singleton.1 hy with rfl
  obtain ⟨h1, h2, _⟩ := ghostNow_ok hgf hm hg
  exact ghost_of hgf h1 rfl h2.len h2.row h2.nodup h2.all
 ·cases hy)
noncomputable def factB (fs : List Fact) (s : Fr → X (SX × Fr)) : Fr → X (SX × Fr) := fun tm m => s tm { m with know := ⟨m.know.facts ++ fs, m.know.conds⟩ }
theorem factB_ok {c : Code} {fs : List Fact} {s : Fr → X (SX × Fr)} (hs : CodeOk G0 Try.prog c s) (hf : ∀ E : Env, E.f = G0 → ∀ f ∈ fs, FactOk E f) : CodeOk G0 Try.prog c (factB fs s) := by
 intro F w0 E tm a m w outs hgf ho hm ha
 refine hs F w0 E tm a { m with know := ⟨m.know.facts ++ fs, m.know.conds⟩ } w outs hgf ho ⟨⟨hm.know.env, fun f hm' => ?_, hm.know.conds⟩, hm.size, hm.ents, hm.apart, hm.mine, hm.ext, hm.seg0⟩ ha
 rcases List.mem_append.1 hm' with h | h
 ·exact hm.know.facts f h
 ·exact hf E hgf f h
noncomputable def spL : List (Nat × (List SV → X SV)) := [(63, orX (pureX formGg) getX), (47, orX (pureX formHg) hdX), (60, orX (pureX formWg) wdX), (19, rowG), (22, sameX), (24, makeX aw)]
theorem okSpL : ∀ x ∈ spL, SpecOk G0 Try.prog x.1 x.2 := cons_ok (a := (63, orX (pureX formGg) getX)) (orX_ok formGg_ok getX_ok) (cons_ok (a := (47, orX (pureX formHg) hdX)) (orX_ok formHg_ok hdX_ok) (cons_ok (a := (60, orX (pureX formWg) wdX)) (orX_ok formWg_ok wdX_ok) (cons_ok (a := (19, rowG)) rowG_ok (cons_ok (a := (22, sameX)) sameX_ok (one_ok (a := (24, makeX aw)) aw_ok)))))
noncomputable def cxL : CX := callF (tabJ []) (spOf spL) (bxOf []) 400 12
theorem cxL_ok : CallsOk G0 Try.prog cxL := by
 unfold cxL
 rw [callF_eq]
 exact callD_ok (spOf_ok okSpL) noBx 400 12
end Go.Proofs.Ytalkfdkcimfmpaa
