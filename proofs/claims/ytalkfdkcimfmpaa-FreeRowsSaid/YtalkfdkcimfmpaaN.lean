/- three threads that pop and push: what is known of them is one fact, an unknown function of the step, the words, the threads that is 1. -/
import Derived.Test.YtalkfdkcimfmpaaSR
namespace Go.Proofs.Ytalkfdkcimfmpaa
open Go.Sx Go Go.FreeInv
set_option maxRecDepth 100000
noncomputable def unarg : IE → List IE
 | .arg e r => e :: unarg r
 | _ => []
theorem unarg_ev (E : Env) (A : IE) : evA E A = (unarg A).map (ev E) := by
 induction A with
 | arg e r _ ih => rw [evA_arg, ih]; rfl
 | _ => rfl
noncomputable def ghostF (g : Nat) : List Fact → Option (List IE)
 | [] => none
 | (.app f A, lo, hi) :: r => cond (Nat.beq f g && (zEq lo 1 && zEq hi 1)) (some (unarg A)) (ghostF g r)
 | _ :: r => ghostF g r
theorem ghostF_ok {E : Env} {g : Nat} : ∀ {fs : List Fact} {l : List IE}, (∀ f ∈ fs, FactOk E f) → ghostF g fs = some l → E.f g (l.map (ev E)) = 1
 | [], _, _, h => by cases h
 | f :: r, l, hf, h => by
  unfold ghostF at h
  split at h
  ·rename_i heq; cases heq
  ·rename_i f' A lo hi r' heq
   cases heq
   cases hc : (Nat.beq f' g && (zEq lo 1 && zEq hi 1)) with
   | false => rw [hc] at h; exact ghostF_ok (fun f hm => hf f (List.mem_cons_of_mem _ hm)) h
   | true =>
    rw [hc] at h
    cases h
    simp only [Bool.and_eq_true] at hc
    have h1 := Nat.eq_of_beq_eq_true hc.1
    have h2 := zEq_ok hc.2.1
    have h3 := zEq_ok hc.2.2
    subst h1 h2 h3
    have := hf _ List.mem_cons_self
    unfold FactOk at this
    dsimp only at this
    rw [ev_app, unarg_ev] at this
    omega
  ·rename_i heq
   cases heq
   exact ghostF_ok (fun f hm => hf f (List.mem_cons_of_mem _ hm)) h
noncomputable def rowIs (r : Nat) : List IE → Nat → Bool
 | [], _ => true
 | e :: l, j => ieEq e (.sel r (.lit (.ofNat j))) && rowIs r l (j + 1)
theorem rowIs_ok {E : Env} {r : Nat} : ∀ {l : List IE} {j : Nat}, rowIs r l j = true → ∀ i, i < l.length → (l.map (ev E)).getD i 0 = (E.row r).getD (j + i) 0
 | [], _, _, i, hi => by cases hi
 | e :: l, j, h, i, hi => by
  unfold rowIs at h
  rw [Bool.and_eq_true] at h
  have h1 := ieEq_ok h.1
  subst h1
  cases i with
  | zero =>
   show ev E (.sel r (.lit (.ofNat j))) = _
   rw [ev_sel, ev_lit]
   rfl
  | succ i =>
   have := rowIs_ok (E := E) h.2 i (by simpa using hi)
   rw [List.map_cons, List.getD_cons_succ, this]
   congr 1
   omega
noncomputable def allEq : List IE → List IE → Bool
 | [], [] => true
 | a :: l, b :: m => ieEq a b && allEq l m
 | _, _ => false
theorem allEq_ok : ∀ {l m : List IE}, allEq l m = true → l = m
 | [], [], _ => rfl
 | [], _ :: _, h => by cases h
 | _ :: _, [], h => by cases h
 | a :: l, b :: m, h => by
  unfold allEq at h
  rw [Bool.and_eq_true] at h
  rw [ieEq_ok h.1, allEq_ok h.2]
noncomputable def wroteS (kn : Know) (o x : IE) : List IE → List IE → Nat → Bool
 | [], [], _ => true
 | a :: l, b :: m, j => (match a with
  | .ite false i (.lit z) y y' => zEq z (.ofNat j) && (ieEq i (mkAdd o (.lit 17)) && (sameK kn y x && ieEq y' b))
  | _ => false) && wroteS kn o x l m (j + 1)
 | _, _, _ => false
theorem wroteS_ok {E : Env} {kn : Know} (hk : KnowOk E kn) {o x : IE} : ∀ {l m : List IE} {j : Nat}, wroteS kn o x l m j = true → l.length = m.length ∧ ∀ i, i < l.length → (l.map (ev E)).getD i 0 = if ev E o + 17 = (j + i : Nat) then ev E x else (m.map (ev E)).getD i 0
 | [], [], _, _ => ⟨rfl, fun i hi => by cases hi⟩
 | [], _ :: _, _, h => by cases h
 | _ :: _, [], _, h => by cases h
 | a :: l, b :: m, j, h => by
  unfold wroteS at h
  rw [Bool.and_eq_true] at h
  obtain ⟨h1, h2⟩ := h
  obtain ⟨i1, i2⟩ := wroteS_ok hk h2
  refine ⟨by rw [List.length_cons, List.length_cons, i1], fun i hi => ?_⟩
  cases i with
  | succ i =>
   have := i2 i (by simpa using hi)
   rw [List.map_cons, List.getD_cons_succ, this, List.map_cons, List.getD_cons_succ]
   rw [show j + 1 + i = j + (i + 1) by omega]
  | zero =>
   split at h1
   ·rename_i i z y y'
    simp only [Bool.and_eq_true] at h1
    obtain ⟨g1, g2, g3, g4⟩ := h1
    have g1 := zEq_ok g1
    have g2 := ieEq_ok g2
    have g3 := sameK_ok hk g3
    have g4 := ieEq_ok g4
    subst g1 g2 g4
    show ev E (.ite false (mkAdd o (.lit 17)) (.lit (.ofNat j)) y y') = if ev E o + 17 = (j + 0 : Nat) then ev E x else ev E y'
    rw [ev_ite, mkAdd_ok, ev_lit, ev_lit, g3]
    by_cases hh : ev E o + 17 = (j : Int)
    ·rw [if_pos (show ev E o + 17 = (j + 0 : Nat) from hh)]
     rw [if_pos]
     simp [hh]
    ·rw [if_neg (show ¬ ev E o + 17 = (j + 0 : Nat) from hh)]
     rw [if_neg]
     simp [hh]
   ·cases h1
theorem getD0 (E : Env) (l : List IE) : (l.map (ev E)).getD 0 0 = ev E (l.getD 0 (.lit 0)) := by
 cases l <;> rfl
noncomputable def factB (fs : List Fact) (s : Fr → X (SX × Fr)) : Fr → X (SX × Fr) := fun tm m => s tm { m with know := ⟨m.know.facts ++ fs, m.know.conds⟩ }
theorem factB_ok {c : Code} {fs : List Fact} {s : Fr → X (SX × Fr)} (hs : CodeOk G0 Try.prog c s) (hf : ∀ E : Env, E.f = G0 → ∀ f ∈ fs, FactOk E f) : CodeOk G0 Try.prog c (factB fs s) := by
 intro F w0 E tm a m w outs hgf ho hm ha
 refine hs F w0 E tm a { m with know := ⟨m.know.facts ++ fs, m.know.conds⟩ } w outs hgf ho ⟨⟨hm.know.env, fun f hm' => ?_, hm.know.conds⟩, hm.size, hm.ents, hm.apart, hm.mine, hm.ext, hm.seg0⟩ ha
 rcases List.mem_append.1 hm' with h | h
 ·exact hm.know.facts f h
 ·exact hf E hgf f h
theorem f750 {xs : List Int} (h : G0 750 xs = 1) : Run xs := by
 have h1 : clampZ (@ite Int (Run xs) (Classical.propDecidable _) 1 0) = 1 := h
 by_cases hl : Run xs
 ·exact hl
 ·rw [if_neg hl] at h1
  have : clampZ 0 = 0 := clampZ_of (by constructor <;> decide)
  omega
theorem f750_of {xs : List Int} (h : Run xs) : G0 750 xs = 1 := by
 show clampZ (@ite Int (Run xs) (Classical.propDecidable _) 1 0) = 1
 rw [if_pos h]
 exact clampZ_of (by constructor <;> decide)
theorem f751 {xs : List Int} (h : G0 751 xs = 1) : Once xs := by
 have h1 : clampZ (@ite Int (Once xs) (Classical.propDecidable _) 1 0) = 1 := h
 by_cases hl : Once xs
 ·exact hl
 ·rw [if_neg hl] at h1
  have : clampZ 0 = 0 := clampZ_of (by constructor <;> decide)
  omega
theorem f751_of {xs : List Int} (h : Once xs) : G0 751 xs = 1 := by
 show clampZ (@ite Int (Once xs) (Classical.propDecidable _) 1 0) = 1
 rw [if_pos h]
 exact clampZ_of (by constructor <;> decide)
noncomputable def gi (l : List IE) : IE := l.getD 0 (.lit 0)
noncomputable def gW (l : List IE) : List IE := (l.drop 1).take 13
noncomputable def gT (l : List IE) (t : Nat) : List IE := (l.drop (14 + 6 * t)).take 6
noncomputable def fT (o : List IE) (j : Nat) : IE := o.getD j (.lit 0)
theorem fT_ev (E : Env) (o : List IE) (j : Nat) : (o.map (ev E)).getD j 0 = ev E (fT o j) := by
 unfold fT
 rw [List.getD_eq_getElem?_getD, List.getElem?_map, List.getD_eq_getElem?_getD]
 cases o[j]? <;> rfl
noncomputable def rowE (E : Env) (i : IE) (W : List IE) (T : Nat → List IE) : Row3 := ⟨ev E i, W.map (ev E), fun t => (T t).map (ev E)⟩
theorem rowOf_ev (E : Env) (l : List IE) : rowOf (l.map (ev E)) = rowE E (gi l) (gW l) (gT l) := by
 unfold rowOf rowE gi gW gT
 congr 1
 ·cases l <;> rfl
 ·rw [List.map_take, List.map_drop]
 ·funext t
  rw [List.map_take, List.map_drop]
noncomputable def ghostR3 (m : Mem) : Option (List IE) := match ghostF 750 m.know.facts with
 | some l => cond (Nat.beq l.length 32) (some l) none
 | none => none
theorem ghostR3_ok {E : Env} {m : Mem} (hk : KnowOk E m.know) (hgf : E.f = G0) {l : List IE} (h : ghostR3 m = some l) : l.length = 32 ∧ ∃ L, RunOk (rowE E (gi l) (gW l) (gT l)) L := by
 unfold ghostR3 at h
 split at h
 ·rename_i l' hg
  cases hc : Nat.beq l'.length 32 with
  | false => rw [hc] at h; cases h
  | true =>
   rw [hc] at h
   cases h
   have h1 := ghostF_ok hk.facts hg
   rw [hgf] at h1
   obtain ⟨_, L, hL⟩ := f750 h1
   rw [rowOf_ev] at hL
   exact ⟨Nat.eq_of_beq_eq_true hc, L, hL⟩
 ·cases h
noncomputable def factsHd (args : List SV) (m : Mem) : List Fact := match args with
 | [.int .i64 x] => (match ghostR3 m with
  | some l => cond (ieEq x (fT (gW l) 0)) [(f1 717 x, 1, 1)] []
  | none => [])
 | _ => []
theorem factsHd_ok (F : Nat → Prop) (w0 : World) (E : Env) (args : List SV) (m : Mem) (w : World) (hgf : E.f = G0) (hm : MemOk F w0 E m w) : ∀ y ∈ factsHd args m, FactOk E y := fun y hy => by
 unfold factsHd at hy
 split at hy
 case h_2 => cases hy
 rename_i x
 split at hy
 case h_2 => cases hy
 rename_i l hl
 cases hc : ieEq x (fT (gW l) 0) with
 | false => rw [hc] at hy; cases hy
 | true =>
  rw [hc] at hy
  rcases List.mem_singleton.1 hy with rfl
  have hx := ieEq_ok hc
  obtain ⟨_, L, hL⟩ := ghostR3_ok hm.know hgf hl
  have h1 := hL.head.1
  have h2 : ((gW l).map (ev E)).getD 0 0 = ev E x := by rw [fT_ev, hx]
  have h1 : isH (((gW l).map (ev E)).getD 0 0) = true := h1
  rw [h2] at h1
  unfold FactOk
  dsimp only
  rw [f717 hgf, h1]
  exact ⟨Int.le_refl 1, Int.le_refl 1⟩
noncomputable def factsNx (args : List SV) (m : Mem) : List Fact := match args with
 | .int .i64 (.sel r i) :: _ => (match ghostR3 m with
  | some l => cond (rowIs r ((gW l).drop 1) 17 && factIn m.know i 17 28) [(f1 715 (.sel r i), 1, 1), (f1 716 (.sel r i), 0, 12)] []
  | none => [])
 | _ => []
theorem next_at {E : Env} {l : List IE} {L : List Nat} (hlen : l.length = 32) (hL : RunOk (rowE E (gi l) (gW l) (gT l)) L) {r : Nat} (hr : rowIs r ((gW l).drop 1) 17 = true) {i : IE} {s : Nat} (hs : s < 12) (hi : ev E i = 17 + (s : Int)) :
  isV (ev E (.sel r i)) = true ∧ numOf (ev E (.sel r i)) = (sysR (rowE E (gi l) (gW l) (gT l))).N s ∧ 0 ≤ numOf (ev E (.sel r i)) ∧ numOf (ev E (.sel r i)) ≤ 12 := by
 have hW : (gW l).length = 13 := by
  unfold gW
  rw [List.length_take, List.length_drop, hlen]
  rfl
 have h1 := rowIs_ok (E := E) hr s (by rw [List.length_drop, hW]; omega)
 rw [List.map_drop, List.getD_eq_getElem?_getD, List.getElem?_drop, ← List.getD_eq_getElem?_getD] at h1
 have h2 : ev E (.sel r i) = ((gW l).map (ev E)).getD (s + 1) 0 := by
  rw [show s + 1 = 1 + s by omega, h1, ev_sel, hi]
  congr 1
 obtain ⟨g1, g2, g3, g4⟩ := hL.next hs
 have g1 : isV (((gW l).map (ev E)).getD (s + 1) 0) = true := g1
 have g2 : numOf (((gW l).map (ev E)).getD (s + 1) 0) = _ := g2
 rw [← h2] at g1 g2
 exact ⟨g1, g2, by rw [g2]; exact g3, by rw [g2]; exact g4⟩
theorem factsNx_ok (F : Nat → Prop) (w0 : World) (E : Env) (args : List SV) (m : Mem) (w : World) (hgf : E.f = G0) (hm : MemOk F w0 E m w) : ∀ y ∈ factsNx args m, FactOk E y := fun y hy => by
 unfold factsNx at hy
 split at hy
 case h_2 => cases hy
 rename_i r i rest
 split at hy
 case h_2 => cases hy
 rename_i l hl
 cases hc : (rowIs r ((gW l).drop 1) 17 && factIn m.know i 17 28) with
 | false => rw [hc] at hy; cases hy
 | true =>
  rw [hc] at hy
  rw [Bool.and_eq_true] at hc
  have hi := factIn_ok hm.know hc.2
  obtain ⟨h0, L, hL⟩ := ghostR3_ok hm.know hgf hl
  obtain ⟨g1, _, g3, g4⟩ := next_at h0 hL hc.1 (i := i) (s := (ev E i - 17).toNat) (by omega) (by omega)
  simp only [cond, List.mem_cons, List.not_mem_nil, or_false] at hy
  unfold FactOk
  rcases hy with rfl | rfl
  ·dsimp only
   rw [f715 hgf, g1]
   exact ⟨Int.le_refl 1, Int.le_refl 1⟩
  ·dsimp only
   rw [f716 hgf]
   exact ⟨g3, g4⟩
theorem th_mode0 {S : FreeInv.Sys} {x : Th} (hv : x.have_ = -1 ∨ (0 ≤ x.have_ ∧ x.have_ ≤ 11)) (hm : x.mode = 0) : ThOk S x :=
 ⟨hv, fun e => by omega, fun e => by omega, fun e => by omega, fun e => by omega, fun e => by omega, fun e => by omega⟩
theorem th_pc0 {S : FreeInv.Sys} {x : Th} (hv : x.have_ = -1 ∨ (0 ≤ x.have_ ∧ x.have_ ≤ 11)) (h1 : x.mode = 1 → x.have_ = -1) (h2 : x.mode = 2 → 0 ≤ x.have_) (hp : x.pc = 0) : ThOk S x :=
 ⟨hv, h1, h2, fun _ e => by omega, fun _ e => by omega, fun _ e => by omega, fun _ e => by omega⟩
theorem th_pc1 {S : FreeInv.Sys} {x : Th} (hv : x.have_ = -1 ∨ (0 ≤ x.have_ ∧ x.have_ ≤ 11)) (h1 : x.mode = 1 → x.have_ = -1) (h2 : x.mode = 2 → 0 ≤ x.have_) (hp : x.pc = 1) (hh : 0 ≤ x.hc ∧ x.hc ≤ S.c ∧ 0 ≤ x.hf ∧ x.hf ≤ 12 ∧ (x.hc = S.c → x.hf = S.f)) (h3 : x.mode = 1 → 1 ≤ x.hf) : ThOk S x :=
 ⟨hv, h1, h2, fun _ _ => hh, fun e _ => h3 e, fun _ e => by omega, fun _ e => by omega⟩
theorem th_pop2 {S : FreeInv.Sys} {x : Th} (hv : x.have_ = -1) (hm : x.mode = 1) (hh : 0 ≤ x.hc ∧ x.hc ≤ S.c ∧ 0 ≤ x.hf ∧ x.hf ≤ 12 ∧ (x.hc = S.c → x.hf = S.f)) (h3 : 1 ≤ x.hf) (h4 : 0 ≤ x.x ∧ x.x ≤ 12 ∧ x.x = S.N (x.hf - 1).toNat) : ThOk S x :=
 ⟨.inl hv, fun _ => hv, fun e => by omega, fun _ _ => hh, fun _ _ => h3, fun _ _ => ⟨h4.1, h4.2.1, fun _ => h4.2.2⟩, fun e _ => by omega⟩
noncomputable def othersB (l : List IE) (T : Nat → List IE) (t : Nat) : Bool := [0, 1, 2].all fun u => Nat.beq u t || allEq (T u) (gT l u)
theorem othersB_ok {l : List IE} {T : Nat → List IE} {t : Nat} (h : othersB l T t = true) : ∀ u, u < 3 → u ≠ t → T u = gT l u := fun u hu hut => by
 have h1 := List.all_eq_true.1 h u (by
  rcases (by omega : u = 0 ∨ u = 1 ∨ u = 2) with rfl | rfl | rfl <;> simp)
 rw [Bool.or_eq_true] at h1
 rcases h1 with h1 | h1
 ·exact absurd (Nat.eq_of_beq_eq_true h1) hut
 ·exact allEq_ok h1
noncomputable def headNow (l n : List IE) : Bool := ieEq (fT n 3) (f1 721 (fT (gW l) 0)) && ieEq (fT n 4) (f1 720 (fT (gW l) 0))
noncomputable def nextNow (l n : List IE) : Bool := match fT n 5 with
 | .app 716 (.arg (.sel r i) .noarg) => ieEq i (mkAdd (fT n 4) (.lit 16)) && rowIs r ((gW l).drop 1) 17
 | _ => false
noncomputable def popN (kn : Know) (l n o : List IE) : Bool := factIn kn (fT n 0) (-1) (-1) && (factIn kn (fT n 2) 0 0 || ((factIn kn (fT n 2) 1 1 && (headNow l n && factIn kn (fT n 4) 1 12)) || (factIn kn (fT n 2) 2 2 && (ieEq (fT o 1) (.lit 1) && (factIn kn (fT o 2) 1 1 && (ieEq (fT n 3) (fT o 3) && (ieEq (fT n 4) (fT o 4) && nextNow l n)))))))
noncomputable def pushN (kn : Know) (l n : List IE) : Bool := factIn kn (fT n 0) 0 11 && (factIn kn (fT n 2) 0 0 || (factIn kn (fT n 2) 1 1 && headNow l n))
noncomputable def ownB (kn : Know) (l n o : List IE) : Bool := sameK kn (fT n 0) (fT o 0) && (ieEq (fT n 1) (.lit 0) || ((ieEq (fT n 1) (.lit 1) && popN kn l n o) || (ieEq (fT n 1) (.lit 2) && pushN kn l n)))
theorem ownB_ok {E : Env} {kn : Know} (hk : KnowOk E kn) (hgf : E.f = G0) {l : List IE} (hlen : l.length = 32) {L : List Nat} (hL : RunOk (rowE E (gi l) (gW l) (gT l)) L) {t : Nat} (ht : t < 3) {n : List IE} (h : ownB kn l n (gT l t) = true) :
  (thL (n.map (ev E))).have_ = (thL ((gT l t).map (ev E))).have_ ∧ ThOk (sysR (rowE E (gi l) (gW l) (gT l))) (thL (n.map (ev E))) := by
 have k : ThOk (sysR (rowE E (gi l) (gW l) (gT l))) (thL ((gT l t).map (ev E))) := hL.inv.ths t ht
 obtain ⟨r1, r2, r3⟩ := hL.head
 obtain ⟨c1, c2, c3, c4⟩ := hL.w_in
 have hw0 : (rowE E (gi l) (gW l) (gT l)).W.getD 0 0 = ev E (fT (gW l) 0) := fT_ev E (gW l) 0
 rw [hw0] at r2 r3
 generalize hS : sysR (rowE E (gi l) (gW l) (gT l)) = S at *
 unfold ownB at h
 rw [Bool.and_eq_true] at h
 obtain ⟨h1, h2⟩ := h
 have h1 := sameK_ok hk h1
 have n0 : (thL (n.map (ev E))).have_ = ev E (fT n 0) := fT_ev E n 0
 have n1 : (thL (n.map (ev E))).mode = ev E (fT n 1) := fT_ev E n 1
 have n2 : (thL (n.map (ev E))).pc = ev E (fT n 2) := fT_ev E n 2
 have n3 : (thL (n.map (ev E))).hc = ev E (fT n 3) := fT_ev E n 3
 have n4 : (thL (n.map (ev E))).hf = ev E (fT n 4) := fT_ev E n 4
 have n5 : (thL (n.map (ev E))).x = ev E (fT n 5) := fT_ev E n 5
 have o0 : (thL ((gT l t).map (ev E))).have_ = ev E (fT (gT l t) 0) := fT_ev E _ 0
 have o1 : (thL ((gT l t).map (ev E))).mode = ev E (fT (gT l t) 1) := fT_ev E _ 1
 have o2 : (thL ((gT l t).map (ev E))).pc = ev E (fT (gT l t) 2) := fT_ev E _ 2
 have o3 : (thL ((gT l t).map (ev E))).hc = ev E (fT (gT l t) 3) := fT_ev E _ 3
 have o4 : (thL ((gT l t).map (ev E))).hf = ev E (fT (gT l t) 4) := fT_ev E _ 4
 have hv := k.hv
 rw [o0, ← h1, ← n0] at hv
 have now : headNow l n = true → 0 ≤ (thL (n.map (ev E))).hc ∧ (thL (n.map (ev E))).hc ≤ S.c ∧ 0 ≤ (thL (n.map (ev E))).hf ∧ (thL (n.map (ev E))).hf ≤ 12 ∧ ((thL (n.map (ev E))).hc = S.c → (thL (n.map (ev E))).hf = S.f) := fun hn => by
  unfold headNow at hn
  rw [Bool.and_eq_true] at hn
  have e1 := ieEq_ok hn.1
  have e2 := ieEq_ok hn.2
  rw [n3, n4, e1, e2, f721 hgf, f720 hgf, r2, r3]
  exact ⟨c1, Int.le_refl _, c3, c4, fun _ => rfl⟩
 refine ⟨by rw [n0, o0, h1], ?_⟩
 rw [Bool.or_eq_true, Bool.or_eq_true] at h2
 rcases h2 with h2 | h2 | h2
 ·have e := ieEq_ok h2
  exact th_mode0 hv (by rw [n1, e]; rfl)
 ·rw [Bool.and_eq_true] at h2
  have e := ieEq_ok h2.1
  have hm : (thL (n.map (ev E))).mode = 1 := by rw [n1, e]; rfl
  have h3 := h2.2
  unfold popN at h3
  rw [Bool.and_eq_true] at h3
  have hh := factIn_ok hk h3.1
  have hh1 : (thL (n.map (ev E))).have_ = -1 := by rw [n0]; omega
  have h4 := h3.2
  rw [Bool.or_eq_true, Bool.or_eq_true] at h4
  rcases h4 with h4 | h4 | h4
  ·have := factIn_ok hk h4
   exact th_pc0 hv (fun _ => hh1) (fun e => by omega) (by rw [n2]; omega)
  ·simp only [Bool.and_eq_true] at h4
   obtain ⟨g1, g2, g3⟩ := h4
   have g1 := factIn_ok hk g1
   have g3 := factIn_ok hk g3
   exact th_pc1 hv (fun _ => hh1) (fun e => by omega) (by rw [n2]; omega) (now g2) (fun _ => by rw [n4]; omega)
  ·simp only [Bool.and_eq_true] at h4
   obtain ⟨g1, g2, g3, g4, g5, g6⟩ := h4
   have g2 := ieEq_ok g2
   have g3 := factIn_ok hk g3
   have g4 := ieEq_ok g4
   have g5 := ieEq_ok g5
   have om : (thL ((gT l t).map (ev E))).mode = 1 := by rw [o1, g2]; rfl
   have hd := k.head (.inl om) (by rw [o2]; omega)
   have hs := k.some1 om (by rw [o2]; omega)
   rw [o3, o4, ← g4, ← g5, ← n3, ← n4] at hd
   rw [o4, ← g5, ← n4] at hs
   refine th_pop2 hh1 hm hd hs ?_
   unfold nextNow at g6
   split at g6
   ·rename_i r i hx
    rw [Bool.and_eq_true] at g6
    have g7 := ieEq_ok g6.1
    have hi : ev E i = 17 + (((thL (n.map (ev E))).hf - 1).toNat : Int) := by
     rw [g7, mkAdd_ok, ev_lit, ← n4]
     omega
    obtain ⟨_, q2, q3, q4⟩ := next_at hlen hL g6.2 (s := ((thL (n.map (ev E))).hf - 1).toNat) (by omega) hi
    rw [hS] at q2
    rw [n5, hx]
    have hx' : ev E (.app 716 (.arg (.sel r i) .noarg)) = numOf (ev E (.sel r i)) := f716 hgf (.sel r i)
    rw [hx']
    exact ⟨q3, q4, q2⟩
   ·cases g6
 ·rw [Bool.and_eq_true] at h2
  have e := ieEq_ok h2.1
  have hm : (thL (n.map (ev E))).mode = 2 := by rw [n1, e]; rfl
  have h3 := h2.2
  unfold pushN at h3
  rw [Bool.and_eq_true] at h3
  have hh := factIn_ok hk h3.1
  rw [← n0] at hh
  have h4 := h3.2
  rw [Bool.or_eq_true] at h4
  rcases h4 with h4 | h4
  ·have := factIn_ok hk h4
   exact th_pc0 hv (fun e => by omega) (fun _ => hh.1) (by rw [n2]; omega)
  ·rw [Bool.and_eq_true] at h4
   have g1 := factIn_ok hk h4.1
   exact th_pc1 hv (fun e => by omega) (fun _ => hh.1) (by rw [n2]; omega) (now h4.2) (fun e => by omega)
noncomputable def wordE (c f : IE) : IE := .mul (.add (.mul c (.lit 16)) f) (.lit 4)
theorem wordE_ev (E : Env) (c f : IE) : ev E (wordE c f) = 4 * (16 * ev E c + ev E f) := by
 unfold wordE
 rw [ev_mul, ev_add, ev_mul, ev_lit, ev_lit]
 omega
noncomputable def nextE (c : IE) : IE := mkAdd c (.lit 1)
noncomputable def aside (kn : Know) (a b : IE) : Bool := ieEq a b || (match a with
 | .ite false i (.lit z) _ y => ieEq y b && nay kn (.eq i (.lit z))
 | _ => false)
theorem aside_ok {E : Env} {kn : Know} (hk : KnowOk E kn) {a b : IE} (h : aside kn a b = true) : ev E a = ev E b := by
 unfold aside at h
 rw [Bool.or_eq_true] at h
 rcases h with h | h
 ·rw [ieEq_ok h]
 ·split at h
  ·rename_i i z x y
   rw [Bool.and_eq_true] at h
   have h1 := ieEq_ok h.1
   have h2 : decide (ev E i = z) = false := nay_ok hk h.2
   have h2 := of_decide_eq_false h2
   rw [ev_ite, ev_lit, h1, if_neg]
   simp [h2]
  ·cases h
noncomputable def popB (kn : Know) (l A n o : List IE) : Bool := ieEq (fT o 1) (.lit 1) && (factIn kn (fT o 2) 2 2 && (yes kn (.eq (fT (gW l) 0) (wordE (fT o 3) (fT o 4))) && (sameK kn (fT n 0) (mkAdd (fT o 4) (.lit (-1))) && (ieEq (fT n 1) (.lit 0) && (sameK kn (fT A 0) (wordE (nextE (fT o 3)) (fT o 5)) && allEq (A.drop 1) ((gW l).drop 1))))))
noncomputable def pushB (kn : Know) (l A n o : List IE) : Bool := ieEq (fT o 1) (.lit 2) && (factIn kn (fT o 2) 2 2 && (yes kn (.eq (fT (gW l) 0) (wordE (fT o 3) (fT o 4))) && (factIn kn (fT n 0) (-1) (-1) && (ieEq (fT n 1) (.lit 0) && (sameK kn (fT A 0) (wordE (nextE (fT o 3)) (mkAdd (fT o 0) (.lit 1))) && allEq (A.drop 1) ((gW l).drop 1))))))
noncomputable def storeB (kn : Know) (l A n o : List IE) : Bool := ieEq (fT o 1) (.lit 2) && (factIn kn (fT o 2) 1 1 && (aside kn (fT A 0) (fT (gW l) 0) && (wroteS kn (fT o 0) (.mul (fT o 4) (.lit 4)) (A.drop 1) ((gW l).drop 1) 17 && (ieEq (fT n 0) (fT o 0) && (ieEq (fT n 1) (.lit 2) && (factIn kn (fT n 2) 2 2 && (ieEq (fT n 3) (fT o 3) && (ieEq (fT n 4) (fT o 4) && ieEq (fT n 5) (fT o 5)))))))))
noncomputable def stepT (kn : Know) (l A : List IE) (T : Nat → List IE) (t : Nat) : Bool := othersB l T t && ((allEq A (gW l) && ownB kn l (T t) (gT l t)) || (popB kn l A (T t) (gT l t) || (storeB kn l A (T t) (gT l t) || pushB kn l A (T t) (gT l t))))
noncomputable def stepR (kn : Know) (l : List IE) (i : IE) (A : List IE) (T : Nat → List IE) : Bool := Nat.beq A.length 13 && (sameK kn i (mkAdd (gi l) (.lit 1)) && (factIn kn i lo64 1000 && (stepT kn l A T 0 || (stepT kn l A T 1 || stepT kn l A T 2))))
theorem drop_same {E : Env} {A B : List IE} (h : allEq (A.drop 1) (B.drop 1) = true) : ∀ j, 1 ≤ j → (A.map (ev E)).getD j 0 = (B.map (ev E)).getD j 0 := fun j hj => by
 obtain ⟨i, rfl⟩ : ∃ i, j = 1 + i := ⟨j - 1, by omega⟩
 have c2 := allEq_ok h
 have : ((A.drop 1).map (ev E)).getD i 0 = ((B.drop 1).map (ev E)).getD i 0 := by rw [c2]
 rw [List.map_drop, List.map_drop, List.getD_eq_getElem?_getD, List.getD_eq_getElem?_getD, List.getElem?_drop, List.getElem?_drop] at this
 rw [List.getD_eq_getElem?_getD, List.getD_eq_getElem?_getD]
 exact this
theorem stepT_ok {E : Env} {kn : Know} (hk : KnowOk E kn) (hgf : E.f = G0) {l : List IE} (hlen : l.length = 32) {L : List Nat} (hL : RunOk (rowE E (gi l) (gW l) (gT l)) L) {i : IE} {A : List IE} {T : Nat → List IE} (hA : A.length = 13) (hi : ev E i = ev E (gi l) + 1) (hle : ev E i ≤ 1000) {t : Nat} (ht : t < 3) (h : stepT kn l A T t = true) : ∃ L', RunOk (rowE E i A T) L' := by
 unfold stepT at h
 rw [Bool.and_eq_true] at h
 have ho := othersB_ok h.1
 have ho' : ∀ u, u < 3 → u ≠ t → (rowE E i A T).T u = (rowE E (gi l) (gW l) (gT l)).T u := fun u hu hut => by
  show (T u).map (ev E) = (gT l u).map (ev E)
  rw [ho u hu hut]
 have hl13 : (rowE E i A T).W.length = 13 := by
  show (A.map (ev E)).length = 13
  rw [List.length_map, hA]
 obtain ⟨c1, c2, c3, c4⟩ := hL.w_in
 have cle := hL.le
 have k : ThOk (sysR (rowE E (gi l) (gW l) (gT l))) (thL ((gT l t).map (ev E))) := hL.inv.ths t ht
 have o1 : (thL ((gT l t).map (ev E))).mode = ev E (fT (gT l t) 1) := fT_ev E _ 1
 have o2 : (thL ((gT l t).map (ev E))).pc = ev E (fT (gT l t) 2) := fT_ev E _ 2
 have o0 : (thL ((gT l t).map (ev E))).have_ = ev E (fT (gT l t) 0) := fT_ev E _ 0
 have o3 : (thL ((gT l t).map (ev E))).hc = ev E (fT (gT l t) 3) := fT_ev E _ 3
 have o4 : (thL ((gT l t).map (ev E))).hf = ev E (fT (gT l t) 4) := fT_ev E _ 4
 have o5 : (thL ((gT l t).map (ev E))).x = ev E (fT (gT l t) 5) := fT_ev E _ 5
 have n0 : (thL ((T t).map (ev E))).have_ = ev E (fT (T t) 0) := fT_ev E _ 0
 have n1 : (thL ((T t).map (ev E))).mode = ev E (fT (T t) 1) := fT_ev E _ 1
 have w0 : (rowE E (gi l) (gW l) (gT l)).W.getD 0 0 = ev E (fT (gW l) 0) := fT_ev E (gW l) 0
 have a0 : (rowE E i A T).W.getD 0 0 = ev E (fT A 0) := fT_ev E A 0
 have turn : ∀ c : IE, ev E (nextE c) = ev E c + 1 := fun c => by
  unfold nextE
  rw [mkAdd_ok, ev_lit]
 have h2 := h.2
 rw [Bool.or_eq_true, Bool.or_eq_true, Bool.or_eq_true] at h2
 rcases h2 with h2 | h2 | h2 | h2
 ·rw [Bool.and_eq_true] at h2
  have e := allEq_ok h2.1
  obtain ⟨g1, g2⟩ := ownB_ok hk hgf hlen hL ht h2.2
  exact ⟨L, hL.own ht (R' := rowE E i A T) hi hle (by show A.map (ev E) = (gW l).map (ev E); rw [e]) ho' g1 g2⟩
 ·unfold popB at h2
  simp only [Bool.and_eq_true] at h2
  obtain ⟨g1, g2, g3, g4, g5, g6, g7⟩ := h2
  have g1 := ieEq_ok g1
  have g2 := factIn_ok hk g2
  have g3 : decide (ev E (fT (gW l) 0) = ev E (wordE (fT (gT l t) 3) (fT (gT l t) 4))) = true := yes_ok hk g3
  have g3 := of_decide_eq_true g3
  have g4 := sameK_ok hk g4
  have g5 := ieEq_ok g5
  have g6 := sameK_ok hk g6
  rw [wordE_ev] at g3 g6
  rw [mkAdd_ok, ev_lit] at g4
  have om : (thL ((gT l t).map (ev E))).mode = 1 := by rw [o1, g1]; rfl
  have hd := k.head (.inl om) (by rw [o2]; omega)
  refine hL.popped ht (R' := rowE E i A T) om (by show (thL ((gT l t).map (ev E))).pc = 2; rw [o2]; omega) ?_ hi hle ?_ hl13 (drop_same g7) ho' ?_ ?_
  ·rw [w0, g3]
   show _ = 4 * (16 * (thL ((gT l t).map (ev E))).hc + (thL ((gT l t).map (ev E))).hf)
   rw [o3, o4]
  ·rw [a0, g6]
   show _ = 4 * (16 * ((thL ((gT l t).map (ev E))).hc + 1) + (thL ((gT l t).map (ev E))).x)
   rw [o3, o5, turn]
  ·show (thL ((T t).map (ev E))).have_ = (thL ((gT l t).map (ev E))).hf - 1
   rw [n0, o4, g4]
   omega
  ·show (thL ((T t).map (ev E))).mode = 0
   rw [n1, g5]
   rfl
 ·unfold storeB at h2
  simp only [Bool.and_eq_true] at h2
  obtain ⟨g1, g2, g3, g4, g5, g6, g7, g8, g9, g10⟩ := h2
  have g1 := ieEq_ok g1
  have g2 := factIn_ok hk g2
  have g3 := aside_ok hk g3
  have g5 := ieEq_ok g5
  have g6 := ieEq_ok g6
  have g7 := factIn_ok hk g7
  have g8 := ieEq_ok g8
  have g9 := ieEq_ok g9
  have g10 := ieEq_ok g10
  obtain ⟨w1, w2⟩ := wroteS_ok hk g4
  have om : (thL ((gT l t).map (ev E))).mode = 2 := by rw [o1, g1]; rfl
  have hv0 := k.push om
  have hv := k.hv
  refine ⟨L, hL.stored ht (R' := rowE E i A T) om (by show (thL ((gT l t).map (ev E))).pc = 1; rw [o2]; omega) hi hle hl13 (by rw [a0, w0, g3]) (fun s hs => ?_) ho' ?_⟩
  ·have := w2 s (by rw [List.length_drop, hA]; exact hs)
   rw [List.map_drop, List.map_drop, List.getD_eq_getElem?_getD, List.getElem?_drop, ← List.getD_eq_getElem?_getD, List.getD_eq_getElem?_getD (l := (List.drop 1 _)), List.getElem?_drop, ← List.getD_eq_getElem?_getD] at this
   show (A.map (ev E)).getD (s + 1) 0 = if s = (thL ((gT l t).map (ev E))).have_.toNat then 4 * (thL ((gT l t).map (ev E))).hf else ((gW l).map (ev E)).getD (s + 1) 0
   rw [show s + 1 = 1 + s by omega, this, o4, ev_mul, ev_lit]
   by_cases hh : ev E (fT (gT l t) 0) + 17 = ((17 + s : Nat) : Int)
   ·rw [if_pos hh, if_pos (by rw [o0]; omega)]
    omega
   ·rw [if_neg hh, if_neg (by rw [o0] at hv0 ⊢; omega)]
  ·show thL ((T t).map (ev E)) = { thL ((gT l t).map (ev E)) with pc := 2 }
   unfold thL
   congr 1
   ·show _ = (thL ((gT l t).map (ev E))).have_
    rw [fT_ev, o0, g5]
   ·show _ = (thL ((gT l t).map (ev E))).mode
    rw [fT_ev, o1, g6, g1]
   ·rw [fT_ev]; omega
   ·show _ = (thL ((gT l t).map (ev E))).hc
    rw [fT_ev, o3, g8]
   ·show _ = (thL ((gT l t).map (ev E))).hf
    rw [fT_ev, o4, g9]
   ·show _ = (thL ((gT l t).map (ev E))).x
    rw [fT_ev, o5, g10]
 ·unfold pushB at h2
  simp only [Bool.and_eq_true] at h2
  obtain ⟨g1, g2, g3, g4, g5, g6, g7⟩ := h2
  have g1 := ieEq_ok g1
  have g2 := factIn_ok hk g2
  have g3 : decide (ev E (fT (gW l) 0) = ev E (wordE (fT (gT l t) 3) (fT (gT l t) 4))) = true := yes_ok hk g3
  have g3 := of_decide_eq_true g3
  have g4 := factIn_ok hk g4
  have g5 := ieEq_ok g5
  have g6 := sameK_ok hk g6
  rw [wordE_ev] at g3 g6
  rw [mkAdd_ok, ev_lit] at g6
  have om : (thL ((gT l t).map (ev E))).mode = 2 := by rw [o1, g1]; rfl
  have hd := k.head (.inr om) (by rw [o2]; omega)
  refine hL.pushed ht (R' := rowE E i A T) om (by show (thL ((gT l t).map (ev E))).pc = 2; rw [o2]; omega) ?_ hi hle ?_ hl13 (drop_same g7) ho' ?_ ?_
  ·rw [w0, g3]
   show _ = 4 * (16 * (thL ((gT l t).map (ev E))).hc + (thL ((gT l t).map (ev E))).hf)
   rw [o3, o4]
  ·rw [a0, g6]
   show _ = 4 * (16 * ((thL ((gT l t).map (ev E))).hc + 1) + ((thL ((gT l t).map (ev E))).have_ + 1))
   rw [o3, o0, turn]
  ·show (thL ((T t).map (ev E))).have_ = -1
   rw [n0]
   omega
  ·show (thL ((T t).map (ev E))).mode = 0
   rw [n1, g5]
   rfl
theorem stepR_ok {E : Env} {kn : Know} (hk : KnowOk E kn) (hgf : E.f = G0) {l : List IE} (hlen : l.length = 32) {L : List Nat} (hL : RunOk (rowE E (gi l) (gW l) (gT l)) L) {i : IE} {A : List IE} {T : Nat → List IE} (h : stepR kn l i A T = true) : A.length = 13 ∧ ∃ L', RunOk (rowE E i A T) L' := by
 unfold stepR at h
 rw [Bool.and_eq_true, Bool.and_eq_true, Bool.and_eq_true, Bool.or_eq_true, Bool.or_eq_true] at h
 obtain ⟨h1, h2, h3, h4⟩ := h
 have h1 := Nat.eq_of_beq_eq_true h1
 have h2 := sameK_ok hk h2
 rw [mkAdd_ok, ev_lit] at h2
 have h3 := factIn_ok hk h3
 refine ⟨h1, ?_⟩
 rcases h4 with h4 | h4 | h4
 ·exact stepT_ok hk hgf hlen hL h1 h2 h3.2 (by decide) h4
 ·exact stepT_ok hk hgf hlen hL h1 h2 h3.2 (by decide) h4
 ·exact stepT_ok hk hgf hlen hL h1 h2 h3.2 (by decide) h4
noncomputable def objT (m : Mem) (h : IE) (p u : SV) : Option (List IE) := match p, u with
 | .nilp, .nilp => some [h, .lit 0, .lit 0, .lit 0, .lit 0, .lit 0]
 | .ptr s k _, .nilp => (match m.find s k with
  | some e => (match e.c with
   | .cons (.int _ a) (.cons (.int _ c) (.cons (.int _ f) (.cons (.int _ x) _))) => some [h, .lit 1, a, c, f, x]
   | _ => none)
  | none => none)
 | .nilp, .ptr s k _ => (match m.find s k with
  | some e => (match e.c with
   | .cons (.int _ a) (.cons (.int _ c) (.cons (.int _ f) _)) => some [h, .lit 2, a, c, f, .lit 0]
   | _ => none)
  | none => none)
 | _, _ => none
noncomputable def cellOf (m : Mem) (s t : Nat) : SV := match m.find s 0 with
 | some e => (match nthC t e.c with
  | some v => v
  | none => .undef)
 | none => .undef
noncomputable def thrT (m : Mem) (t : Nat) : List IE := match cellOf m 115 t with
 | .int _ h => (match objT m h (cellOf m 113 t) (cellOf m 114 t) with
  | some l => l
  | none => [])
 | _ => []
noncomputable def havesE (kn : Know) : List IE → Option (List IE)
 | [] => some []
 | h :: r => match havesE kn r with
  | some l => cond (factIn kn h 0 11) (some (h :: l)) (cond (factIn kn h (-1) (-1)) (some l) none)
  | none => none
theorem havesE_ok {E : Env} {kn : Know} (hk : KnowOk E kn) : ∀ {l l' : List IE}, havesE kn l = some l' → l'.map (ev E) = (l.map (ev E)).filter fun z => decide (z ≠ -1)
 | [], l', h => by cases h; rfl
 | h :: r, l', hh => by
  unfold havesE at hh
  split at hh
  case h_2 => cases hh
  rename_i l hl
  have ih := havesE_ok hk hl
  cases h1 : factIn kn h 0 11 with
  | true =>
   rw [h1] at hh
   cases hh
   have := factIn_ok hk h1
   rw [List.map_cons, List.map_cons, List.filter_cons_of_pos (by rw [decide_eq_true_eq]; omega), ih]
  | false =>
   rw [h1] at hh
   dsimp only [cond] at hh
   cases h2 : factIn kn h (-1) (-1) with
   | false => rw [h2] at hh; cases hh
   | true =>
    rw [h2] at hh
    cases hh
    have := factIn_ok hk h2
    rw [List.map_cons, List.filter_cons_of_neg (by rw [decide_eq_true_eq]; omega), ih]
structure NowR where
 i : IE
 A : IE
 T : Nat → List IE
 hs : List IE
noncomputable def NowR.list (r : NowR) : List IE := r.i :: (unarg r.A ++ (r.T 0 ++ (r.T 1 ++ r.T 2)))
noncomputable def NowR.cells (r : NowR) : List IE := appsE r.A (12 - r.hs.length)
noncomputable def nowR (args : List SV) (m : Mem) : Option NowR := match argR args m with
 | some A => (match ghostR3 m with
  | some l => (match havesE m.know [fT (thrT m 0) 0, fT (thrT m 1) 0, fT (thrT m 2) 0] with
   | some hs => cond (Nat.beq (thrT m 0).length 6 && (Nat.beq (thrT m 1).length 6 && (Nat.beq (thrT m 2).length 6 && stepR m.know l (mkAdd (gi l) (.lit 1)) (unarg A) (thrT m)))) (some ⟨mkAdd (gi l) (.lit 1), A, thrT m, hs⟩) none
   | none => none)
  | none => none)
 | none => none
theorem nowR_ok {F : Nat → Prop} {w0 : World} {E : Env} {args : List SV} {m : Mem} {w : World} {r : NowR} (hgf : E.f = G0) (hm : MemOk F w0 E m w) (h : nowR args m = some r) :
  ∃ L : List Nat, FactOk E (.app 750 (argsE r.list), 1, 1) ∧ FactOk E (.app 751 (argsE (r.cells ++ r.hs)), 1, 1) ∧ r.cells.map (ev E) = L.map (fun (s : Nat) => (s : Int)) ∧ (∀ s ∈ L, s < 12) ∧ L.length = 12 - r.hs.length ∧ r.hs.length ≤ 3 ∧
   Calls Try.prog 19 (args.map (dv E)).toArray w fun e w' => Ext (fun _ => False) w w' ∧ RowRes w (some (L.map fun (s : Nat) => (s : Int))) e w' := by
 unfold nowR at h
 split at h
 case h_2 => cases h
 rename_i A hA
 split at h
 case h_2 => cases h
 rename_i l hg
 split at h
 case h_2 => cases h
 rename_i hs hhs
 cases hc : (Nat.beq (thrT m 0).length 6 && (Nat.beq (thrT m 1).length 6 && (Nat.beq (thrT m 2).length 6 && stepR m.know l (mkAdd (gi l) (.lit 1)) (unarg A) (thrT m)))) with
 | false => rw [hc] at h; cases h
 | true =>
 rw [hc] at h
 cases h
 simp only [Bool.and_eq_true] at hc
 obtain ⟨d0, d1, d2, d3⟩ := hc
 have d0 := Nat.eq_of_beq_eq_true d0
 have d1 := Nat.eq_of_beq_eq_true d1
 have d2 := Nat.eq_of_beq_eq_true d2
 obtain ⟨hl32, L0, hL0⟩ := ghostR3_ok hm.know hgf hg
 obtain ⟨hA13, L, hL⟩ := stepR_ok hm.know hgf hl32 hL0 d3
 have hrow := hL.row
 have hrow : rowZ ((unarg A).map (ev E)) = some (L.map fun (s : Nat) => (s : Int)) := hrow
 have hh := havesE_ok hm.know hhs
 have t0 : ∀ t, (thL ((thrT m t).map (ev E))).have_ = ev E (fT (thrT m t) 0) := fun t => fT_ev E _ 0
 have hhv : haves (sysR (rowE E (mkAdd (gi l) (.lit 1)) (unarg A) (thrT m))) = hs.map (ev E) := by
  rw [hh]
  show ([(thL ((thrT m 0).map (ev E))).have_, (thL ((thrT m 1).map (ev E))).have_, (thL ((thrT m 2).map (ev E))).have_].filter _) = _
  rw [t0, t0, t0]
  rfl
 obtain ⟨o1, o2, o3⟩ := hL.inv.once
 rw [hhv] at o1 o2 o3
 have hle3 : hs.length ≤ 3 := by
  have := congrArg List.length hh
  rw [List.length_map] at this
  rw [this]
  exact List.length_filter_le _ _
 have hlen : L.length = 12 - hs.length := by
  rw [List.length_append, List.length_map, List.length_map] at o2
  omega
 have hcells : (appsE A (12 - hs.length)).map (ev E) = L.map fun (s : Nat) => (s : Int) := by
  refine List.ext_getElem? fun j => ?_
  unfold appsE
  rw [List.getElem?_map, List.getElem?_map, List.getElem?_map]
  by_cases hj : j < 12 - hs.length
  ·rw [List.getElem?_range hj, List.getElem?_eq_getElem (by omega : j < L.length)]
   show some (ev E (.app (701 + j) A)) = some _
   rw [f701 hgf A (by omega) (l := L.map fun (s : Nat) => (s : Int)) (by rw [unarg_ev]; exact hrow), List.getD_eq_getElem?_getD, List.getElem?_map, List.getElem?_eq_getElem (by omega : j < L.length)]
   rfl
  ·rw [List.getElem?_eq_none (by simpa using hj), List.getElem?_eq_none (by omega)]
   rfl
 have one : ∀ {f : Nat} {xs : List IE}, G0 f (xs.map (ev E)) = 1 → FactOk E (.app f (argsE xs), 1, 1) := fun h => by
  unfold FactOk
  dsimp only
  rw [ev_app, argsE_ev, hgf, h]
  omega
 refine ⟨L, one (f750_of ?_), one (f751_of ?_), hcells, hL.inv.lt, hlen, hle3, ?_⟩
 ·have hlist : NowR.list ⟨mkAdd (gi l) (.lit 1), A, thrT m, hs⟩ = mkAdd (gi l) (.lit 1) :: (unarg A ++ (thrT m 0 ++ (thrT m 1 ++ thrT m 2))) := rfl
  have len32 : (NowR.list ⟨mkAdd (gi l) (.lit 1), A, thrT m, hs⟩).length = 32 := by
   rw [hlist]
   simp only [List.length_cons, List.length_append, hA13, d0, d1, d2]
  refine ⟨by rw [List.length_map]; exact len32, L, ?_⟩
  rw [rowOf_ev]
  refine RunOk.congr (R := rowE E (mkAdd (gi l) (.lit 1)) (unarg A) (thrT m)) (R' := rowE E (gi (NowR.list ⟨mkAdd (gi l) (.lit 1), A, thrT m, hs⟩)) (gW (NowR.list ⟨mkAdd (gi l) (.lit 1), A, thrT m, hs⟩)) (gT (NowR.list ⟨mkAdd (gi l) (.lit 1), A, thrT m, hs⟩))) rfl ?_ ?_ hL
  ·show (gW (NowR.list ⟨mkAdd (gi l) (.lit 1), A, thrT m, hs⟩)).map (ev E) = (unarg A).map (ev E)
   congr 1
   unfold gW
   rw [hlist, List.drop_succ_cons, List.drop_zero, List.take_append_of_le_length (by omega), List.take_of_length_le (by omega)]
  ·intro t ht
   show (gT (NowR.list ⟨mkAdd (gi l) (.lit 1), A, thrT m, hs⟩) t).map (ev E) = (thrT m t).map (ev E)
   congr 1
   have dd : ∀ k, (NowR.list ⟨mkAdd (gi l) (.lit 1), A, thrT m, hs⟩).drop (14 + k) = (thrT m 0 ++ (thrT m 1 ++ thrT m 2)).drop k := fun k => by
    rw [hlist, show 14 + k = (13 + k) + 1 by omega, List.drop_succ_cons, List.drop_append, List.drop_eq_nil_of_le (by omega), List.nil_append]
    congr 1
    omega
   unfold gT
   rw [dd]
   rcases (by omega : t = 0 ∨ t = 1 ∨ t = 2) with rfl | rfl | rfl
   ·rw [Nat.mul_zero, List.drop_zero, List.take_append_of_le_length (by omega), List.take_of_length_le (by omega)]
   ·rw [Nat.mul_one, List.drop_append_of_le_length (by omega), List.drop_eq_nil_of_le (by omega), List.nil_append, List.take_append_of_le_length (by omega), List.take_of_length_le (by omega)]
   ·rw [show 6 * 2 = 12 from rfl, List.drop_append, List.drop_eq_nil_of_le (by omega), List.nil_append, List.drop_append, List.drop_eq_nil_of_le (by omega), List.nil_append, d0, d1, show 12 - 6 - 6 = 0 from rfl, List.drop_zero, List.take_of_length_le (by omega)]
 ·show Once ((appsE A (12 - hs.length) ++ hs).map (ev E))
  rw [List.map_append, hcells]
  exact ⟨o1, o2, o3⟩
 ·have call := argR_ok sem19 hm hA
  rw [unarg_ev, hrow] at call
  exact call
noncomputable def factsR3 (args : List SV) (m : Mem) : List Fact := match nowR args m with
 | some r => (.app 750 (argsE r.list), 1, 1) :: (.app 751 (argsE (r.cells ++ r.hs)), 1, 1) :: r.cells.map fun e => (e, 0, 11)
 | none => []
noncomputable def formR3 (args : List SV) (m : Mem) : Option (List IE × Int) := match nowR args m with
 | some r => some (r.cells, .ofNat (12 - r.hs.length))
 | none => none
noncomputable def rowR : List SV → X SV := factX factsR3 (blkCX 3 valR formR3)
theorem rowR_ok : SpecOk G0 Try.prog 19 rowR := factX_ok (fun F w0 E args m outs w hgf ho hm => blkCX_ok (vals := fun v => .tuple #[v, .int .i64 0]) (fun _ _ _ _ _ _ => rfl) ho hm fun es z hf => by
 unfold formR3 at hf
 split at hf
 case h_2 => cases hf
 rename_i r hr
 cases hf
 obtain ⟨L, _, _, h3, _, h5, h6, call⟩ := nowR_ok hgf hm hr
 have hclen : r.cells.length = L.length := by
  have := congrArg List.length h3
  rw [List.length_map, List.length_map] at this
  exact this
 refine call.mono ?_
 rintro e w' ⟨g1, g2⟩
 cases L with
 | nil => rw [List.length_nil] at h5; omega
 | cons s L =>
  obtain ⟨bl, cap, b1, b2, b3, b4, b5, b6⟩ := g2
  rw [List.length_map] at b3 b6
  have hval : r.cells.map (fun e => Value.int .i64 (ev E e)) = ((s :: L).map fun (s : Nat) => (s : Int)).map (Value.int .i64) := by
   rw [← h3, List.map_map]
   rfl
  refine ⟨g1, bl, cap, b1, b2, by rw [hclen]; exact b3, b4, ?_, by rw [hclen]; exact b6⟩
  rw [b5, hval, hclen]
  show some (Obj.cells (_ ++ List.replicate (cap - ((L.map fun (s : Nat) => (s : Int)).length + 1)) _).toArray 3 (0, 0)) = _
  rw [List.length_map]
  rfl) (fun F w0 E args m w hgf hm y hy => by
 unfold factsR3 at hy
 split at hy
 ·rename_i r hr
  obtain ⟨L, h1, h2, h3, h4, _⟩ := nowR_ok hgf hm hr
  rcases List.mem_cons.1 hy with rfl | hy
  ·exact h1
  rcases List.mem_cons.1 hy with rfl | hy
  ·exact h2
  obtain ⟨e, he, rfl⟩ := List.mem_map.1 hy
  have : ev E e ∈ r.cells.map (ev E) := List.mem_map.2 ⟨e, he, rfl⟩
  rw [h3] at this
  obtain ⟨s, hs, hse⟩ := List.mem_map.1 this
  have := h4 s hs
  unfold FactOk
  dsimp only
  rw [← hse]
  omega
 ·cases hy)
end Go.Proofs.Ytalkfdkcimfmpaa
