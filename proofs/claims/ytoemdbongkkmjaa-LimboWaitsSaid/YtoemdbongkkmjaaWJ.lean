/- LimboWaits: its loop's heads, cases. -/
import Derived.Test.YtoemdbongkkmjaaB
import Derived.Test.YtoemdbongkkmjaaWI
namespace Go.Proofs.Ytoemdbongkkmjaa
open Go.Sx Go Go.LimboWait
set_option maxRecDepth 100000
noncomputable def cxB : CX := callF (tabJ []) (spOf spB) (bxOf [(11, 1, mTake)]) 400 12
theorem cxB_ok {G : Gf} : CallsOk G Try.prog cxB := by
 unfold cxB
 rw [callF_eq]
 exact callD_ok (spOf_ok okSpB) (bxOf_ok mTakes) 400 12
noncomputable def iJ : IE := .var 160
noncomputable def tJ : IE := .var 165
noncomputable def sJ (a : Nat) : IE := .var (200 + 2 * a)
noncomputable def eJ (a : Nat) : IE := .var (201 + 2 * a)
noncomputable def cellsJ (n : Nat) : SV := (List.range n).foldr (fun a r => .cons (.int .i64 (sJ a)) (.cons (.int .i64 (eJ a)) r)) (.cons (.arr .i64 0 (.mul (.add (.var 161) (.lit (-(n : Int)))) (.lit 2)) .nil) .nil)
noncomputable def rsJ (n : Nat) : SV := cond (Nat.beq n 0) .nils (.sli 102 0 (.lit 0) (.lit n) (.var 161))
noncomputable def entJ (n : Nat) : List Ent := cond (Nat.beq n 0) [] [⟨102, 0, false, 44, .lit 0, cellsJ n⟩]
noncomputable def capJ (n : Nat) : List Fact := cond (Nat.beq n 0) [] [(.var 161, n, hi64), (.sub (.var 161) (.lit n), 0, hi64)]
noncomputable def selJ (j : Nat) : IE := .sel 105 (.lit j)
noncomputable def headWt (n : Nat) : HeadP := {
 tm := slotsN 144 [(0, slW 10), (2, .bool (.lit false)), (3, rsJ n), (4, .ptr 103 0 (.lit 0)), (6, .int .i64 tJ), (7, .int .i64 iJ)]
 mem := { know := ⟨(iJ, 0, 60) :: (tJ, 0, 60) :: (minus iJ tJ, 0, 60) :: (capJ n ++ faW 10), []⟩, heap := ⟨103, 0, false, 41, .lit 0, .cons (.arr .i64 105 (.lit 12) .nil) .nil⟩ :: (entJ n ++ [enW 10]), seg := 166, next := 0, nv := 240 }
 mu := .sub (.lit 60) iJ }
noncomputable def bodyWt : Code := loopBody 2 (bodyOf Try.f4)
noncomputable def actJ : IE := .sel 14 iJ
noncomputable def sE : IE := .rem (.bit .and .i64 actJ (.lit 1023)) (.lit 12)
noncomputable def bitJ : IE := .bit .and .i64 (.shr actJ 10) (.lit 1)
noncomputable def atE : IE := .add tJ bitJ
noncomputable def sysWt (n : Nat) : List IE := tJ :: ((List.range n).flatMap (fun a => [sJ a, eJ a]) ++ (List.range 12).map selJ)
noncomputable def cellWt (add : Bool) : Nat → Nat → IE
 | 0, j => cond add (.ite false sE (.lit j) atE (selJ j)) (selJ j)
 | k + 1, j => .ite false (sJ k) (.lit j) (.lit (-1)) (cellWt add k j)
noncomputable def nextWt (n : Nat) (add : Bool) (k : Nat) : List IE := atE :: (((List.range (n - k)).flatMap (fun a => [sJ (a + k), eJ (a + k)]) ++ cond add [sE, atE] []) ++ (List.range 12).map (cellWt add k))
noncomputable def eqL : List IE → List IE → Bool
 | [], [] => true
 | a :: l, b :: m => ieEq a b && eqL l m
 | _, _ => false
theorem eqL_ok : ∀ {l m : List IE}, eqL l m = true → l = m
 | [], [], _ => rfl
 | a :: l, b :: m, h => by
  unfold eqL at h
  rw [Bool.and_eq_true] at h
  rw [ieEq_ok h.1, eqL_ok h.2]
 | [], _ :: _, h => by cases h
 | _ :: _, [], h => by cases h
noncomputable def laterWt (n k : Nat) : List Nat := (List.range (n - k)).map (· + k)
noncomputable def chkWt (kn : Know) (n : Nat) (add : Bool) (k : Nat) : Bool := Nat.ble k n && (Nat.ble n 12 && (factIn kn bitJ 0 1 && (factIn kn tJ 0 hi64 && ((laterWt n k).all (fun a => factIn kn (.sub atE (eJ a)) lo64 2) && cond add (factIn kn sE 0 11 && factIn kn (.sel 105 sE) lo64 (-1)) true))))
noncomputable def tryWt (kn : Know) (old new : List IE) (n : Nat) (add : Bool) (k : Nat) : Bool := eqL old (sysWt n) && (eqL new (nextWt n add k) && chkWt kn n add k)
noncomputable def stepWt (kn : Know) (old new : List IE) : Bool := match (old.length - 13) / 2, (new.length - 13) / 2 with
 | n, n' => cond (Nat.ble n' n && tryWt kn old new n false (n - n')) true (tryWt kn old new n true (n + 1 - n'))
section
variable (E : Env)
noncomputable def sV (a : Nat) : Int := E.i (200 + 2 * a)
noncomputable def eV (a : Nat) : Int := E.i (201 + 2 * a)
noncomputable def SV' (j : Nat) : Int := (E.row 105).getD j 0
theorem ev_sys (n : Nat) : (sysWt n).map (ev E) = lay n (E.i 165) (sV E) (eV E) (SV' E) := by
 unfold sysWt lay pairsL
 rw [List.map_cons, List.map_append, List.map_flatMap, List.map_map]
 have e : (ev E ∘ selJ) = SV' E := funext fun j => by
  show ev E (.sel 105 (.lit j)) = _
  rw [ev_sel, ev_lit, Int.toNat_natCast]
  rfl
 rw [e]
 rfl
theorem ev_cell (add : Bool) (j : Nat) : ∀ k, ev E (cellWt add k j) = SW (sV E) (fun j => if add = true ∧ ev E sE = (j : Int) then ev E atE else SV' E j) k j
 | 0 => by
  cases add with
  | true =>
   show ev E (.ite false sE (.lit j) atE (selJ j)) = if true = true ∧ ev E sE = (j : Int) then ev E atE else SV' E j
   have hs : ev E (selJ j) = SV' E j := by
    show ev E (.sel 105 (.lit j)) = _
    rw [ev_sel, ev_lit, Int.toNat_natCast]
    rfl
   rw [ev_ite, ev_lit, hs]
   by_cases h : ev E sE = (j : Int) <;> simp [h]
  | false =>
   show ev E (.sel 105 (.lit j)) = if false = true ∧ ev E sE = (j : Int) then ev E atE else SV' E j
   rw [ev_sel, ev_lit, Int.toNat_natCast]
   simp [SV']
 | k + 1 => by
  have ih := ev_cell add j k
  show ev E (.ite false (sJ k) (.lit j) (.lit (-1)) (cellWt add k j)) = if sV E k = (j : Int) then -1 else _
  have hs : ev E (sJ k) = sV E k := rfl
  rw [ev_ite, ev_lit, ev_lit, hs, ih]
  by_cases h : sV E k = (j : Int) <;> simp [h]
theorem pairsL_congr {n : Nat} {s e s' e' : Nat → Int} (h1 : ∀ a, a < n → s a = s' a) (h2 : ∀ a, a < n → e a = e' a) : pairsL n s e = pairsL n s' e' := by
 induction n with
 | zero => rfl
 | succ n ih => rw [pairsL_succ, pairsL_succ, ih (fun a h => h1 a (by omega)) (fun a h => h2 a (by omega)), h1 n (by omega), h2 n (by omega)]
theorem ev_next (n : Nat) (add : Bool) (k : Nat) : (nextWt n add k).map (ev E) = lay (n - k + cond add 1 0) (ev E atE) (sW n k (ev E sE) (sV E)) (sW n k (ev E atE) (eV E)) (SW (sV E) (fun j => if add = true ∧ ev E sE = (j : Int) then ev E atE else SV' E j) k) := by
 have hp : ((List.range (n - k)).flatMap (fun a => [sJ (a + k), eJ (a + k)])).map (ev E) = pairsL (n - k) (sW n k (ev E sE) (sV E)) (sW n k (ev E atE) (eV E)) := by
  rw [List.map_flatMap]
  exact pairsL_congr (s := fun a => sV E (a + k)) (e := fun a => eV E (a + k)) (fun a ha => (if_pos ha).symm) (fun a ha => (if_pos ha).symm)
 unfold nextWt lay
 rw [List.map_cons, List.map_append, List.map_append, List.map_map, hp]
 congr 2
 ·cases add with
  | false => exact List.append_nil _
  | true =>
   show _ = pairsL (n - k + 1) _ _
   rw [pairsL_succ, show sW n k (ev E sE) (sV E) (n - k) = ev E sE from if_neg (Nat.lt_irrefl _), show sW n k (ev E atE) (eV E) (n - k) = ev E atE from if_neg (Nat.lt_irrefl _)]
   rfl
 ·exact List.map_congr_left fun j _ => ev_cell E add j k
end
theorem try_ok (E : Env) (kn : Know) (old new : List IE) (hk : KnowOk E kn) {n : Nat} {add : Bool} {k : Nat} (h : tryWt kn old new n add k = true) (hs : Waits (old.map (ev E))) : Waits (new.map (ev E)) := by
 unfold tryWt chkWt at h
 simp only [Bool.and_eq_true] at h
 obtain ⟨h1, h2, h3, h4, h5, h6, h7, h8⟩ := h
 have h3 := Nat.le_of_ble_eq_true h3
 have h4 := Nat.le_of_ble_eq_true h4
 have h5 := factIn_ok hk h5
 have h6 := factIn_ok hk h6
 have ht : ev E tJ = E.i 165 := rfl
 rw [ht] at h6
 have hu : ev E atE = E.i 165 + ev E bitJ := rfl
 rw [eqL_ok h1, ev_sys, waits_lay h4] at hs
 have hlater : ∀ a, k ≤ a → a < n → ev E atE - eV E a ≤ 2 := fun a ha hn => by
  have := List.all_eq_true.1 h7 a (List.mem_map.2 ⟨a - k, List.mem_range.2 (by omega), by omega⟩)
  have := factIn_ok hk this
  rw [ev_sub] at this
  exact this.2
 rw [eqL_ok h2, ev_next]
 cases add with
 | false =>
  have := hs.take h3 (by omega) hlater (ev E sE) (ev E atE)
  refine (waits_lay (by show n - k + 0 ≤ 12; omega)).2 ?_
  have e : (fun j : Nat => if false = true ∧ ev E sE = (j : Int) then ev E atE else SV' E j) = SV' E := funext fun j => by simp
  rw [e]
  exact this
 | true =>
  replace h8 : (factIn kn sE 0 11 && factIn kn (.sel 105 sE) lo64 (-1)) = true := h8
  rw [Bool.and_eq_true] at h8
  have h9 := factIn_ok hk h8.1
  have h10 := factIn_ok hk h8.2
  rw [ev_sel] at h10
  have hneg : SV' E (ev E sE).toNat < 0 := by
   show (E.row 105).getD (ev E sE).toNat 0 < 0
   omega
  have hroom := hs.room h4 h9 hneg
  have := hs.add h3 (by omega) (by omega) hlater h9 hneg
  refine (waits_lay (by show n - k + 1 ≤ 12; omega)).2 ?_
  have e : (fun j : Nat => if true = true ∧ ev E sE = (j : Int) then ev E atE else SV' E j) = fun j : Nat => if ev E sE = (j : Int) then ev E atE else SV' E j := funext fun j => by simp
  rw [e]
  exact this
noncomputable def JW (G : Gf) : InvJ G where
 inv := Waits
 step := stepWt
 dead _ _ := false
 init _ new := Nat.beq new.length 13
 step_ok E kn old new _ hk h hs := by
  unfold stepWt at h
  dsimp only at h
  generalize hb : (Nat.ble ((new.length - 13) / 2) ((old.length - 13) / 2) && tryWt kn old new ((old.length - 13) / 2) false ((old.length - 13) / 2 - (new.length - 13) / 2)) = b at h
  cases b with
  | true =>
   rw [Bool.and_eq_true] at hb
   exact try_ok E kn old new hk hb.2 hs
  | false => exact try_ok E kn old new hk h hs
 dead_ok _ _ _ _ _ h := by cases h
 init_ok E kn new _ _ h := by
  have h := Nat.eq_of_beq_eq_true h
  exact ⟨0, Nat.zero_le _, by rw [List.length_map, h], Wt.none _ _ _ _⟩
noncomputable def factWt (k a : Nat) : List Fact := [(sJ a, 0, 11), (eJ a, 0, 60), (.sel 105 (sJ a), 0, 60)] ++ cond (Nat.blt a k) [(.sub atE (eJ a), 3, 61), (.sub atE (.sel 105 (sJ a)), 3, 61)] [(.sub atE (eJ a), 0, 2)]
noncomputable def apartWt (n : Nat) : List BE := (List.range n).flatMap fun b => (List.range b).map fun a => .not (.eq (sJ a) (sJ b))
noncomputable def caseWt (n : Nat) (add : Bool) (k : Nat) : List Fact × List BE := ((iJ, 0, 59) :: (atE, 0, 60) :: (.sel 105 sE, cond add lo64 0, cond add (-1) hi64) :: (List.range n).flatMap (factWt k), cond add ((List.range n).map fun a => .not (.eq sE (sJ a))) [] ++ apartWt n)
noncomputable def headsWt : List HeadJ := (List.range 13).map fun n => ⟨headWt n, sysWt n⟩
noncomputable def leavesWt : List LeaveP := [{ e := .normal, tm := slotsN 144 [], mem := { know := ⟨[], []⟩, heap := [], seg := 166, next := 0, nv := 240 } }]
noncomputable def okWt (n : Nat) (add : Bool) (k : Nat) : Bool := headOkJ (JW (fun _ _ => 0)) (tabJ []) cxB (fun _ => none) none 400 2 bodyWt 100 headsWt leavesWt ((headWt n).moreC (caseWt n add k)) (sysWt n)
noncomputable def lastWt : List Fact × List BE := ([(iJ, 60, 60)], [])
noncomputable def okLast (n : Nat) : Bool := headOkJ (JW (fun _ _ => 0)) (tabJ []) cxB (fun _ => none) none 400 2 bodyWt 100 headsWt leavesWt ((headWt n).moreC lastWt) (sysWt n)
end Go.Proofs.Ytoemdbongkkmjaa
