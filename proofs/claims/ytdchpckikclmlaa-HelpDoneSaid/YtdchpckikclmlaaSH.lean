/- a shelf of one descriptor: its contract. -/
import Derived.Test.YtdchpckikclmlaaAW
namespace Go.Proofs.Ytdchpckikclmlaa
open Go.Sx Go
set_option maxRecDepth 100000
noncomputable def allSome : List (Option IE) → Option (List IE)
 | [] => some []
 | some e :: l => match allSome l with
  | some r => some (e :: r)
  | none => none
 | none :: _ => none
theorem allSome_ok {α : Type} {f : α → Option IE} : ∀ {l : List α} {r : List IE}, allSome (l.map f) = some r → ∃ g : α → IE, r = l.map g ∧ ∀ a ∈ l, f a = some (g a)
 | [], r, h => by cases h; exact ⟨fun _ => .lit 0, rfl, fun _ h => (by cases h)⟩
 | a :: l, r, h => by
  rw [List.map_cons] at h
  cases hf : f a with
  | none => rw [hf] at h; cases h
  | some e =>
   rw [hf] at h
   unfold allSome at h
   split at h
   ·rename_i r' hr
    cases h
    obtain ⟨g, rfl, hg⟩ := allSome_ok hr
    classical
    refine ⟨fun x => match f x with | some e => e | none => .lit 0, ?_, fun x hx => ?_⟩
    ·rw [List.map_cons]
     congr 1
     ·simp only [hf]
     ·refine List.map_congr_left fun x hx => ?_
      simp only [hg x hx]
    ·rcases List.mem_cons.1 hx with rfl | hx
     ·simp only [hf]
     ·simp only [hg x hx]
   ·cases h
noncomputable def numsC (kn : Know) : Nat → SV → Option (List IE)
 | 0, _ => some []
 | n + 1, .cons (.int .i64 e) r => match numsC kn n r with
  | some l => some (e :: l)
  | none => none
 | n + 1, .cons (.arr .i64 q m ws) _ => cond (factIn kn m (n + 1 : Nat) hi64) (allSome ((List.range (n + 1)).map fun (j : Nat) => cellVo q ws j)) none
 | _, _ => none
theorem numsC_ok {E : Env} {kn : Know} (hk : KnowOk E kn) : ∀ (n : Nat) (c : SV) (l : List IE), numsC kn n c = some l → l.length = n ∧ ∀ j, j < n → (dl E c)[j]? = some (.int .i64 ((l.map (ev E)).getD j 0))
 | 0, c, l, h => by
  unfold numsC at h
  cases h
  exact ⟨rfl, fun j hj => absurd hj (Nat.not_lt_zero _)⟩
 | n + 1, c, l, h => by
  unfold numsC at h
  split at h
  ·rename_i heq
   cases heq
  ·rename_i n' e r heq
   cases heq
   split at h
   ·rename_i l' hl
    cases h
    obtain ⟨h1, h2⟩ := numsC_ok hk n r l' hl
    refine ⟨by rw [List.length_cons, h1], fun j hj => ?_⟩
    show ([Value.int .i64 (ev E e)] ++ dl E r)[j]? = _
    cases j with
    | zero => rfl
    | succ j => exact h2 j (by omega)
   ·cases h
  ·rename_i n' q m ws x heq
   cases heq
   cases hf : factIn kn m (n + 1 : Nat) hi64 with
   | false => rw [hf] at h; cases h
   | true =>
    rw [hf] at h
    dsimp only [cond] at h
    have hf := factIn_ok hk hf
    obtain ⟨g, rfl, hg⟩ := allSome_ok h
    refine ⟨by rw [List.length_map, List.length_range], fun j hj => ?_⟩
    show (arrCells E .i64 q (ev E m).toNat ws ++ dl E x)[j]? = _
    rw [List.getElem?_append_left (by rw [arrCells_len]; omega), arrCells_get _ _ _ _ _ _ (by omega)]
    have h1 := cellVo_ok E q ws j _ (hg j (List.mem_range.2 hj))
    rw [List.getD_eq_getElem?_getD, List.map_map, List.getElem?_map, List.getElem?_range hj]
    show _ = some (Value.int .i64 (ev E (g j)))
    rw [← h1]
  ·cases h
noncomputable def atL (l : List IE) (j : Nat) : IE := l.getD j (.lit 0)
theorem atL_ev (E : Env) (l : List IE) (j : Nat) : ev E (atL l j) = (l.map (ev E)).getD j 0 := by
 unfold atL
 rw [List.getD_eq_getElem?_getD, List.getD_eq_getElem?_getD, List.getElem?_map]
 cases l[j]? <;> rfl
def RowN (w : World) (b o : Nat) (N : List Int) : Prop := b < w.heap.size ∧ ∀ j, j < N.length → w.cell? ⟨b, o + j, none⟩ = some (.int .i64 (N.getD j 0))
noncomputable def rowZ (z : Nat) (v : SV) (m : Mem) : Option (List IE × Nat) := match v with
 | .sli s k off (.lit (.ofNat n)) cap => match m.find s k with
  | some en => cond (ieEq off en.base && (factIn m.know off 0 hi64 && (factIn m.know (.sub cap (.lit (.ofNat n))) 0 hi64 && factIn m.know cap 0 hi64)))
   (match numsC m.know (z * n) en.c with
   | some l => some (l, n)
   | none => none) none
  | none => none
 | _ => none
theorem rowZ_ok {z : Nat} {F : Nat → Prop} {w0 w : World} {E : Env} {v : SV} {m : Mem} {l : List IE} {n : Nat} (hm : MemOk F w0 E m w) (h : rowZ z v m = some (l, n)) :
  ∃ b o cap : Nat, dv E v = .slice (some ⟨b, o, none⟩) n cap ∧ (l.map (ev E)).length = z * n ∧ n ≤ cap ∧ (cap : Int) ≤ hi64 ∧ RowN w b o (l.map (ev E)) := by
 unfold rowZ at h
 split at h
 case h_2 => cases h
 rename_i s j off n' cap
 split at h
 case h_2 => cases h
 rename_i en hen
 cases hg : (ieEq off en.base && (factIn m.know off 0 hi64 && (factIn m.know (.sub cap (.lit (.ofNat n'))) 0 hi64 && factIn m.know cap 0 hi64))) with
 | false => rw [hg] at h; cases h
 | true =>
 rw [hg] at h
 dsimp only [cond] at h
 split at h
 case h_2 => cases h
 rename_i l' hl
 cases h
 simp only [Bool.and_eq_true] at hg
 obtain ⟨g1, g2, g6, g7⟩ := hg
 have g1 := ieEq_ok g1
 have g2 := factIn_ok hm.know g2
 have g6 := factIn_ok hm.know g6
 have g7 := factIn_ok hm.know g7
 rw [ev_sub, ev_lit] at g6
 have g6' : (n : Int) ≤ ev E cap := by
  have := g6.1
  show Int.ofNat n ≤ _
  omega
 obtain ⟨n1, n2⟩ := numsC_ok hm.know _ _ _ hl
 obtain ⟨k1, k2, k3⟩ := Mem.find_ok hen
 have ok := hm.ents en k1
 refine ⟨E.base s + j, E.o s + (ev E off).toNat, (ev E cap).toNat, ?_, by rw [List.length_map, n1], by omega, by omega, ?_, fun i hi => ?_⟩
 ·rfl
 ·have := ok.lt
  unfold Ent.blk at this
  rw [k2, k3] at this
  exact this
 ·have := ok.cell i _ (n2 i (by rw [List.length_map, n1] at hi; exact hi))
  rw [← this]
  unfold Ent.blk
  rw [k2, k3, g1, Nat.add_assoc]
noncomputable def valS (k : Nat) (num : Nat → IE) (j : Nat) : IE := cond (Nat.beq j 0) (.lit 16) (cond (Nat.beq j 1) (.lit (4 * k : Nat)) (mkMul (num (j - 2)) (.lit 4)))
def valI (k : Nat) (N : List Int) (j : Nat) : Int := if j = 0 then 16 else if j = 1 then 4 * k else N.getD (j - 2) 0 * 4
theorem valS_ev {E : Env} {k : Nat} {num : Nat → IE} {N : List Int} (h : ∀ j, ev E (num j) = N.getD j 0) (j : Nat) : ev E (valS k num j) = valI k N j := by
 unfold valS valI
 by_cases h0 : j = 0
 ·subst h0
  rfl
 ·rw [if_neg h0]
  have : Nat.beq j 0 = false := by
   cases hb : Nat.beq j 0 with
   | false => rfl
   | true => exact absurd (Nat.eq_of_beq_eq_true hb) h0
  rw [this]
  by_cases h1 : j = 1
  ·subst h1
   show ((4 * k : Nat) : Int) = _
   rw [if_pos rfl]
   norm_cast
  ·rw [if_neg h1]
   have : Nat.beq j 1 = false := by
    cases hb : Nat.beq j 1 with
    | false => rfl
    | true => exact absurd (Nat.eq_of_beq_eq_true hb) h1
   rw [this]
   show ev E (mkMul (num (j - 2)) (.lit 4)) = _
   rw [mkMul_ok, ev_lit, h]
noncomputable def descP (k : Nat) (num : Nat → IE) : List (Nat × IE) := (List.range (2 + 3 * k)).reverse.map fun j => (34 + j, valS k num j)
noncomputable def cellP (cel : Nat → IE) : List (Nat × IE) := (List.range 16).reverse.map fun j => (j, cel j)
noncomputable def shP (cel : Nat → IE) (k : Nat) (num : Nat → IE) : List (Nat × IE) := descP k num ++ (cellP cel ++ newW)
noncomputable def shC (cel : Nat → IE) (k : Nat) (num : Nat → IE) : SV := .cons (.arr .i64 0 (.lit 634) (wrs (shP cel k num) .nil)) (.cons (il 0) (.cons (il 1) (.cons (.int .i64 (.lit (35 + 3 * k : Nat))) (.cons (il 0) (.cons (.int .i64 (valS k num (1 + 3 * k))) (.cons (il 0) (.cons (il 0) (.cons (il 0) (.cons (.bool (.lit true)) .nil)))))))))
theorem wrs_same {E E' : Env} : ∀ {l l' : List (Nat × IE)}, l.map (fun p => (p.1, ev E p.2)) = l'.map (fun p => (p.1, ev E' p.2)) → ∀ j, wsVal E 0 (wrs l .nil) j = wsVal E' 0 (wrs l' .nil) j
 | [], [], _, j => rfl
 | [], _ :: _, h, _ => by cases h
 | _ :: _, [], h, _ => by cases h
 | p :: l, q :: m, h, j => by
  rw [List.map_cons, List.map_cons] at h
  injection h with h1 h2
  injection h1 with h3 h4
  show (if ((p.1 : Nat) : Int) = (j : Int) then ev E p.2 else wsVal E 0 (wrs l .nil) j) = if ((q.1 : Nat) : Int) = (j : Int) then ev E' q.2 else wsVal E' 0 (wrs m .nil) j
  rw [h3, h4, wrs_same h2 j]
theorem shC_same {E E' : Env} {cel cel' : Nat → IE} {k : Nat} {num num' : Nat → IE} {L N : List Int} (h1 : ∀ j, j < 16 → ev E (cel j) = L.getD j 0) (h2 : ∀ j, ev E (num j) = N.getD j 0) (h1' : ∀ j, j < 16 → ev E' (cel' j) = L.getD j 0) (h2' : ∀ j, ev E' (num' j) = N.getD j 0) : dl E (shC cel k num) = dl E' (shC cel' k num') := by
 have hw : ∀ j, wsVal E 0 (wrs (shP cel k num) .nil) j = wsVal E' 0 (wrs (shP cel' k num') .nil) j := wrs_same (by
  unfold shP
  rw [List.map_append, List.map_append, List.map_append, List.map_append]
  congr 1
  ·unfold descP
   rw [List.map_map, List.map_map]
   exact List.map_congr_left fun j _ => by
    show (34 + j, ev E (valS k num j)) = (34 + j, ev E' (valS k num' j))
    rw [valS_ev h2, valS_ev h2']
  ·congr 1
   unfold cellP
   rw [List.map_map, List.map_map]
   refine List.map_congr_left fun j hj => ?_
   have hj := List.mem_range.1 (List.mem_reverse.1 hj)
   show (j, ev E (cel j)) = (j, ev E' (cel' j))
   rw [h1 j hj, h1' j hj])
 have ha : arrCells E .i64 0 634 (wrs (shP cel k num) .nil) = arrCells E' .i64 0 634 (wrs (shP cel' k num') .nil) := by
  unfold arrCells
  exact List.map_congr_left fun j _ => by rw [hw]
 show arrCells E .i64 0 634 (wrs (shP cel k num) .nil) ++ ([Value.int .i64 0] ++ ([Value.int .i64 1] ++ ([Value.int .i64 ((35 + 3 * k : Nat) : Int)] ++ ([Value.int .i64 0] ++ ([Value.int .i64 (ev E (valS k num (1 + 3 * k)))] ++ ([Value.int .i64 0] ++ ([Value.int .i64 0] ++ ([Value.int .i64 0] ++ ([Value.bool true] ++ []))))))))) = _
 rw [ha, valS_ev h2, ← valS_ev h2' (1 + 3 * k)]
 rfl
noncomputable def mE (j : Nat) : IE := .sel 24 (.lit j)
noncomputable def cE (j : Nat) : IE := .sel 34 (.lit j)
noncomputable def inS (k : Nat) : SV := cond (Nat.beq k 0) .nils (.sli 20 0 (.lit 0) (.lit k) (.var 23))
noncomputable def entsS (k : Nat) : List Ent := ⟨30, 0, true, 0, .lit 0, .cons (.arr .i64 34 (.lit 16) .nil) .nil⟩ :: ⟨40, 0, true, 0, .lit 0, .cons (inS k) .nil⟩ :: cond (Nat.beq k 0) [] [⟨20, 0, true, 0, .lit 0, .cons (.arr .i64 24 (.lit (3 * k : Nat)) .nil) .nil⟩]
noncomputable def ordF (num : Nat → IE) : Nat → List Fact
 | 0 => []
 | n + 1 => (num (3 * n), 0, 15) :: (num (3 * n + 1), 0, 1099511627775) :: (num (3 * n + 2), 0, 1099511627775) :: cond (Nat.beq n 0) (ordF num n) ((.sub (num (3 * n - 3)) (num (3 * n)), -15, -1) :: ordF num n)
noncomputable def facS (k : Nat) : List Fact := (.var 33, 16, hi64) :: (.var 43, 1, hi64) :: (.var 23, k, hi64) :: ordF mE k
noncomputable def funSh : List SV → X SV := callF (tabJ []) (spOf spD) (bxOf bxC) 400 12 13
theorem funSh_ok {G : Gf} : SpecOk G Try.prog 13 funSh := callF_ok (spOf_ok okSpD) (bxOf_ok okBxC) 400 12 13
noncomputable def chkSh (k : Nat) (q : SV × Mem) : Bool := match q.1 with
 | .tup (.cons (.ptr s j (.lit (.ofNat 0))) (.cons (.ptr _ _ (.lit (.ofNat 0))) .nil)) => (match q.2.find s j with
  | some en => !en.ro && (Nat.beq en.t 84 && sameC en.c (shC cE k mE))
  | none => false)
 | _ => false
noncomputable def argsSh : List SV := [.sli 30 0 (.lit 0) (.lit 16) (.var 33), .sli 40 0 (.lit 0) (.lit 1) (.var 43)]
noncomputable def okSh (k : Nat) : Bool := allOf (funSh argsSh (slMem (entsS k) (facS k) 60)) (chkSh k)
end Go.Proofs.Ytdchpckikclmlaa
