/- may the entries be: by an unknown function of their numbers. -/
import Derived.Test.YtofmndcdcchflaaGW
namespace Go.Proofs.Ytofmndcdcchflaa
open Go.Sx Go Go.DescNum
set_option maxRecDepth 100000
noncomputable def mE (j : Nat) : IE := .sel 24 (.lit j)
noncomputable def goodSw (kn : Know) : Nat → Bool
 | 0 => true
 | n + 1 => goodSw kn n && (rngIn kn (mE (3 * n)) 0 15 && (rngIn kn (mE (3 * n + 1)) 0 1099511627775 && (rngIn kn (mE (3 * n + 2)) 0 1099511627775 && orB' (Nat.beq n 0) (orB' (rngIn kn (mkSub (mE (3 * n)) (mE (3 * n - 3))) 1 hi64) (orB' (rngIn kn (mkSub (mE (3 * n - 3)) (mE (3 * n))) lo64 (-1)) (nay kn (.lt (mE (3 * n)) (.add (mE (3 * n - 3)) (.lit 1)))))))))
noncomputable def out1 (kn : Know) (e : IE) (hi : Int) : Bool := orB' (rngIn kn e lo64 (-1)) (rngIn kn e (hi + 1) hi64)
noncomputable def badSw (kn : Know) : Nat → Bool
 | 0 => false
 | n + 1 => orB' (badSw kn n) (orB' (out1 kn (mE (3 * n)) 15) (orB' (out1 kn (mE (3 * n + 1)) 1099511627775) (orB' (out1 kn (mE (3 * n + 2)) 1099511627775) (Nat.blt 0 n && orB' (rngIn kn (mkSub (mE (3 * n)) (mE (3 * n - 3))) (lo64 * 2) 0) (orB' (rngIn kn (mkSub (mE (3 * n - 3)) (mE (3 * n))) 0 (hi64 * 2)) (yes kn (.lt (mE (3 * n)) (.add (mE (3 * n - 3)) (.lit 1)))))))))
noncomputable def chkMay (k : Nat) (q : SV × Mem) : Bool := match q.1 with
 | .bool (.lit true) => goodSw q.2.know k
 | .bool (.lit false) => badSw q.2.know k
 | _ => false
noncomputable def slM (k : Nat) : SV := .sli 20 0 (.lit 0) (.lit k) (.var 23)
noncomputable def enM (k : Nat) : Ent := ⟨20, 0, true, 0, .lit 0, .cons (.arr .i64 24 (.lit (3 * k : Nat)) .nil) .nil⟩
noncomputable def okMay (f k : Nat) : Bool := allOf (fun0 f [slM k] (slMem [enM k] [(.var 23, k, hi64)] 60)) (chkMay k)
section
variable {E : Env} {N : List Int} (hN : E.row 24 = N) {kn : Know} (hk : KnowOk E kn)
include hN hk
omit hk in
theorem mE_ev (j : Nat) : ev E (mE j) = N.getD j 0 := by
 unfold mE
 rw [ev_sel, hN, ev_lit, Int.toNat_natCast]
theorem goodSw_ok : ∀ n, goodSw kn n = true → swOK N n = true
 | 0, _ => rfl
 | n + 1, h => by
  unfold goodSw at h
  simp only [Bool.and_eq_true] at h
  obtain ⟨h1, h2, h3, h4, h5⟩ := h
  have h2 := rngIn_ok hk h2
  have h3 := rngIn_ok hk h3
  have h4 := rngIn_ok hk h4
  rw [mE_ev hN] at h2 h3 h4
  have h6 : n = 0 ∨ N.getD (3 * n - 3) 0 < N.getD (3 * n) 0 := by
   rcases orB'_ok h5 with g | g
   ·exact .inl (Nat.eq_of_beq_eq_true g)
   rcases orB'_ok g with g | g
   ·have g := rngIn_ok hk g
    rw [mkSub_ok, mE_ev hN, mE_ev hN] at g
    exact .inr (by omega)
   rcases orB'_ok g with g | g
   ·have g := rngIn_ok hk g
    rw [mkSub_ok, mE_ev hN, mE_ev hN] at g
    exact .inr (by omega)
   ·have g : decide (ev E (mE (3 * n)) < ev E (.add (mE (3 * n - 3)) (.lit 1))) = false := nay_ok hk g
    rw [decide_eq_false_iff_not, ev_add, ev_lit, mE_ev hN, mE_ev hN] at g
    exact .inr (by omega)
  unfold swOK
  simp only [Bool.and_eq_true, Bool.or_eq_true, decide_eq_true_eq]
  exact ⟨goodSw_ok n h1, h2, h3, h4, h6⟩
omit hN in
theorem out1_ok {e : IE} {hi : Int} (h : out1 kn e hi = true) : ¬ (0 ≤ ev E e ∧ ev E e ≤ hi) := by
 unfold out1 at h
 rcases orB'_ok h with g | g
 ·have g := rngIn_ok hk g
  omega
 ·have g := rngIn_ok hk g
  omega
theorem badSw_ok : ∀ n, badSw kn n = true → swOK N n = false
 | 0, h => by cases h
 | n + 1, h => by
  cases he : swOK N (n + 1) with
  | false => rfl
  | true =>
   exfalso
   obtain ⟨a1, a2, a3, a4⟩ := swOK_at he n (Nat.lt_succ_self n)
   unfold maxValue at a2 a3
   unfold badSw at h
   rcases orB'_ok h with g | g
   ·have := badSw_ok n g
    unfold swOK at he
    rw [this] at he
    cases he
   rcases orB'_ok g with g | g
   ·have := out1_ok hk g
    rw [mE_ev hN] at this
    exact this a1
   rcases orB'_ok g with g | g
   ·have := out1_ok hk g
    rw [mE_ev hN] at this
    exact this a2
   rcases orB'_ok g with g | g
   ·have := out1_ok hk g
    rw [mE_ev hN] at this
    exact this a3
   ·rw [Bool.and_eq_true] at g
    have g0 : 0 < n := by simpa [Nat.blt_eq] using g.1
    have a4 : N.getD (3 * n - 3) 0 < N.getD (3 * n) 0 := a4.resolve_left (by omega)
    rcases orB'_ok g.2 with g | g
    ·have g := rngIn_ok hk g
     rw [mkSub_ok, mE_ev hN, mE_ev hN] at g
     omega
    rcases orB'_ok g with g | g
    ·have g := rngIn_ok hk g
     rw [mkSub_ok, mE_ev hN, mE_ev hN] at g
     omega
    ·have g : decide (ev E (mE (3 * n)) < ev E (.add (mE (3 * n - 3)) (.lit 1))) = true := yes_ok hk g
     rw [decide_eq_true_eq, ev_add, ev_lit, mE_ev hN, mE_ev hN] at g
     omega
end
def SemMay (f : Nat) : Prop := ∀ {w : World} {b o cap k : Nat} {N : List Int}, k ≤ 16 → N.length = 3 * k → (∀ z ∈ N, in64 z) → k ≤ cap → (cap : Int) ≤ hi64 → RowN w b o N → Calls Try.prog f #[.slice (some ⟨b, o, none⟩) k cap] w fun e w' => Ext (fun _ => False) w w' ∧ e = .returned (.bool (swOK N k))
theorem sem_may {f : Nat} (hall : ∀ k, k ≤ 16 → okMay f k = true) : SemMay f := by
 intro w b o cap k N hk hl h64 hc1 hc2 hr
 obtain ⟨hb, hcells⟩ := hr
 let E : Env := { i := fun j => if j = 23 then (cap : Int) else 0, b := fun _ => false, l := fun r => if r = 24 then N else [], base := fun x => if x = 20 then b else w.heap.size, o := fun x => if x = 20 then o else 0, v := fun _ => .tuple #[], f := G0 [] }
 have hE : E.Ok := by
  refine ⟨fun j => ?_, fun r z hz => ?_, G0_in []⟩
  ·show in64 (if j = 23 then (cap : Int) else 0)
   unfold hi64 at hc2
   unfold in64 lo64 hi64
   split <;> omega
  ·replace hz : z ∈ (if r = 24 then N else []) := hz
   split at hz
   ·exact h64 z hz
   ·cases hz
 have hrow : E.row 24 = N := by
  rw [Env.row_l (by unfold fixR; omega)]
  rfl
 obtain ⟨outs, ho, hchk⟩ := allOf_ok (hall k hk)
 have call := run_ro (fun0_ok (G := G0 []) f) ho (E := E) (w := w) rfl hE rfl rfl (fun e he => by
  rcases List.mem_singleton.1 he with rfl
  refine ⟨rfl, ⟨hb, fun _ j v hv => ?_, fun h => (by cases h), fun _ x h => (by cases h)⟩⟩
  have hd : dl E (enM k).c = (List.range (3 * k)).map fun j => Value.int .i64 (N.getD j 0) := by
   show arrCells E .i64 24 ((3 * k : Nat) : Int).toNat .nil ++ [] = _
   rw [List.append_nil, Int.toNat_natCast]
   unfold arrCells
   refine List.map_congr_left fun j _ => ?_
   show Value.int .i64 ((E.row 24).getD j 0) = _
   rw [hrow]
  rw [hd, List.getElem?_map] at hv
  have hj : j < 3 * k := by
   rcases Nat.lt_or_ge j (3 * k) with h | h
   ·exact h
   ·rw [List.getElem?_eq_none (by simpa using h)] at hv
    cases hv
  rw [List.getElem?_range hj] at hv
  cases hv
  have := hcells j (by omega)
  show w.cell? ⟨b + 0, o + ((0 : Int).toNat + j), none⟩ = _
  rw [show b + 0 = b from rfl, show ((0 : Int).toNat + j) = j by simp]
  exact this) (fun f hf => by
  rcases List.mem_singleton.1 hf with rfl
  show (k : Int) ≤ cap ∧ (cap : Int) ≤ hi64
  omega)
 have ha : (([slM k] : List SV).map (dv E)).toArray = #[.slice (some ⟨b, o, none⟩) k cap] := by
  show #[Value.slice (some ⟨b + 0, o + (0 : Int).toNat, none⟩) ((k : Int)).toNat ((cap : Int)).toNat] = _
  simp
 rw [ha] at call
 refine call.mono ?_
 rintro e w' ⟨q, hq, E', hA, rfl, hm⟩
 have hN : E'.row 24 = N := by
  rw [Env.row_l (by unfold fixR; omega), hA.l 24 (by omega), ← Env.row_l (E := E) (r := 24) (by unfold fixR; omega)]
  exact hrow
 refine ⟨hm.ext, ?_⟩
 have hq := hchk q hq
 unfold chkMay at hq
 split at hq
 ·rename_i heq
  rw [heq, goodSw_ok hN hm.know k hq]
  rfl
 ·rename_i heq
  rw [heq, badSw_ok hN hm.know k hq]
  rfl
 ·cases hq
end Go.Proofs.Ytofmndcdcchflaa
