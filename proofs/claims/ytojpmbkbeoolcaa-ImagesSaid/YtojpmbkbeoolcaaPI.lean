/- how states are put: the document's way. -/
import Derived.Test.YtojpmbkbeoolcaaLV
namespace Go.Proofs.Ytojpmbkbeoolcaa
open Go.Sx Go
set_option maxRecDepth 100000
noncomputable def hK (kn : Know) (e : Bool) (j : Nat) : Int := cond e (match litB (mkEq kn (hiE (.var 20) j) (.lit 1)) with
 | some true => 1
 | some false => 0
 | none => 2) 0
noncomputable def xsW (kn : Know) (e0 e1 e2 e3 e4 : Bool) : List Int := [b2i e0, b2i e1, b2i e2, b2i e3, b2i e4, hK kn e0 0, hK kn e1 1, hK kn e2 2, hK kn e3 3, hK kn e4 4]
noncomputable def not2 (z : Int) : Bool := !zEq z 2
noncomputable def wayP (e0 e1 e2 e3 e4 : Bool) (q : SV × Mem) : Bool := forceL (xsW q.2.know e0 e1 e2 e3 e4) fun xs => xs.all not2 && outB 3 q (row16V (cellL xs))
noncomputable def runI (e0 e1 e2 e3 e4 : Bool) : Bool := match fun0 11 [stL [.lit e0, .lit e1, .lit e2, .lit e3, .lit e4], .int .i64 (.var 20)] (slMem [] factP 60) with
 | some outs => outs.all fun q => wrongs q.2.know || wayP e0 e1 e2 e3 e4 q
 | none => false
theorem hK_ok {E : Env} {kn : Know} (hk : KnowOk E kn) {L : Int} (hL : E.i 20 = L) {e : Bool} {j : Nat} (h : not2 (hK kn e j) = true) : hK kn e j = xbit e L j := by
 unfold hK xbit at *
 cases e with
 | false => rfl
 | true =>
  have hb := hbit_bit L j
  have hv : ev E (hiE (.var 20) j) = hbit L j := by rw [ev_hi]; show hbit (E.i 20) j = _; rw [hL]
  rw [if_pos (show b2i true = 1 from rfl)]
  dsimp only [cond] at h ⊢
  have hm := mkEq_ok hk (hiE (.var 20) j) (.lit 1)
  rw [hv, ev_lit] at hm
  split
  ·rename_i hq
   rw [litB_ok hq] at hm
   exact (of_decide_eq_true hm.symm).symm
  ·rename_i hq
   rw [litB_ok hq] at hm
   have := of_decide_eq_false hm.symm
   rcases hb with h0 | h0
   ·exact h0.symm
   ·exact absurd h0 this
  ·rename_i hq
   rw [hq] at h
   cases h
theorem semPutI (hr : ∀ e0 e1 e2 e3 e4, runI e0 e1 e2 e3 e4 = true) : SemPut 11 3 := by
 intro b0 b1 b2 b3 e0 e1 e2 e3 e4 L w k0 k1 k2 k3 l0 l1
 have hr := hr e0 e1 e2 e3 e4
 unfold runI at hr
 split at hr
 case h_2 => cases hr
 rename_i outs hrun
 rw [List.all_eq_true] at hr
 let E := envR w [b0, b1, b2, b3] L (fun _ => false) 0 0 0
 have hE : E.Ok := envR_ok (fun z hz => by
  simp only [List.mem_cons, List.not_mem_nil, or_false] at hz
  rcases hz with rfl | rfl | rfl | rfl <;> exact balIn_64 ‹_›) (by unfold in64 lo64 hi64; omega) zero64
 have := run_ro (fun0_ok 11) hrun (E := E) (w := w) rfl hE rfl rfl (fun _ h => (by cases h)) (factP_ok rfl rfl k0 k1 k2 k3 l0 l1)
 rw [show (([stL [.lit e0, .lit e1, .lit e2, .lit e3, .lit e4], .int .i64 (.var 20)] : List SV).map (dv E)).toArray = #[stVals [b0, b1, b2, b3] [e0, e1, e2, e3, e4], .int .i64 L] from rfl] at this
 refine this.mono ?_
 rintro e w' ⟨q, hq, E', hA, rfl, hm'⟩
 refine ⟨hm'.ext, ?_⟩
 have hq1 := hr q hq
 rw [wrongs_ok hm'.know, Bool.false_or] at hq1
 unfold wayP at hq1
 rw [forceL_eq, Bool.and_eq_true, List.all_eq_true] at hq1
 obtain ⟨h2, h3⟩ := hq1
 obtain ⟨bl, o1, o2, o3, o4⟩ := outB_ok hm' h3
 refine ⟨bl, o1, o2, ?_, by rw [o4]⟩
 rw [o3]
 have hL : E'.i 20 = L := hA.i 20 (by decide)
 have hrow : E'.row 7 = [b0, b1, b2, b3] := row_agree hA (by decide)
 have hx : xsW q.2.know e0 e1 e2 e3 e4 = nrm [b2i e0, b2i e1, b2i e2, b2i e3, b2i e4, hbit L 0, hbit L 1, hbit L 2, hbit L 3, hbit L 4] := by
  rw [nrm_x]
  unfold xsW at h2 ⊢
  rw [hK_ok hm'.know hL (h2 _ (by simp)), hK_ok hm'.know hL (h2 _ (by simp)), hK_ok hm'.know hL (h2 _ (by simp)), hK_ok hm'.know hL (h2 _ (by simp)), hK_ok hm'.know hL (h2 _ (by simp))]
 rw [hx]
 have hs : ∀ (xs : List Int) (i : Nat), i < 4 → ev E' (cellL xs i) = ([b0, b1, b2, b3] : List Int).getD i 0 + 1 := fun xs i hi => by
  unfold cellL
  rw [show Nat.ble 4 i = false by
   rcases (by omega : i = 0 ∨ i = 1 ∨ i = 2 ∨ i = 3) with rfl | rfl | rfl | rfl <;> rfl]
  show ev E' (.add (.sel 7 (.lit (.ofNat i))) (.lit 1)) = _
  rw [ev_add, ev_sel, ev_lit, ev_lit, hrow]
  rfl
 rw [putN_row (b0 := b0) (b1 := b1) (b2 := b2) (b3 := b3) (xs := [b2i e0, b2i e1, b2i e2, b2i e3, b2i e4, hbit L 0, hbit L 1, hbit L 2, hbit L 3, hbit L 4]) (hs _ 0 (by omega)) (hs _ 1 (by omega)) (hs _ 2 (by omega)) (hs _ 3 (by omega)) (fun c hc => by
  unfold cellL
  rw [show Nat.ble 4 (4 + c) = true from Nat.ble_eq_true_of_le (by omega), Nat.add_sub_cancel_left]
  rfl)]
end Go.Proofs.Ytojpmbkbeoolcaa
