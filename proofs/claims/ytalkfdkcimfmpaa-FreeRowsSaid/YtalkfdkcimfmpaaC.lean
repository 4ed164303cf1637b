/- words of values and of heads, by unknown functions of their numbers. -/
import Derived.Test.YtalkfdkcimfmpaaA
namespace Go.Proofs.Ytalkfdkcimfmpaa
open Go.Sx Go Go.FreeInv
set_option maxRecDepth 100000
noncomputable def f1 (f : Nat) (x : IE) : IE := .app f (.arg x .noarg)
theorem f1_ev {E : Env} (hE : E.f = G0) (f : Nat) (x : IE) : ev E (f1 f x) = clampZ (fz f [ev E x]) := by
 unfold f1
 rw [ev_app, evA_arg, evA_no, hE]
 rfl
theorem small {z : Int} (h : -1 ≤ z) (h' : z ≤ 1099511627775) : clampZ z = z := clampZ_of (by unfold in64 lo64 hi64; omega)
theorem f715 {E : Env} (hE : E.f = G0) (x : IE) : ev E (f1 715 x) = if isV (ev E x) then 1 else 0 := by
 rw [f1_ev hE]
 have h : fz 715 [ev E x] = if isV (ev E x) then 1 else 0 := rfl
 rw [h]
 cases isV (ev E x) <;> exact small (by decide) (by decide)
theorem f716 {E : Env} (hE : E.f = G0) (x : IE) : ev E (f1 716 x) = numOf (ev E x) := by
 rw [f1_ev hE]
 have := numOf_in (ev E x)
 unfold maxValue at this
 exact small (by show -1 ≤ numOf (ev E x); omega) (by show numOf (ev E x) ≤ 1099511627775; omega)
theorem f717 {E : Env} (hE : E.f = G0) (x : IE) : ev E (f1 717 x) = if isH (ev E x) then 1 else 0 := by
 rw [f1_ev hE]
 have h : fz 717 [ev E x] = if isH (ev E x) then 1 else 0 := rfl
 rw [h]
 cases isH (ev E x) <;> exact small (by decide) (by decide)
theorem f720 {E : Env} (hE : E.f = G0) (x : IE) : ev E (f1 720 x) = numOf (ev E x) % 16 := by
 rw [f1_ev hE]
 have := numOf_in (ev E x)
 unfold maxValue at this
 exact small (by show -1 ≤ numOf (ev E x) % 16; omega) (by show numOf (ev E x) % 16 ≤ 1099511627775; omega)
theorem f721 {E : Env} (hE : E.f = G0) (x : IE) : ev E (f1 721 x) = numOf (ev E x) / 16 := by
 rw [f1_ev hE]
 have := numOf_in (ev E x)
 unfold maxValue at this
 exact small (by show -1 ≤ numOf (ev E x) / 16; omega) (by show numOf (ev E x) / 16 ≤ 1099511627775; omega)
noncomputable def vEs (x : IE) : List IE := [.quo x (.lit 4), .shr x 2]
noncomputable def goodK (kn : Know) (x : IE) : Bool := factIn kn x 0 hi64 && ((factIn kn (.rem x (.lit 4)) 0 0 || factIn kn (.bit .and .i64 x (.lit 3)) 0 0) && (vEs x).any fun v => factIn kn v 0 1099511627775)
noncomputable def badK (kn : Know) (x : IE) : Bool := factIn kn x lo64 (-1) || (factIn kn (.rem x (.lit 4)) 1 3 || (factIn kn (.bit .and .i64 x (.lit 3)) 1 3 || (vEs x).any fun v => factIn kn v (1099511627775 + 1) hi64))
theorem and3 {x : Int} (h0 : 0 ≤ x) (h1 : x ≤ hi64) : bitI .and .i64 x 3 = x % 4 := and_mask .i64 x 2 h0 h1 (by decide)
theorem vEs_ev {E : Env} {x v : IE} (h : v ∈ vEs x) (h0 : 0 ≤ ev E x) : ev E v = ev E x / 4 := by
 unfold vEs at h
 simp only [List.mem_cons, List.not_mem_nil, or_false] at h
 rcases h with rfl | rfl
 ·rw [ev_quo, ev_lit, Int.tdiv_eq_ediv_of_nonneg h0]
 ·rw [ev_shr]
  exact Int.fdiv_eq_ediv_of_nonneg _ (by decide)
theorem goodK_ok {E : Env} {kn : Know} (hk : KnowOk E kn) {x : IE} (h : goodK kn x = true) : isV (ev E x) = true ∧ numOf (ev E x) = ev E x / 4 ∧ 0 ≤ ev E x := by
 unfold goodK at h
 simp only [Bool.and_eq_true, Bool.or_eq_true, List.any_eq_true] at h
 obtain ⟨h1, h2, v, hv, h3⟩ := h
 have h1 := factIn_ok hk h1
 have h3 := factIn_ok hk h3
 rw [vEs_ev hv h1.1] at h3
 have h4 : ev E x % 4 = 0 := by
  rcases h2 with h2 | h2
  ·have h2 := factIn_ok hk h2
   rw [ev_rem, ev_lit, Int.tmod_eq_emod_of_nonneg h1.1] at h2
   omega
  ·have h2 := factIn_ok hk h2
   rw [ev_bit, ev_lit, and3 h1.1 h1.2] at h2
   omega
 have hv : isV (ev E x) = true := decide_eq_true ⟨h1.1, h4, by unfold maxValue; omega⟩
 refine ⟨hv, ?_, h1.1⟩
 unfold numOf
 rw [hv]
 rfl
theorem badK_ok {E : Env} {kn : Know} (hk : KnowOk E kn) {x : IE} (hx : in64 (ev E x)) (h : badK kn x = true) : isV (ev E x) = false ∧ numOf (ev E x) = 0 := by
 have hv : isV (ev E x) = false := by
  refine decide_eq_false fun ⟨g1, g2, g3⟩ => ?_
  unfold maxValue at g3
  unfold badK at h
  simp only [Bool.or_eq_true, List.any_eq_true] at h
  rcases h with h | h | h | ⟨v, hv, h⟩
  ·have := factIn_ok hk h
   omega
  ·have := factIn_ok hk h
   rw [ev_rem, ev_lit, Int.tmod_eq_emod_of_nonneg g1] at this
   omega
  ·have := factIn_ok hk h
   rw [ev_bit, ev_lit, and3 g1 hx.2] at this
   omega
  ·have := factIn_ok hk h
   rw [vEs_ev hv g1] at this
   omega
 refine ⟨hv, ?_⟩
 unfold numOf
 rw [hv]
 rfl
theorem sem_nums {f : Nat} {s : List SV → X SV} (hs : SpecOk G0 Try.prog f s) {args : List SV} {fs : List Fact} {chk : SV × Mem → Bool} (hrun : allOf (s args (slMem [] fs 60)) chk = true)
  {E : Env} (hE : E.Ok) (hgf : E.f = G0) {w : World} (hb : E.base 0 = w.heap.size) (ho : E.o 0 = 0) (hf : ∀ f ∈ fs, FactOk E f) :
  Calls Try.prog f (args.map (dv E)).toArray w fun e w' => ∃ q, chk q = true ∧ ∃ E', Agree 60 E E' ∧ e = .returned (dv E' q.1) ∧ MemOk (fun _ => False) w E' q.2 w' := by
 obtain ⟨outs, ho', hall⟩ := allOf_ok hrun
 refine (run_ro hs ho' hgf hE hb ho (fun _ h => (by cases h)) hf).mono ?_
 rintro e w' ⟨q, hq, E', h1, h2, h3⟩
 exact ⟨q, hall q hq, E', h1, h2, h3⟩
noncomputable def envN (w : World) (x y : Int) : Env := { i := fun j => if j = 1 then x else if j = 2 then y else 0, b := fun _ => false, l := fun _ => [], base := fun _ => w.heap.size, o := fun _ => 0, v := fun _ => .tuple #[], f := G0 }
theorem envN_ok {w : World} {x y : Int} (hx : in64 x) (hy : in64 y) : (envN w x y).Ok := by
 refine ⟨fun j => ?_, fun _ _ h => (by cases h), G0_in⟩
 show in64 (if j = 1 then x else if j = 2 then y else 0)
 split
 ·exact hx
 ·split
  ·exact hy
  ·constructor <;> decide
noncomputable def chkGet (q : SV × Mem) : Bool := match q.1 with
 | .tup (.cons (.int .i64 e) (.cons (.bool (.lit true)) .nil)) => goodK q.2.know (.var 1) && (sameK q.2.know e (.quo (.var 1) (.lit 4)) && factIn q.2.know (mkSub (.quo (.var 1) (.lit 4)) (.var 2)) lo64 0)
 | .tup (.cons (.int .i64 (.lit (.ofNat 0))) (.cons (.bool (.lit false)) .nil)) => badK q.2.know (.var 1) || factIn q.2.know (mkSub (.quo (.var 1) (.lit 4)) (.var 2)) 1 hi64
 | _ => false
theorem get_run : allOf (fun0 63 [vi 1, vi 2] (slMem [] [(.var 2, 0, 1099511627775)] 60)) chkGet = true := by kernel_rfl
theorem sem_get {x y : Int} {w : World} (hx : in64 x) (h0 : 0 ≤ y) (h1 : y ≤ 1099511627775) :
  Calls Try.prog 63 #[.int .i64 x, .int .i64 y] w fun e w' => Ext (fun _ => False) w w' ∧ e = .returned (.tuple #[.int .i64 (if isV x = true ∧ numOf x ≤ y then numOf x else 0), .bool (decide (isV x = true ∧ numOf x ≤ y))]) := by
 have hy : in64 y := by unfold in64 lo64 hi64; omega
 refine (sem_nums (fun0_ok 63) get_run (E := envN w x y) (envN_ok hx hy) rfl rfl rfl (fun f hf => by
  rcases List.mem_singleton.1 hf with rfl
  exact ⟨h0, h1⟩)).mono ?_
 rintro e w' ⟨q, hq, E', hA, rfl, hm⟩
 refine ⟨hm.ext, congrArg Ending.returned ?_⟩
 have e1 : ev E' (.var 1) = x := hA.i 1 (by omega)
 have e2 : ev E' (.var 2) = y := hA.i 2 (by omega)
 have hk := hm.know
 unfold chkGet at hq
 split at hq
 ·rename_i e he
  simp only [Bool.and_eq_true] at hq
  obtain ⟨q1, q2, q3⟩ := hq
  obtain ⟨v1, v2, v3⟩ := goodK_ok hk q1
  have q2 := sameK_ok hk q2
  have q3 := factIn_ok hk q3
  rw [mkSub_ok] at q3
  have q4 : ev E' (.quo (.var 1) (.lit 4)) = x / 4 := by
   rw [vEs_ev (x := .var 1) (by simp [vEs]) v3, e1]
  rw [e1] at v1 v2
  have hc : isV x = true ∧ numOf x ≤ y := ⟨v1, by omega⟩
  rw [he]
  show Value.tuple #[.int .i64 (ev E' e), .bool true] = _
  rw [if_pos hc, decide_eq_true hc, q2, q4, v2]
 ·rename_i he
  have hc : ¬ (isV x = true ∧ numOf x ≤ y) := by
   rintro ⟨g1, g2⟩
   rw [Bool.or_eq_true] at hq
   rcases hq with hq | hq
   ·have := (badK_ok hk (x := .var 1) (by rw [e1]; exact hx) hq).1
    rw [e1, g1] at this
    cases this
   ·have q3 := factIn_ok hk hq
    rw [mkSub_ok] at q3
    have h0x : 0 ≤ x := by
     unfold isV at g1
     exact (of_decide_eq_true g1).1
    have q4 : ev E' (.quo (.var 1) (.lit 4)) = x / 4 := by
     rw [vEs_ev (x := .var 1) (by simp [vEs]) (by rw [e1]; exact h0x), e1]
    have : numOf x = x / 4 := by unfold numOf; rw [g1]; rfl
    omega
  rw [he, if_neg hc, decide_eq_false hc]
  rfl
 ·cases hq
noncomputable def isWd (kn : Know) (x : IE) : Bool := match dm 4 x with
 | (q, r) => ieEq r (.lit 0) && factIn kn q 0 1099511627775
noncomputable def wdArg (args : List SV) (m : Mem) : Bool := match args with
 | .int _ x :: _ => isWd m.know x
 | _ => true
noncomputable def guardX (g : List SV → Mem → Bool) (s : List SV → X SV) : List SV → X SV := fun args m => cond (g args m) (s args m) none
theorem guardX_ok {f : Nat} {g : List SV → Mem → Bool} {s : List SV → X SV} (h : SpecOk G0 Try.prog f s) : SpecOk G0 Try.prog f (guardX g s) := by
 intro F w0 E args m outs w hgf ho hm
 unfold guardX at ho
 cases hc : g args m with
 | false => rw [hc] at ho; cases ho
 | true =>
  rw [hc] at ho
  exact h F w0 E args m outs w hgf ho hm
noncomputable def yes (kn : Know) (c : BE) : Bool := again kn c == .lit true
noncomputable def nay (kn : Know) (c : BE) : Bool := again kn c == .lit false
theorem yes_ok {E : Env} {kn : Know} (hk : KnowOk E kn) {c : BE} (h : yes kn c = true) : evB E c = true := by
 unfold yes at h
 rw [beq_iff_eq] at h
 rw [← again_ok hk, h]
 rfl
theorem nay_ok {E : Env} {kn : Know} (hk : KnowOk E kn) {c : BE} (h : nay kn c = true) : evB E c = false := by
 unfold nay at h
 rw [beq_iff_eq] at h
 rw [← again_ok hk, h]
 rfl
noncomputable def c715 (x : IE) : BE := .eq (f1 715 x) (.lit 1)
noncomputable def c717 (x : IE) : BE := .eq (f1 717 x) (.lit 1)
theorem c715_ev {E : Env} (hE : E.f = G0) (x : IE) : evB E (c715 x) = isV (ev E x) := by
 show decide (ev E (f1 715 x) = 1) = _
 rw [f715 hE]
 cases isV (ev E x) <;> rfl
theorem c717_ev {E : Env} (hE : E.f = G0) (x : IE) : evB E (c717 x) = isH (ev E x) := by
 show decide (ev E (f1 717 x) = 1) = _
 rw [f717 hE]
 cases isH (ev E x) <;> rfl
noncomputable def pairV (e : IE) (c : BE) : SV := .tup (.cons (.int .i64 e) (.cons (.bool c) .nil))
noncomputable def formG (args : List SV) (m : Mem) : Option (SV × List Fact) := match args with
 | [.int .i64 x, .int .i64 (.lit (.ofNat y))] => cond (in64S m.know x && decide ((Int.ofNat y) ≤ 1099511627775)) (cond (nay m.know (c715 x)) (some (pairV (.lit 0) (.lit false), []))
   (cond (yes m.know (c715 x)) (cond (yes m.know (.lt (.lit (.ofNat y)) (f1 716 x))) (some (pairV (.lit 0) (.lit false), []))
    (cond (nay m.know (.lt (.lit (.ofNat y)) (f1 716 x))) (some (pairV (f1 716 x) (.lit true), [(f1 716 x, 0, .ofNat y)])) none)) none)) none
 | _ => none
theorem formG_ok : SpecOk G0 Try.prog 63 (pureX formG) := pureX_ok fun F w0 E args m w v fs hgf hm hf => by
 unfold formG at hf
 split at hf
 case h_2 => cases hf
 rename_i x y
 cases hc : (in64S m.know x && decide ((Int.ofNat y) ≤ 1099511627775)) with
 | false => rw [hc] at hf; cases hf
 | true =>
 rw [hc] at hf
 dsimp only [cond] at hf
 rw [Bool.and_eq_true, decide_eq_true_eq] at hc
 have hx := in64S_ok hm.know hc.1
 have call := sem_get (x := ev E x) (y := .ofNat y) (w := w) hx (Int.natCast_nonneg y) hc.2
 have fin : ∀ {z : Int} {b : Bool}, (if isV (ev E x) = true ∧ numOf (ev E x) ≤ Int.ofNat y then numOf (ev E x) else 0) = z → decide (isV (ev E x) = true ∧ numOf (ev E x) ≤ Int.ofNat y) = b → ∀ v : SV, dv E v = .tuple #[.int .i64 z, .bool b] →
   Calls Try.prog 63 (([.int .i64 x, .int .i64 (.lit (.ofNat y))] : List SV).map (dv E)).toArray w fun e w' => Ext (fun _ => False) w w' ∧ e = .returned (dv E v) := fun hz hb v hv => by
  refine call.mono ?_
  rintro e w' ⟨g1, rfl⟩
  refine ⟨g1, ?_⟩
  rw [hz, hb, hv]
 cases h1 : nay m.know (c715 x) with
 | true =>
  rw [h1] at hf
  cases hf
  have h1 := nay_ok hm.know h1
  rw [c715_ev hgf] at h1
  have hn : ¬ (isV (ev E x) = true ∧ numOf (ev E x) ≤ Int.ofNat y) := fun h => by rw [h1] at h; cases h.1
  exact ⟨fin (if_neg hn) (decide_eq_false hn) _ rfl, fun _ h => (by cases h)⟩
 | false =>
 rw [h1] at hf
 dsimp only [cond] at hf
 cases h2 : yes m.know (c715 x) with
 | false => rw [h2] at hf; cases hf
 | true =>
 rw [h2] at hf
 dsimp only [cond] at hf
 have h2 := yes_ok hm.know h2
 rw [c715_ev hgf] at h2
 cases h3 : yes m.know (.lt (.lit (.ofNat y)) (f1 716 x)) with
 | true =>
  rw [h3] at hf
  cases hf
  have h3 : decide (Int.ofNat y < ev E (f1 716 x)) = true := yes_ok hm.know h3
  rw [decide_eq_true_eq, f716 hgf] at h3
  have hn : ¬ (isV (ev E x) = true ∧ numOf (ev E x) ≤ Int.ofNat y) := fun h => by omega
  exact ⟨fin (if_neg hn) (decide_eq_false hn) _ rfl, fun _ h => (by cases h)⟩
 | false =>
 rw [h3] at hf
 dsimp only [cond] at hf
 cases h4 : nay m.know (.lt (.lit (.ofNat y)) (f1 716 x)) with
 | false => rw [h4] at hf; cases hf
 | true =>
  rw [h4] at hf
  cases hf
  have h4 : decide (Int.ofNat y < ev E (f1 716 x)) = false := nay_ok hm.know h4
  rw [decide_eq_false_iff_not, f716 hgf] at h4
  have hn : isV (ev E x) = true ∧ numOf (ev E x) ≤ Int.ofNat y := ⟨h2, by omega⟩
  refine ⟨fin (if_pos hn) (decide_eq_true hn) _ (by show Value.tuple #[.int .i64 (ev E (f1 716 x)), .bool true] = _; rw [f716 hgf]), fun g hg => ?_⟩
  rcases List.mem_singleton.1 hg with rfl
  unfold FactOk
  dsimp only
  rw [f716 hgf]
  exact ⟨(numOf_in _).1, hn.2⟩
noncomputable def ask715 (args : List SV) (_ : Mem) : Option BE := match args with
 | .int .i64 x :: _ => some (c715 x)
 | _ => none
noncomputable def ask716 (args : List SV) (m : Mem) : Option BE := match args with
 | [.int .i64 x, .int .i64 y] => cond (yes m.know (c715 x)) (some (.lt y (f1 716 x))) none
 | _ => none
noncomputable def getX : List SV → X SV := orX (guardX wdArg (fun0 63)) (preX ask715 (preX ask716 (pureX formG)))
theorem getX_ok : SpecOk G0 Try.prog 63 getX := orX_ok (guardX_ok (fun0_ok 63)) (preX_ok (preX_ok formG_ok _) _)
noncomputable def chkIs (q : SV × Mem) : Bool := match q.1 with
 | .tup (.cons (.int .i64 e) (.cons (.bool (.lit true)) .nil)) => goodK q.2.know (.var 1) && (vEs (.var 1)).any fun v => sameK q.2.know e v
 | .tup (.cons (.int .i64 (.lit (.ofNat 0))) (.cons (.bool (.lit false)) .nil)) => badK q.2.know (.var 1)
 | _ => false
theorem is_run : allOf (fun0 38 [vi 1] (slMem [] [] 60)) chkIs = true := by kernel_rfl
theorem sem_is {x : Int} {w : World} (hx : in64 x) :
  Calls Try.prog 38 #[.int .i64 x] w fun e w' => Ext (fun _ => False) w w' ∧ e = .returned (.tuple #[.int .i64 (numOf x), .bool (isV x)]) := by
 refine (sem_nums (fun0_ok 38) is_run (E := envN w x 0) (envN_ok hx (by constructor <;> decide)) rfl rfl rfl (fun f hf => by cases hf)).mono ?_
 rintro e w' ⟨q, hq, E', hA, rfl, hm⟩
 refine ⟨hm.ext, congrArg Ending.returned ?_⟩
 have e1 : ev E' (.var 1) = x := hA.i 1 (by omega)
 have hk := hm.know
 unfold chkIs at hq
 split at hq
 ·rename_i e he
  simp only [Bool.and_eq_true, List.any_eq_true] at hq
  obtain ⟨q1, v, hv, q2⟩ := hq
  obtain ⟨v1, v2, v3⟩ := goodK_ok hk q1
  have q2 := sameK_ok hk q2
  rw [vEs_ev hv v3, e1] at q2
  rw [e1] at v1 v2
  rw [he, v1, v2, ← q2]
  rfl
 ·rename_i he
  obtain ⟨b1, b2⟩ := badK_ok hk (x := .var 1) (by rw [e1]; exact hx) hq
  rw [e1] at b1 b2
  rw [he, b1, b2]
  rfl
 ·cases hq
noncomputable def formIs (args : List SV) (m : Mem) : Option (SV × List Fact) := match args with
 | [.int .i64 x] => cond (in64S m.know x) (some (pairV (f1 716 x) (c715 x), [(f1 716 x, 0, 1099511627775)])) none
 | _ => none
theorem formIs_ok : SpecOk G0 Try.prog 38 (pureX formIs) := pureX_ok fun F w0 E args m w v fs hgf hm hf => by
 unfold formIs at hf
 split at hf
 case h_2 => cases hf
 rename_i x
 cases hc : in64S m.know x with
 | false => rw [hc] at hf; cases hf
 | true =>
 rw [hc] at hf
 cases hf
 refine ⟨(sem_is (w := w) (in64S_ok hm.know hc)).mono ?_, fun g hg => ?_⟩
 ·rintro e w' ⟨g1, rfl⟩
  refine ⟨g1, ?_⟩
  show _ = Ending.returned (.tuple #[.int .i64 (ev E (f1 716 x)), .bool (evB E (c715 x))])
  rw [f716 hgf, c715_ev hgf]
 ·rcases List.mem_singleton.1 hg with rfl
  unfold FactOk
  dsimp only
  rw [f716 hgf]
  exact numOf_in _
noncomputable def isX : List SV → X SV := orX (guardX wdArg (fun0 38)) (pureX formIs)
theorem isX_ok : SpecOk G0 Try.prog 38 isX := orX_ok (guardX_ok (fun0_ok 38)) formIs_ok
noncomputable def headGood (kn : Know) (x : IE) (c f : IE) : Bool := goodK kn x && (vEs x).any fun v => sameK kn c (.quo v (.lit 16)) && (sameK kn f (.rem v (.lit 16)))
noncomputable def headIn (kn : Know) (x : IE) : Bool := (vEs x).any fun v => factIn kn (.rem v (.lit 16)) 0 12 && (factIn kn v 0 17179869183 || factIn kn (.quo v (.lit 16)) 0 1073741823)
noncomputable def headOut (kn : Know) (x : IE) : Bool := (vEs x).any fun v => factIn kn (.rem v (.lit 16)) 13 15 || (factIn kn v 17179869181 1099511627775 || factIn kn (.quo v (.lit 16)) 1073741824 68719476735)
theorem headGood_ok {E : Env} {kn : Know} (hk : KnowOk E kn) {x c f : IE} (h : headGood kn x c f = true) : isV (ev E x) = true ∧ 0 ≤ ev E x ∧ ev E c = numOf (ev E x) / 16 ∧ ev E f = numOf (ev E x) % 16 := by
 unfold headGood at h
 simp only [Bool.and_eq_true, List.any_eq_true] at h
 obtain ⟨h1, v, hv, h2, h3⟩ := h
 obtain ⟨v1, v2, v3⟩ := goodK_ok hk h1
 have h2 := sameK_ok hk h2
 have h3 := sameK_ok hk h3
 have hn : 0 ≤ ev E v := by rw [vEs_ev hv v3]; omega
 rw [ev_quo, ev_lit, Int.tdiv_eq_ediv_of_nonneg hn, vEs_ev hv v3, ← v2] at h2
 rw [ev_rem, ev_lit, Int.tmod_eq_emod_of_nonneg hn, vEs_ev hv v3, ← v2] at h3
 exact ⟨v1, v3, h2, h3⟩
theorem headIn_ok {E : Env} {kn : Know} (hk : KnowOk E kn) {x : IE} (hv : isV (ev E x) = true) (h : headIn kn x = true) : isH (ev E x) = true := by
 have h0 : 0 ≤ ev E x := by unfold isV at hv; exact (of_decide_eq_true hv).1
 have hn : numOf (ev E x) = ev E x / 4 := by unfold numOf; rw [hv]; rfl
 unfold headIn at h
 simp only [Bool.and_eq_true, Bool.or_eq_true, List.any_eq_true] at h
 obtain ⟨v, hm, h1, h2⟩ := h
 have h1 := factIn_ok hk h1
 have hv0 : 0 ≤ ev E v := by rw [vEs_ev hm h0]; omega
 rw [ev_rem, ev_lit, Int.tmod_eq_emod_of_nonneg hv0, vEs_ev hm h0, ← hn] at h1
 unfold isH
 rw [hv, Bool.true_and]
 refine decide_eq_true ⟨h1.2, ?_⟩
 rcases h2 with h2 | h2
 ·have h2 := factIn_ok hk h2
  rw [vEs_ev hm h0, ← hn] at h2
  omega
 ·have h2 := factIn_ok hk h2
  rw [ev_quo, ev_lit, Int.tdiv_eq_ediv_of_nonneg hv0, vEs_ev hm h0, ← hn] at h2
  omega
theorem headOut_ok {E : Env} {kn : Know} (hk : KnowOk E kn) {x : IE} (hx : in64 (ev E x)) (h : (badK kn x || headOut kn x) = true) : isH (ev E x) = false := by
 rw [Bool.or_eq_true] at h
 cases hv : isV (ev E x) with
 | false => unfold isH; rw [hv]; rfl
 | true =>
 rcases h with h | h
 ·have := (badK_ok hk hx h).1
  rw [hv] at this
  cases this
 have h0 : 0 ≤ ev E x := by unfold isV at hv; exact (of_decide_eq_true hv).1
 have hn : numOf (ev E x) = ev E x / 4 := by unfold numOf; rw [hv]; rfl
 unfold headOut at h
 simp only [Bool.or_eq_true, List.any_eq_true] at h
 obtain ⟨v, hm, h1⟩ := h
 have hv0 : 0 ≤ ev E v := by rw [vEs_ev hm h0]; omega
 unfold isH
 rw [hv, Bool.true_and]
 refine decide_eq_false fun ⟨g1, g2⟩ => ?_
 rcases h1 with h1 | h1 | h2
 ·have h1 := factIn_ok hk h1
  rw [ev_rem, ev_lit, Int.tmod_eq_emod_of_nonneg hv0, vEs_ev hm h0, ← hn] at h1
  omega
 ·have h2 := factIn_ok hk h1
  rw [vEs_ev hm h0, ← hn] at h2
  omega
 ·have h2 := factIn_ok hk h2
  rw [ev_quo, ev_lit, Int.tdiv_eq_ediv_of_nonneg hv0, vEs_ev hm h0, ← hn] at h2
  omega
noncomputable def headV (c f : IE) (b : BE) : SV := .tup (.cons (.agg (.cons (.int .i64 c) (.cons (.int .i64 f) .nil))) (.cons (.bool b) .nil))
noncomputable def chkHd (q : SV × Mem) : Bool := match q.1 with
 | .tup (.cons (.agg (.cons (.int .i64 c) (.cons (.int .i64 f) .nil))) (.cons (.bool (.lit true)) .nil)) => headGood q.2.know (.var 1) c f && headIn q.2.know (.var 1)
 | .tup (.cons (.agg (.cons (.int .i64 (.lit (.ofNat 0))) (.cons (.int .i64 (.lit (.ofNat 0))) .nil))) (.cons (.bool (.lit false)) .nil)) => badK q.2.know (.var 1) || headOut q.2.know (.var 1)
 | _ => false
theorem hd_run : allOf (fun0 47 [vi 1] (slMem [] [] 60)) chkHd = true := by kernel_rfl
noncomputable def hdVal (x : Int) : Value := .tuple #[.agg #[.int .i64 (if isH x then numOf x / 16 else 0), .int .i64 (if isH x then numOf x % 16 else 0)], .bool (isH x)]
theorem sem_hd {x : Int} {w : World} (hx : in64 x) : Calls Try.prog 47 #[.int .i64 x] w fun e w' => Ext (fun _ => False) w w' ∧ e = .returned (hdVal x) := by
 refine (sem_nums (fun0_ok 47) hd_run (E := envN w x 0) (envN_ok hx (by constructor <;> decide)) rfl rfl rfl (fun f hf => by cases hf)).mono ?_
 rintro e w' ⟨q, hq, E', hA, rfl, hm⟩
 refine ⟨hm.ext, congrArg Ending.returned ?_⟩
 have e1 : ev E' (.var 1) = x := hA.i 1 (by omega)
 have hk := hm.know
 unfold chkHd at hq
 split at hq
 ·rename_i c f he
  rw [Bool.and_eq_true] at hq
  obtain ⟨v1, v2, v3, v4⟩ := headGood_ok hk hq.1
  have v5 := headIn_ok hk v1 hq.2
  rw [e1] at v3 v4 v5
  unfold hdVal
  rw [he, v5, ← v3, ← v4]
  rfl
 ·rename_i he
  have v5 := headOut_ok hk (x := .var 1) (by rw [e1]; exact hx) hq
  rw [e1] at v5
  unfold hdVal
  rw [he, v5]
  rfl
 ·cases hq
noncomputable def formHd (args : List SV) (m : Mem) : Option (SV × List Fact) := match args with
 | [.int .i64 x] => cond (in64S m.know x) (cond (yes m.know (c717 x)) (some (headV (f1 721 x) (f1 720 x) (.lit true), [(f1 720 x, 0, 12), (f1 721 x, 0, 1073741823)]))
   (cond (nay m.know (c717 x)) (some (headV (.lit 0) (.lit 0) (.lit false), [])) none)) none
 | _ => none
theorem isH_in {x : Int} (h : isH x = true) : numOf x % 16 ≤ 12 ∧ numOf x / 16 ≤ 1073741823 := by
 unfold isH at h
 rw [Bool.and_eq_true] at h
 exact of_decide_eq_true h.2
theorem formHd_ok : SpecOk G0 Try.prog 47 (pureX formHd) := pureX_ok fun F w0 E args m w v fs hgf hm hf => by
 unfold formHd at hf
 split at hf
 case h_2 => cases hf
 rename_i x
 cases hc : in64S m.know x with
 | false => rw [hc] at hf; cases hf
 | true =>
 rw [hc] at hf
 dsimp only [cond] at hf
 have call := sem_hd (w := w) (in64S_ok hm.know hc)
 have hn := numOf_in (ev E x)
 cases h1 : yes m.know (c717 x) with
 | true =>
  rw [h1] at hf
  cases hf
  have h1 := yes_ok hm.know h1
  rw [c717_ev hgf] at h1
  refine ⟨call.mono ?_, fun g hg => ?_⟩
  ·rintro e w' ⟨g1, rfl⟩
   refine ⟨g1, ?_⟩
   show _ = Ending.returned (.tuple #[.agg #[.int .i64 (ev E (f1 721 x)), .int .i64 (ev E (f1 720 x))], .bool true])
   rw [f720 hgf, f721 hgf]
   unfold hdVal
   rw [h1]
   rfl
  ·have := isH_in h1
   simp only [List.mem_cons, List.not_mem_nil, or_false] at hg
   unfold FactOk
   rcases hg with rfl | rfl
   ·dsimp only; rw [f720 hgf]; omega
   ·dsimp only; rw [f721 hgf]; omega
 | false =>
 rw [h1] at hf
 dsimp only [cond] at hf
 cases h2 : nay m.know (c717 x) with
 | false => rw [h2] at hf; cases hf
 | true =>
  rw [h2] at hf
  cases hf
  have h2 := nay_ok hm.know h2
  rw [c717_ev hgf] at h2
  refine ⟨call.mono ?_, fun g hg => (by cases hg)⟩
  rintro e w' ⟨g1, rfl⟩
  refine ⟨g1, ?_⟩
  unfold hdVal
  rw [h2]
  rfl
noncomputable def ask717 (args : List SV) (_ : Mem) : Option BE := match args with
 | .int _ x :: _ => some (c717 x)
 | _ => none
noncomputable def hdX : List SV → X SV := orX (guardX wdArg (fun0 47)) (preX ask717 (pureX formHd))
theorem hdX_ok : SpecOk G0 Try.prog 47 hdX := orX_ok (guardX_ok (fun0_ok 47)) (preX_ok formHd_ok _)
noncomputable def chkHr (q : SV × Mem) : Bool := match q.1 with
 | .tup (.cons (.int .i64 f) (.cons (.int .i64 c) (.cons (.bool b) .nil))) => (headGood q.2.know (.var 1) c f && (match b with
   | .lit true => headIn q.2.know (.var 1)
   | .lit false => headOut q.2.know (.var 1)
   | .not (.lt (.lit (.ofNat 1073741823)) e) => ieEq e c && factIn q.2.know f 0 12
   | _ => false)) || (badK q.2.know (.var 1) && (ieEq f (.lit 0) && (ieEq c (.lit 0) && (b == .lit false))))
 | _ => false
theorem hr_run : allOf (fun0 36 [vi 1] (slMem [] [] 60)) chkHr = true := by kernel_rfl
theorem sem_hr {x : Int} {w : World} (hx : in64 x) : Calls Try.prog 36 #[.int .i64 x] w fun e w' => Ext (fun _ => False) w w' ∧ e = .returned (.tuple #[.int .i64 (numOf x % 16), .int .i64 (numOf x / 16), .bool (isH x)]) := by
 refine (sem_nums (fun0_ok 36) hr_run (E := envN w x 0) (envN_ok hx (by constructor <;> decide)) rfl rfl rfl (fun f hf => by cases hf)).mono ?_
 rintro e w' ⟨q, hq, E', hA, rfl, hm⟩
 refine ⟨hm.ext, congrArg Ending.returned ?_⟩
 have e1 : ev E' (.var 1) = x := hA.i 1 (by omega)
 have hk := hm.know
 unfold chkHr at hq
 split at hq
 case h_2 => cases hq
 rename_i f c b he
 have hval : dv E' q.1 = .tuple #[.int .i64 (ev E' f), .int .i64 (ev E' c), .bool (evB E' b)] := by rw [he]; rfl
 rw [hval]
 rw [Bool.or_eq_true] at hq
 rcases hq with hq | hq
 ·rw [Bool.and_eq_true] at hq
  obtain ⟨v1, v2, v3, v4⟩ := headGood_ok hk hq.1
  have hq2 := hq.2
  rw [e1] at v3 v4
  rw [v3, v4]
  have hb : evB E' b = isH x := by
   split at hq2
   ·have := headIn_ok hk v1 hq2
    rw [e1] at this
    rw [this]; rfl
   ·have := headOut_ok hk (x := .var 1) (by rw [e1]; exact hx) (by rw [hq2, Bool.or_true])
    rw [e1] at this
    rw [this]; rfl
   ·rename_i e
    rw [Bool.and_eq_true] at hq2
    have g1 := ieEq_ok hq2.1
    have g2 := factIn_ok hk hq2.2
    subst g1
    rw [e1] at v1
    show (!decide ((1073741823 : Int) < ev E' e)) = _
    unfold isH
    rw [v1, Bool.true_and, v3]
    rw [v4] at g2
    by_cases hh : numOf x / 16 ≤ 1073741823
    ·rw [decide_eq_false (by omega), decide_eq_true ⟨g2.2, hh⟩]; rfl
    ·rw [decide_eq_true (by omega), decide_eq_false (fun h => hh h.2)]; rfl
   ·cases hq2
  rw [hb]
 ·simp only [Bool.and_eq_true] at hq
  obtain ⟨h1, h2, h3, h4⟩ := hq
  have h2 := ieEq_ok h2
  have h3 := ieEq_ok h3
  rw [beq_iff_eq] at h4
  obtain ⟨b1, b2⟩ := badK_ok hk (x := .var 1) (by rw [e1]; exact hx) h1
  rw [e1] at b1 b2
  subst h2 h3 h4
  rw [b2]
  unfold isH
  rw [b1]
  rfl
noncomputable def formHr (args : List SV) (m : Mem) : Option (SV × List Fact) := match args with
 | [.int .i64 x] => cond (in64S m.know x) (some (.tup (.cons (.int .i64 (f1 720 x)) (.cons (.int .i64 (f1 721 x)) (.cons (.bool (c717 x)) .nil))),
   cond (yes m.know (c717 x)) [(f1 720 x, 0, 12), (f1 721 x, 0, 1073741823)] [(f1 720 x, 0, 15), (f1 721 x, 0, 68719476735)])) none
 | _ => none
theorem formHr_ok : SpecOk G0 Try.prog 36 (pureX formHr) := pureX_ok fun F w0 E args m w v fs hgf hm hf => by
 unfold formHr at hf
 split at hf
 case h_2 => cases hf
 rename_i x
 cases hc : in64S m.know x with
 | false => rw [hc] at hf; cases hf
 | true =>
 rw [hc] at hf
 cases hf
 have hn := numOf_in (ev E x)
 unfold maxValue at hn
 refine ⟨(sem_hr (w := w) (in64S_ok hm.know hc)).mono ?_, fun g hg => ?_⟩
 ·rintro e w' ⟨g1, rfl⟩
  refine ⟨g1, ?_⟩
  show _ = Ending.returned (.tuple #[.int .i64 (ev E (f1 720 x)), .int .i64 (ev E (f1 721 x)), .bool (evB E (c717 x))])
  rw [f720 hgf, f721 hgf, c717_ev hgf]
 ·cases h1 : yes m.know (c717 x) with
  | true =>
   rw [h1] at hg
   have h1 := yes_ok hm.know h1
   rw [c717_ev hgf] at h1
   have := isH_in h1
   simp only [cond, List.mem_cons, List.not_mem_nil, or_false] at hg
   unfold FactOk
   rcases hg with rfl | rfl
   ·dsimp only; rw [f720 hgf]; omega
   ·dsimp only; rw [f721 hgf]; omega
  | false =>
   rw [h1] at hg
   simp only [cond, List.mem_cons, List.not_mem_nil, or_false] at hg
   unfold FactOk
   rcases hg with rfl | rfl
   ·dsimp only; rw [f720 hgf]; omega
   ·dsimp only; rw [f721 hgf]; omega
noncomputable def hrX : List SV → X SV := orX (guardX wdArg (fun0 36)) (pureX formHr)
theorem hrX_ok : SpecOk G0 Try.prog 36 hrX := orX_ok (guardX_ok (fun0_ok 36)) formHr_ok
noncomputable def chkWd (q : SV × Mem) : Bool := match q.1 with
 | .int .i64 e => sameK q.2.know e (.mul (.add (.mul (.var 1) (.lit 16)) (.var 2)) (.lit 4))
 | _ => false
noncomputable def hdA (c f : IE) : SV := .agg (.cons (.int .i64 c) (.cons (.int .i64 f) .nil))
theorem wd_run : allOf (fun0 60 [hdA (.var 1) (.var 2)] (slMem [] [(.var 1, 0, 1073741823), (.var 2, 0, 12)] 60)) chkWd = true := by kernel_rfl
noncomputable def formWd (args : List SV) (m : Mem) : Option (SV × List Fact) := match args with
 | [.agg (.cons (.int .i64 (.app 721 (.arg x .noarg))) (.cons (.int .i64 (.app 720 (.arg y .noarg))) .nil))] => cond (ieEq x y && yes m.know (c717 x)) (some (.int .i64 x, [])) none
 | _ => none
theorem formWd_ok : SpecOk G0 Try.prog 60 (pureX formWd) := pureX_ok fun F w0 E args m w v fs hgf hm hf => by
 unfold formWd at hf
 split at hf
 case h_2 => cases hf
 rename_i x y
 cases hc : (ieEq x y && yes m.know (c717 x)) with
 | false => rw [hc] at hf; cases hf
 | true =>
 rw [hc] at hf
 cases hf
 rw [Bool.and_eq_true] at hc
 have hxy := ieEq_ok hc.1
 have h1 := yes_ok hm.know hc.2
 rw [c717_ev hgf] at h1
 subst hxy
 have hin := isH_in h1
 have hn := numOf_in (ev E x)
 refine ⟨?_, fun _ h => (by cases h)⟩
 have hv : isV (ev E x) = true := by
  unfold isH at h1
  rw [Bool.and_eq_true] at h1
  exact h1.1
 have hx4 : ev E x = 4 * numOf (ev E x) := by
  have hq := hv
  unfold isV at hq
  have hq := of_decide_eq_true hq
  unfold numOf
  rw [hv, if_pos rfl]
  omega
 have call := sem_nums (fun0_ok 60) wd_run (E := envN w (numOf (ev E x) / 16) (numOf (ev E x) % 16)) (envN_ok (by unfold in64 lo64 hi64; omega) (by unfold in64 lo64 hi64; omega)) rfl (w := w) rfl rfl (fun f hf => by
  simp only [List.mem_cons, List.not_mem_nil, or_false] at hf
  rcases hf with rfl | rfl
  ·show 0 ≤ numOf (ev E x) / 16 ∧ numOf (ev E x) / 16 ≤ 1073741823; omega
  ·show 0 ≤ numOf (ev E x) % 16 ∧ numOf (ev E x) % 16 ≤ 12; omega)
 have ha : (([.agg (.cons (.int .i64 (.app 721 (.arg x .noarg))) (.cons (.int .i64 (.app 720 (.arg x .noarg))) .nil))] : List SV).map (dv E)).toArray = (([hdA (.var 1) (.var 2)] : List SV).map (dv (envN w (numOf (ev E x) / 16) (numOf (ev E x) % 16)))).toArray := by
  show #[Value.agg #[.int .i64 (ev E (f1 721 x)), .int .i64 (ev E (f1 720 x))]] = #[Value.agg #[.int .i64 (numOf (ev E x) / 16), .int .i64 (numOf (ev E x) % 16)]]
  rw [f720 hgf, f721 hgf]
 rw [ha]
 refine call.mono ?_
 rintro e w' ⟨q, hq, E', hA, rfl, hm'⟩
 refine ⟨hm'.ext, ?_⟩
 unfold chkWd at hq
 split at hq
 case h_2 => cases hq
 rename_i e he
 have := sameK_ok hm'.know hq
 have e1 : ev E' (.var 1) = numOf (ev E x) / 16 := hA.i 1 (by omega)
 have e2 : ev E' (.var 2) = numOf (ev E x) % 16 := hA.i 2 (by omega)
 rw [ev_mul, ev_add, ev_mul, ev_lit, ev_lit, e1, e2] at this
 rw [he]
 show Ending.returned (.int .i64 (ev E' e)) = .returned (.int .i64 (ev E x))
 have hz : ev E' e = ev E x := by rw [this]; omega
 rw [hz]
noncomputable def wdX : List SV → X SV := orX (pureX formWd) (fun0 60)
theorem wdX_ok : SpecOk G0 Try.prog 60 wdX := orX_ok formWd_ok (fun0_ok 60)
end Go.Proofs.Ytalkfdkcimfmpaa
