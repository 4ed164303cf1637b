/- words of values, descriptors, the entries of a view: what the unknown functions stand for. -/
import Derived.KernelRfl
import Derived.Test.YtofmndcdcchflaaTab
import Derived.Test.YtofmndcdcchflaaE4
namespace Go.DescNum
def maxValue : Int := 1099511627775
def isV (x : Int) : Bool := decide (0 ≤ x ∧ x % 4 = 0 ∧ x / 4 ≤ maxValue)
def numOf (x : Int) : Int := if isV x then x / 4 else 0
theorem numOf_in (x : Int) : 0 ≤ numOf x ∧ numOf x ≤ maxValue := by
 unfold numOf
 cases h : isV x with
 | false => rw [if_neg Bool.false_ne_true]; unfold maxValue; omega
 | true =>
  rw [if_pos rfl]
  unfold isV at h
  have := of_decide_eq_true h
  omega
def known (V : List Int) (i : Nat) : Bool := decide (V.getD i 0 ≠ 0)
def wasV (V : List Int) (i : Nat) : Int := V.getD (16 + i) 0
def nowV (V : List Int) (i : Nat) : Int := V.getD (32 + i) 0
def knowns (V : List Int) (n : Nat) : List Nat := (List.range n).filter (known V)
def cnt (V : List Int) (n : Nat) : Nat := (knowns V n).length
def entsL (V : List Int) (l : List Nat) : List Int := l.flatMap fun (i : Nat) => [(i : Int), wasV V i, nowV V i]
theorem knowns_succ {V : List Int} {n : Nat} : knowns V (n + 1) = knowns V n ++ (if known V n = true then [n] else []) := by
 unfold knowns
 rw [List.range_succ, List.filter_append]
 cases h : known V n <;> simp [h]
theorem cnt_succ {V : List Int} {n : Nat} : cnt V (n + 1) = cnt V n + (if known V n = true then 1 else 0) := by
 unfold cnt
 rw [knowns_succ, List.length_append]
 split <;> rfl
theorem cnt_le {V : List Int} : ∀ n, cnt V n ≤ n
 | 0 => Nat.le_refl _
 | n + 1 => by
  have := cnt_le (V := V) n
  rw [cnt_succ]
  split <;> omega
theorem cnt_mono {V : List Int} {n m : Nat} (h : n ≤ m) : cnt V n ≤ cnt V m := by
 induction m with
 | zero => rw [show n = 0 by omega]; exact Nat.le_refl _
 | succ m ih =>
  by_cases hn : n ≤ m
  ·have := ih hn
   rw [cnt_succ]
   omega
  ·rw [show n = m + 1 by omega]
   exact Nat.le_refl _
theorem knowns_pre {V : List Int} {n m : Nat} (h : n ≤ m) : ∃ l, knowns V m = knowns V n ++ l := by
 induction m with
 | zero => exact ⟨[], by rw [show n = 0 by omega]; simp⟩
 | succ m ih =>
  by_cases hn : n ≤ m
  ·obtain ⟨l, hl⟩ := ih hn
   exact ⟨l ++ _, by rw [knowns_succ, hl, List.append_assoc]⟩
  ·exact ⟨[], by rw [show n = m + 1 by omega]; simp⟩
theorem entsL_len {V : List Int} (l : List Nat) : (entsL V l).length = 3 * l.length := by
 induction l with
 | nil => rfl
 | cons x r ih =>
  show ([(x : Int), wasV V x, nowV V x] ++ entsL V r).length = _
  rw [List.length_append, ih]
  simp; omega
theorem entsL_app {V : List Int} (a b : List Nat) : entsL V (a ++ b) = entsL V a ++ entsL V b := by
 unfold entsL
 rw [List.flatMap_append]
theorem ents_at {V : List Int} {i m : Nat} (h : i < m) (hk : known V i = true) : (entsL V (knowns V m)).getD (3 * cnt V i) 0 = i ∧ (entsL V (knowns V m)).getD (3 * cnt V i + 1) 0 = wasV V i ∧ (entsL V (knowns V m)).getD (3 * cnt V i + 2) 0 = nowV V i := by
 obtain ⟨l, hl⟩ := knowns_pre (V := V) (n := i + 1) (m := m) h
 have e : entsL V [i] = [(i : Int), wasV V i, nowV V i] := rfl
 have hlen : (entsL V (knowns V i)).length = 3 * cnt V i := entsL_len _
 rw [hl, knowns_succ, if_pos hk, entsL_app, entsL_app, e, List.append_assoc, ← hlen]
 refine ⟨?_, ?_, ?_⟩
 ·rw [List.getD_eq_getElem?_getD, List.getElem?_append_right (Nat.le_refl _), Nat.sub_self]; rfl
 ·rw [List.getD_eq_getElem?_getD, List.getElem?_append_right (by omega), Nat.add_sub_cancel_left]; rfl
 ·rw [List.getD_eq_getElem?_getD, List.getElem?_append_right (by omega), Nat.add_sub_cancel_left]; rfl
def valN (w : List Int) (j : Nat) : Int := numOf (w.getD j 0)
def isN (w : List Int) (j : Nat) : Bool := isV (w.getD j 0)
def entOK (w : List Int) : Nat → Bool
 | 0 => true
 | n + 1 => entOK w n && (isN w (2 + 3 * n) && (isN w (3 + 3 * n) && (isN w (4 + 3 * n) && (decide (valN w (2 + 3 * n) ≤ 15) && (decide (n = 0) || decide (valN w (3 * n - 1) < valN w (2 + 3 * n)))))))
def hdOK (x : Int) : Bool := isV x && decide (numOf x / 4 ≤ 65535 ∧ numOf x % 4 ≤ 2)
def descOK (w : List Int) : Bool := isN w 0 && (isN w 1 && (decide (valN w 0 % 4 ≤ 2) && (decide (valN w 0 / 4 ≤ 65535) && (decide (valN w 1 ≤ 16) && entOK w (valN w 1).toNat))))
theorem descOK_hd {w : List Int} (h : descOK w = true) : hdOK (w.getD 0 0) = true := by
 unfold descOK at h
 simp only [Bool.and_eq_true, decide_eq_true_eq] at h
 obtain ⟨d1, _, d3, d4, _⟩ := h
 unfold isN at d1
 unfold valN at d3 d4
 unfold hdOK
 rw [d1]
 exact decide_eq_true ⟨d4, d3⟩
def swOK (w : List Int) : Nat → Bool
 | 0 => true
 | n + 1 => swOK w n && (decide (0 ≤ w.getD (3 * n) 0 ∧ w.getD (3 * n) 0 ≤ 15) && (decide (0 ≤ w.getD (3 * n + 1) 0 ∧ w.getD (3 * n + 1) 0 ≤ maxValue) && (decide (0 ≤ w.getD (3 * n + 2) 0 ∧ w.getD (3 * n + 2) 0 ≤ maxValue) && (decide (n = 0) || decide (w.getD (3 * n - 3) 0 < w.getD (3 * n) 0)))))
theorem swOK_at {w : List Int} : ∀ {n : Nat}, swOK w n = true → ∀ i, i < n → (0 ≤ w.getD (3 * i) 0 ∧ w.getD (3 * i) 0 ≤ 15) ∧ (0 ≤ w.getD (3 * i + 1) 0 ∧ w.getD (3 * i + 1) 0 ≤ maxValue) ∧ (0 ≤ w.getD (3 * i + 2) 0 ∧ w.getD (3 * i + 2) 0 ≤ maxValue) ∧ (i = 0 ∨ w.getD (3 * i - 3) 0 < w.getD (3 * i) 0)
 | 0, _, i, hi => absurd hi (Nat.not_lt_zero _)
 | n + 1, h, i, hi => by
  unfold swOK at h
  simp only [Bool.and_eq_true, Bool.or_eq_true, decide_eq_true_eq] at h
  obtain ⟨h1, h2, h3, h4, h5⟩ := h
  rcases Nat.lt_or_ge i n with g | g
  ·exact swOK_at h1 i g
  ·obtain rfl : i = n := by omega
   exact ⟨h2, h3, h4, h5⟩
def wasL (V : List Int) : List Int := (List.range 16).map (wasV V)
def nowL (V : List Int) : List Int := (List.range 16).map (nowV V)
def rowFn (l : List Int) : List Int → Int
 | [] => l.length
 | j :: _ => l.getD j.toNat 0
def fz (V : List Int) (f : Nat) (xs : List Int) : Int :=
 if f = 715 then (if isV (xs.headD 0) then 1 else 0)
 else if f = 716 then numOf (xs.headD 0)
 else if f = 820 then (if descOK xs then 1 else 0)
 else if f = 821 then (if hdOK (xs.headD 0) then 1 else 0)
 else if f = 830 then (if swOK xs (xs.length / 3) then 1 else 0)
 else if f = 1000003 then rowFn (entsL V (knowns V 16)) xs
 else if f = 1000004 then rowFn (wasL V) xs
 else if f = 1000005 then rowFn (nowL V) xs
 else if f = 1101 then cnt V (xs.headD 0).toNat
 else if f = 1106 then cnt V 16
 else if f = 1110 then (if known V (xs.headD 0).toNat then 1 else 0)
 else 0
end Go.DescNum
namespace Go.Proofs.Ytofmndcdcchflaa
open Go.Sx Go
set_option maxRecDepth 100000
noncomputable def clampZ (z : Int) : Int := if lo64 ≤ z ∧ z ≤ hi64 then z else 0
theorem clampZ_in (z : Int) : in64 (clampZ z) := by
 unfold clampZ
 split
 ·assumption
 ·constructor <;> decide
theorem clampZ_of {z : Int} (h : in64 z) : clampZ z = z := if_pos h
noncomputable def G0 (V : List Int) : Gf := fun f xs => clampZ (Go.DescNum.fz V f xs)
theorem G0_in (V : List Int) (f : Nat) (l : List Int) : in64 (G0 V f l) := clampZ_in _
abbrev vi (k : Nat) : SV := .int .i64 (.var k)
theorem noSpecs {G : Gf} : SpecsOk G Try.prog (spOf []) := spOf_ok (by intro x hx; cases hx)
theorem noBx {G : Gf} : BxOk G Try.prog (bxOf []) := bxOf_ok (by intro x hx; cases hx)
noncomputable def tabJ (fs : List Nat) : Tab Try.prog := { tab with dead := fun f => cond (fs.any (Nat.beq f)) (deadT f) none }
noncomputable def fun0 (f : Nat) : List SV → X SV := callF (tabJ []) (spOf []) (bxOf []) 400 12 f
theorem fun0_ok {G : Gf} (f : Nat) : SpecOk G Try.prog f (fun0 f) := callF_ok noSpecs noBx 400 12 f
def bodyOf (f : Func) : Code := f.body.getD .skip
noncomputable def slotsN (n : Nat) (xs : List (Nat × SV)) : List SV := (List.range n).map fun i => match Sx.look i xs with | some v => v | none => .nil
theorem one_ok {G : Gf} {a : Nat × (List SV → X SV)} (h : SpecOk G Try.prog a.1 a.2) : ∀ x ∈ [a], SpecOk G Try.prog x.1 x.2 := fun x hx => by
 rcases List.mem_singleton.1 hx with rfl
 exact h
theorem cons_ok {G : Gf} {a : Nat × (List SV → X SV)} {l : List (Nat × (List SV → X SV))} (h : SpecOk G Try.prog a.1 a.2) (hl : ∀ x ∈ l, SpecOk G Try.prog x.1 x.2) : ∀ x ∈ a :: l, SpecOk G Try.prog x.1 x.2 := fun x hx => by
 rcases List.mem_cons.1 hx with rfl | hx
 ·exact h
 ·exact hl x hx
noncomputable def cx0 : CX := callF (tabJ []) (spOf []) (bxOf []) 400 12
theorem cx0_ok {G : Gf} : CallsOk G Try.prog cx0 := by
 unfold cx0
 rw [callF_eq]
 exact callD_ok noSpecs noBx 400 12
noncomputable def g0 (f : Nat) : IE := .app f .noarg
noncomputable def g1 (f : Nat) (e : IE) : IE := .app f (.arg e .noarg)
noncomputable def minus (a b : IE) : IE := .add a (.mul b (.lit (-1)))
end Go.Proofs.Ytofmndcdcchflaa
namespace Go.Proofs.Ytofmndcdcchflaa
open Go.Sx Go Go.DescNum
set_option maxRecDepth 100000
variable {V : List Int}
noncomputable def f1 (f : Nat) (x : IE) : IE := .app f (.arg x .noarg)
theorem f1_ev {E : Env} (hE : E.f = G0 V) (f : Nat) (x : IE) : ev E (f1 f x) = clampZ (fz V f [ev E x]) := by
 unfold f1
 rw [ev_app, evA_arg, evA_no, hE]
 rfl
theorem small {z : Int} (h : -1 ≤ z) (h' : z ≤ 1099511627775) : clampZ z = z := clampZ_of (by unfold in64 lo64 hi64; omega)
theorem f715 {E : Env} (hE : E.f = G0 V) (x : IE) : ev E (f1 715 x) = if isV (ev E x) then 1 else 0 := by
 rw [f1_ev hE]
 have h : fz V 715 [ev E x] = if isV (ev E x) then 1 else 0 := rfl
 rw [h]
 cases isV (ev E x) <;> exact small (by decide) (by decide)
theorem f716 {E : Env} (hE : E.f = G0 V) (x : IE) : ev E (f1 716 x) = numOf (ev E x) := by
 rw [f1_ev hE]
 have := numOf_in (ev E x)
 unfold maxValue at this
 exact small (by show -1 ≤ numOf (ev E x); omega) (by show numOf (ev E x) ≤ 1099511627775; omega)
noncomputable def vEs (x : IE) : List IE := [.quo x (.lit 4), .shr x 2]
noncomputable def goodK (kn : Know) (x : IE) : Bool := factIn kn x 0 hi64 && ((factIn kn (.rem x (.lit 4)) 0 0 || factIn kn (.bit .and .i64 x (.lit 3)) 0 0) && (vEs x).any fun v => factIn kn v 0 1099511627775)
noncomputable def badK (kn : Know) (x : IE) : Bool := factIn kn x lo64 (-1) || (factIn kn (.rem x (.lit 4)) 1 3 || (factIn kn (.bit .and .i64 x (.lit 3)) 1 3 || (vEs x).any fun v => factIn kn v (1099511627775 + 1) hi64))
theorem and3 {x : Int} (h0 : 0 ≤ x) (h1 : x ≤ hi64) : bitI .and .i64 x 3 = x % 4 := and_mask .i64 x 2 h0 h1 (by decide)
theorem vEs_ev {E : Env} {x v : IE} (h : v ∈ vEs x) (h0 : 0 ≤ ev E x) : ev E v = ev E x / 4 := by
 unfold vEs at h
 simp only [List.mem_cons, List.not_mem_nil, or_false] at h
 rcases h with rfl | rfl
 ·rw [ev_quo, ev_lit, Int.tdiv_eq_ediv_of_nonneg h0]
 ·rw [ev_shr]
  exact Int.fdiv_eq_ediv_of_nonneg _ (by decide)
theorem goodK_ok {E : Env} {kn : Know} (hk : KnowOk E kn) {x : IE} (h : goodK kn x = true) : isV (ev E x) = true ∧ numOf (ev E x) = ev E x / 4 ∧ 0 ≤ ev E x := by
 unfold goodK at h
 simp only [Bool.and_eq_true, Bool.or_eq_true, List.any_eq_true] at h
 obtain ⟨h1, h2, v, hv, h3⟩ := h
 have h1 := factIn_ok hk h1
 have h3 := factIn_ok hk h3
 rw [vEs_ev hv h1.1] at h3
 have h4 : ev E x % 4 = 0 := by
  rcases h2 with h2 | h2
  ·have h2 := factIn_ok hk h2
   rw [ev_rem, ev_lit, Int.tmod_eq_emod_of_nonneg h1.1] at h2
   omega
  ·have h2 := factIn_ok hk h2
   rw [ev_bit, ev_lit, and3 h1.1 h1.2] at h2
   omega
 have hv : isV (ev E x) = true := decide_eq_true ⟨h1.1, h4, by unfold maxValue; omega⟩
 refine ⟨hv, ?_, h1.1⟩
 unfold numOf
 rw [hv]
 rfl
theorem badK_ok {E : Env} {kn : Know} (hk : KnowOk E kn) {x : IE} (hx : in64 (ev E x)) (h : badK kn x = true) : isV (ev E x) = false ∧ numOf (ev E x) = 0 := by
 have hv : isV (ev E x) = false := by
  refine decide_eq_false fun ⟨g1, g2, g3⟩ => ?_
  unfold maxValue at g3
  unfold badK at h
  simp only [Bool.or_eq_true, List.any_eq_true] at h
  rcases h with h | h | h | ⟨v, hv, h⟩
  ·have := factIn_ok hk h
   omega
  ·have := factIn_ok hk h
   rw [ev_rem, ev_lit, Int.tmod_eq_emod_of_nonneg g1] at this
   omega
  ·have := factIn_ok hk h
   rw [ev_bit, ev_lit, and3 g1 hx.2] at this
   omega
  ·have := factIn_ok hk h
   rw [vEs_ev hv g1] at this
   omega
 refine ⟨hv, ?_⟩
 unfold numOf
 rw [hv]
 rfl
theorem sem_nums {f : Nat} {s : List SV → X SV} (hs : SpecOk (G0 V) Try.prog f s) {args : List SV} {fs : List Fact} {chk : SV × Mem → Bool} (hrun : allOf (s args (slMem [] fs 60)) chk = true)
  {E : Env} (hE : E.Ok) (hgf : E.f = G0 V) {w : World} (hb : E.base 0 = w.heap.size) (ho : E.o 0 = 0) (hf : ∀ f ∈ fs, FactOk E f) :
  Calls Try.prog f (args.map (dv E)).toArray w fun e w' => ∃ q, chk q = true ∧ ∃ E', Agree 60 E E' ∧ e = .returned (dv E' q.1) ∧ MemOk (fun _ => False) w E' q.2 w' := by
 obtain ⟨outs, ho', hall⟩ := allOf_ok hrun
 refine (run_ro hs ho' hgf hE hb ho (fun _ h => (by cases h)) hf).mono ?_
 rintro e w' ⟨q, hq, E', h1, h2, h3⟩
 exact ⟨q, hall q hq, E', h1, h2, h3⟩
noncomputable def envN (V : List Int) (w : World) (x y : Int) : Env := { i := fun j => if j = 1 then x else if j = 2 then y else 0, b := fun _ => false, l := fun _ => [], base := fun _ => w.heap.size, o := fun _ => 0, v := fun _ => .tuple #[], f := G0 V }
theorem envN_ok {w : World} {x y : Int} (hx : in64 x) (hy : in64 y) : (envN V w x y).Ok := by
 refine ⟨fun j => ?_, fun _ _ h => (by cases h), G0_in V⟩
 show in64 (if j = 1 then x else if j = 2 then y else 0)
 split
 ·exact hx
 ·split
  ·exact hy
  ·constructor <;> decide
noncomputable def chkGet (q : SV × Mem) : Bool := match q.1 with
 | .tup (.cons (.int .i64 e) (.cons (.bool (.lit true)) .nil)) => goodK q.2.know (.var 1) && (sameK q.2.know e (.quo (.var 1) (.lit 4)) && factIn q.2.know (mkSub (.quo (.var 1) (.lit 4)) (.var 2)) lo64 0)
 | .tup (.cons (.int .i64 (.lit (.ofNat 0))) (.cons (.bool (.lit false)) .nil)) => badK q.2.know (.var 1) || factIn q.2.know (mkSub (.quo (.var 1) (.lit 4)) (.var 2)) 1 hi64
 | _ => false
theorem get_run : allOf (fun0 56 [vi 1, vi 2] (slMem [] [(.var 2, 0, 1099511627775)] 60)) chkGet = true := by kernel_rfl
theorem sem_get {x y : Int} {w : World} (hx : in64 x) (h0 : 0 ≤ y) (h1 : y ≤ 1099511627775) :
  Calls Try.prog 56 #[.int .i64 x, .int .i64 y] w fun e w' => Ext (fun _ => False) w w' ∧ e = .returned (.tuple #[.int .i64 (if isV x = true ∧ numOf x ≤ y then numOf x else 0), .bool (decide (isV x = true ∧ numOf x ≤ y))]) := by
 have hy : in64 y := by unfold in64 lo64 hi64; omega
 refine (sem_nums (fun0_ok 56) get_run (E := envN [] w x y) (envN_ok hx hy) rfl rfl rfl (fun f hf => by
  rcases List.mem_singleton.1 hf with rfl
  exact ⟨h0, h1⟩)).mono ?_
 rintro e w' ⟨q, hq, E', hA, rfl, hm⟩
 refine ⟨hm.ext, congrArg Ending.returned ?_⟩
 have e1 : ev E' (.var 1) = x := hA.i 1 (by omega)
 have e2 : ev E' (.var 2) = y := hA.i 2 (by omega)
 have hk := hm.know
 unfold chkGet at hq
 split at hq
 ·rename_i e he
  simp only [Bool.and_eq_true] at hq
  obtain ⟨q1, q2, q3⟩ := hq
  obtain ⟨v1, v2, v3⟩ := goodK_ok hk q1
  have q2 := sameK_ok hk q2
  have q3 := factIn_ok hk q3
  rw [mkSub_ok] at q3
  have q4 : ev E' (.quo (.var 1) (.lit 4)) = x / 4 := by
   rw [vEs_ev (x := .var 1) (by simp [vEs]) v3, e1]
  rw [e1] at v1 v2
  have hc : isV x = true ∧ numOf x ≤ y := ⟨v1, by omega⟩
  rw [he]
  show Value.tuple #[.int .i64 (ev E' e), .bool true] = _
  rw [if_pos hc, decide_eq_true hc, q2, q4, v2]
 ·rename_i he
  have hc : ¬ (isV x = true ∧ numOf x ≤ y) := by
   rintro ⟨g1, g2⟩
   rw [Bool.or_eq_true] at hq
   rcases hq with hq | hq
   ·have := (badK_ok hk (x := .var 1) (by rw [e1]; exact hx) hq).1
    rw [e1, g1] at this
    cases this
   ·have q3 := factIn_ok hk hq
    rw [mkSub_ok] at q3
    have h0x : 0 ≤ x := by
     unfold isV at g1
     exact (of_decide_eq_true g1).1
    have q4 : ev E' (.quo (.var 1) (.lit 4)) = x / 4 := by
     rw [vEs_ev (x := .var 1) (by simp [vEs]) (by rw [e1]; exact h0x), e1]
    have : numOf x = x / 4 := by unfold numOf; rw [g1]; rfl
    omega
  rw [he, if_neg hc, decide_eq_false hc]
  rfl
 ·cases hq
noncomputable def isWd (kn : Know) (x : IE) : Bool := match dm 4 x with
 | (q, r) => ieEq r (.lit 0) && factIn kn q 0 1099511627775
noncomputable def wdArg (args : List SV) (m : Mem) : Bool := match args with
 | .int _ x :: _ => isWd m.know x
 | _ => true
noncomputable def guardX (g : List SV → Mem → Bool) (s : List SV → X SV) : List SV → X SV := fun args m => cond (g args m) (s args m) none
theorem guardX_ok {f : Nat} {g : List SV → Mem → Bool} {s : List SV → X SV} (h : SpecOk (G0 V) Try.prog f s) : SpecOk (G0 V) Try.prog f (guardX g s) := by
 intro F w0 E args m outs w hgf ho hm
 unfold guardX at ho
 cases hc : g args m with
 | false => rw [hc] at ho; cases ho
 | true =>
  rw [hc] at ho
  exact h F w0 E args m outs w hgf ho hm
noncomputable def yes (kn : Know) (c : BE) : Bool := again kn c == .lit true
noncomputable def nay (kn : Know) (c : BE) : Bool := again kn c == .lit false
theorem yes_ok {E : Env} {kn : Know} (hk : KnowOk E kn) {c : BE} (h : yes kn c = true) : evB E c = true := by
 unfold yes at h
 rw [beq_iff_eq] at h
 rw [← again_ok hk, h]
 rfl
theorem nay_ok {E : Env} {kn : Know} (hk : KnowOk E kn) {c : BE} (h : nay kn c = true) : evB E c = false := by
 unfold nay at h
 rw [beq_iff_eq] at h
 rw [← again_ok hk, h]
 rfl
noncomputable def c715 (x : IE) : BE := .eq (f1 715 x) (.lit 1)
theorem c715_ev {E : Env} (hE : E.f = G0 V) (x : IE) : evB E (c715 x) = isV (ev E x) := by
 show decide (ev E (f1 715 x) = 1) = _
 rw [f715 hE]
 cases isV (ev E x) <;> rfl
noncomputable def pairV (e : IE) (c : BE) : SV := .tup (.cons (.int .i64 e) (.cons (.bool c) .nil))
noncomputable def formG (args : List SV) (m : Mem) : Option (SV × List Fact) := match args with
 | [.int .i64 x, .int .i64 (.lit (.ofNat y))] => cond (in64S m.know x && decide ((Int.ofNat y) ≤ 1099511627775)) (cond (nay m.know (c715 x)) (some (pairV (.lit 0) (.lit false), []))
   (cond (yes m.know (c715 x)) (cond (yes m.know (.lt (.lit (.ofNat y)) (f1 716 x))) (some (pairV (.lit 0) (.lit false), []))
    (cond (nay m.know (.lt (.lit (.ofNat y)) (f1 716 x))) (some (pairV (f1 716 x) (.lit true), [(f1 716 x, max 0 (rng m.know.facts (f1 716 x)).1, min (.ofNat y) (rng m.know.facts (f1 716 x)).2)])) none)) none)) none
 | _ => none
theorem formG_ok : SpecOk (G0 V) Try.prog 56 (pureX formG) := pureX_ok fun F w0 E args m w v fs hgf hm hf => by
 unfold formG at hf
 split at hf
 case h_2 => cases hf
 rename_i x y
 cases hc : (in64S m.know x && decide ((Int.ofNat y) ≤ 1099511627775)) with
 | false => rw [hc] at hf; cases hf
 | true =>
 rw [hc] at hf
 dsimp only [cond] at hf
 rw [Bool.and_eq_true, decide_eq_true_eq] at hc
 have hx := in64S_ok hm.know hc.1
 have call := sem_get (x := ev E x) (y := .ofNat y) (w := w) hx (Int.natCast_nonneg y) hc.2
 have fin : ∀ {z : Int} {b : Bool}, (if isV (ev E x) = true ∧ numOf (ev E x) ≤ Int.ofNat y then numOf (ev E x) else 0) = z → decide (isV (ev E x) = true ∧ numOf (ev E x) ≤ Int.ofNat y) = b → ∀ v : SV, dv E v = .tuple #[.int .i64 z, .bool b] →
   Calls Try.prog 56 (([.int .i64 x, .int .i64 (.lit (.ofNat y))] : List SV).map (dv E)).toArray w fun e w' => Ext (fun _ => False) w w' ∧ e = .returned (dv E v) := fun hz hb v hv => by
  refine call.mono ?_
  rintro e w' ⟨g1, rfl⟩
  refine ⟨g1, ?_⟩
  rw [hz, hb, hv]
 cases h1 : nay m.know (c715 x) with
 | true =>
  rw [h1] at hf
  cases hf
  have h1 := nay_ok hm.know h1
  rw [c715_ev hgf] at h1
  have hn : ¬ (isV (ev E x) = true ∧ numOf (ev E x) ≤ Int.ofNat y) := fun h => by rw [h1] at h; cases h.1
  exact ⟨fin (if_neg hn) (decide_eq_false hn) _ rfl, fun _ h => (by cases h)⟩
 | false =>
 rw [h1] at hf
 dsimp only [cond] at hf
 cases h2 : yes m.know (c715 x) with
 | false => rw [h2] at hf; cases hf
 | true =>
 rw [h2] at hf
 dsimp only [cond] at hf
 have h2 := yes_ok hm.know h2
 rw [c715_ev hgf] at h2
 cases h3 : yes m.know (.lt (.lit (.ofNat y)) (f1 716 x)) with
 | true =>
  rw [h3] at hf
  cases hf
  have h3 : decide (Int.ofNat y < ev E (f1 716 x)) = true := yes_ok hm.know h3
  rw [decide_eq_true_eq, f716 hgf] at h3
  have hn : ¬ (isV (ev E x) = true ∧ numOf (ev E x) ≤ Int.ofNat y) := fun h => by omega
  exact ⟨fin (if_neg hn) (decide_eq_false hn) _ rfl, fun _ h => (by cases h)⟩
 | false =>
 rw [h3] at hf
 dsimp only [cond] at hf
 cases h4 : nay m.know (.lt (.lit (.ofNat y)) (f1 716 x)) with
 | false => rw [h4] at hf; cases hf
 | true =>
  rw [h4] at hf
  cases hf
  have h4 : decide (Int.ofNat y < ev E (f1 716 x)) = false := nay_ok hm.know h4
  rw [decide_eq_false_iff_not, f716 hgf] at h4
  have hn : isV (ev E x) = true ∧ numOf (ev E x) ≤ Int.ofNat y := ⟨h2, by omega⟩
  refine ⟨fin (if_pos hn) (decide_eq_true hn) _ (by show Value.tuple #[.int .i64 (ev E (f1 716 x)), .bool true] = _; rw [f716 hgf]), fun g hg => ?_⟩
  rcases List.mem_singleton.1 hg with rfl
  have h1 := rng_ok hm.know.env hm.know.facts (f1 716 x)
  have h2 := (numOf_in (ev E x)).1
  have h5 := hn.2
  rw [f716 hgf] at h1
  unfold FactOk
  dsimp only
  rw [f716 hgf]
  omega
noncomputable def ask715 (args : List SV) (_ : Mem) : Option BE := match args with
 | .int .i64 x :: _ => some (c715 x)
 | _ => none
noncomputable def ask716 (args : List SV) (m : Mem) : Option BE := match args with
 | [.int .i64 x, .int .i64 y] => cond (yes m.know (c715 x)) (some (.lt y (f1 716 x))) none
 | _ => none
noncomputable def g716 (args : List SV) (_ : Mem) : List Fact := match args with
 | .int .i64 x :: _ => [(f1 716 x, 0, 1099511627775)]
 | _ => []
theorem g716_ok {f : Nat} {s : List SV → X SV} (hs : SpecOk (G0 V) Try.prog f s) : SpecOk (G0 V) Try.prog f (factX g716 s) := factX_ok hs fun F w0 E args m w hgf hm y hy => by
 unfold g716 at hy
 split at hy
 ·rename_i x r
  rcases List.mem_singleton.1 hy with rfl
  have h2 := numOf_in (ev E x)
  unfold maxValue at h2
  unfold FactOk
  dsimp only
  rw [f716 hgf]
  exact h2
 ·cases hy
noncomputable def formGm (args : List SV) (m : Mem) : Option (SV × List Fact) := match args with
 | [.int .i64 x, .int .i64 (.lit (.ofNat 1099511627775))] => cond (in64S m.know x) (some (pairV (f1 716 x) (c715 x), [(f1 716 x, max 0 (rng m.know.facts (f1 716 x)).1, min 1099511627775 (rng m.know.facts (f1 716 x)).2)])) none
 | _ => none
theorem formGm_ok : SpecOk (G0 V) Try.prog 56 (pureX formGm) := pureX_ok fun F w0 E args m w v fs hgf hm hf => by
 unfold formGm at hf
 split at hf
 case h_2 => cases hf
 rename_i x
 cases hc : in64S m.know x with
 | false => rw [hc] at hf; cases hf
 | true =>
 rw [hc] at hf
 cases hf
 have h2 := numOf_in (ev E x)
 unfold maxValue at h2
 refine ⟨(sem_get (y := 1099511627775) (w := w) (in64S_ok hm.know hc) (by decide) (by decide)).mono ?_, fun g hg => ?_⟩
 ·rintro e w' ⟨g1, rfl⟩
  refine ⟨g1, ?_⟩
  show _ = Ending.returned (.tuple #[.int .i64 (ev E (f1 716 x)), .bool (evB E (c715 x))])
  rw [f716 hgf, c715_ev hgf]
  cases hv : isV (ev E x) with
  | true =>
   rw [if_pos ⟨rfl, h2.2⟩, decide_eq_true (⟨rfl, h2.2⟩ : true = true ∧ _)]
  | false =>
   have n0 : numOf (ev E x) = 0 := by unfold numOf; rw [hv]; rfl
   rw [if_neg (fun h => by cases h.1), decide_eq_false (fun h => by cases h.1), n0]
 ·rcases List.mem_singleton.1 hg with rfl
  have h1 := rng_ok hm.know.env hm.know.facts (f1 716 x)
  rw [f716 hgf] at h1
  unfold FactOk
  dsimp only
  rw [f716 hgf]
  omega
theorem isWd_ok {E : Env} {kn : Know} (hk : KnowOk E kn) {x : IE} (h : isWd kn x = true) : isV (ev E x) = true ∧ numOf (ev E x) = ev E (dm 4 x).1 ∧ 0 ≤ ev E (dm 4 x).1 ∧ ev E (dm 4 x).1 ≤ 1099511627775 := by
 unfold isWd at h
 have hd := dm_ok E 4 x
 generalize dm 4 x = qr at h hd
 obtain ⟨q, r⟩ := qr
 dsimp only at h hd ⊢
 rw [Bool.and_eq_true] at h
 have h1 := ieEq_ok h.1
 have h2 := factIn_ok hk h.2
 have e : ev E x = 4 * ev E q := by
  rw [hd, h1]
  show _ + (0 : Int) = _
  omega
 have hv : isV (ev E x) = true := by
  unfold isV maxValue
  exact decide_eq_true (by omega)
 refine ⟨hv, ?_, h2.1, h2.2⟩
 unfold numOf
 rw [hv, if_pos rfl]
 omega
noncomputable def formGq (args : List SV) (m : Mem) : Option (SV × List Fact) := match args with
 | [.int .i64 x, .int .i64 (.lit (.ofNat y))] => cond (isWd m.know x && decide ((Int.ofNat y) ≤ 1099511627775)) (cond (factIn m.know (dm 4 x).1 0 (.ofNat y)) (some (pairV (dm 4 x).1 (.lit true), [])) none) none
 | _ => none
theorem formGq_ok : SpecOk (G0 V) Try.prog 56 (pureX formGq) := pureX_ok fun F w0 E args m w v fs hgf hm hf => by
 unfold formGq at hf
 split at hf
 case h_2 => cases hf
 rename_i x y
 cases hc : (isWd m.know x && decide ((Int.ofNat y) ≤ 1099511627775)) with
 | false => rw [hc] at hf; cases hf
 | true =>
 rw [hc] at hf
 dsimp only [cond] at hf
 cases h1 : factIn m.know (dm 4 x).1 0 (.ofNat y) with
 | false => rw [h1] at hf; cases hf
 | true =>
 rw [h1] at hf
 cases hf
 rw [Bool.and_eq_true, decide_eq_true_eq] at hc
 obtain ⟨v1, v2, v3, v4⟩ := isWd_ok hm.know hc.1
 have h1 := factIn_ok hm.know h1
 have hx : in64 (ev E x) := by
  have := of_decide_eq_true (p := 0 ≤ ev E x ∧ ev E x % 4 = 0 ∧ ev E x / 4 ≤ maxValue) v1
  unfold maxValue at this
  unfold in64 lo64 hi64
  omega
 have hn : isV (ev E x) = true ∧ numOf (ev E x) ≤ Int.ofNat y := ⟨v1, by rw [v2]; exact h1.2⟩
 refine ⟨(sem_get (y := .ofNat y) (w := w) hx (Int.natCast_nonneg y) hc.2).mono ?_, fun g hg => (by cases hg)⟩
 rintro e w' ⟨g1, rfl⟩
 refine ⟨g1, ?_⟩
 rw [if_pos hn, decide_eq_true hn, v2]
 rfl
noncomputable def getX : List SV → X SV := orX (pureX formGq) (orX (guardX wdArg (fun0 56)) (orX (pureX formGm) (preX ask715 (factX g716 (preX ask716 (pureX formG))))))
theorem getX_ok : SpecOk (G0 V) Try.prog 56 getX := orX_ok formGq_ok (orX_ok (guardX_ok (fun0_ok 56)) (orX_ok formGm_ok (preX_ok (g716_ok (preX_ok formG_ok _)) _)))
noncomputable def chkIs (q : SV × Mem) : Bool := match q.1 with
 | .tup (.cons (.int .i64 e) (.cons (.bool (.lit true)) .nil)) => goodK q.2.know (.var 1) && (vEs (.var 1)).any fun v => sameK q.2.know e v
 | .tup (.cons (.int .i64 (.lit (.ofNat 0))) (.cons (.bool (.lit false)) .nil)) => badK q.2.know (.var 1)
 | _ => false
theorem is_run : allOf (fun0 45 [vi 1] (slMem [] [] 60)) chkIs = true := by kernel_rfl
theorem sem_is {x : Int} {w : World} (hx : in64 x) :
  Calls Try.prog 45 #[.int .i64 x] w fun e w' => Ext (fun _ => False) w w' ∧ e = .returned (.tuple #[.int .i64 (numOf x), .bool (isV x)]) := by
 refine (sem_nums (fun0_ok 45) is_run (E := envN [] w x 0) (envN_ok hx (by constructor <;> decide)) rfl rfl rfl (fun f hf => by cases hf)).mono ?_
 rintro e w' ⟨q, hq, E', hA, rfl, hm⟩
 refine ⟨hm.ext, congrArg Ending.returned ?_⟩
 have e1 : ev E' (.var 1) = x := hA.i 1 (by omega)
 have hk := hm.know
 unfold chkIs at hq
 split at hq
 ·rename_i e he
  simp only [Bool.and_eq_true, List.any_eq_true] at hq
  obtain ⟨q1, v, hv, q2⟩ := hq
  obtain ⟨v1, v2, v3⟩ := goodK_ok hk q1
  have q2 := sameK_ok hk q2
  rw [vEs_ev hv v3, e1] at q2
  rw [e1] at v1 v2
  rw [he, v1, v2, ← q2]
  rfl
 ·rename_i he
  obtain ⟨b1, b2⟩ := badK_ok hk (x := .var 1) (by rw [e1]; exact hx) hq
  rw [e1] at b1 b2
  rw [he, b1, b2]
  rfl
 ·cases hq
noncomputable def formIs (args : List SV) (m : Mem) : Option (SV × List Fact) := match args with
 | [.int .i64 x] => cond (in64S m.know x) (some (pairV (f1 716 x) (c715 x), [(f1 716 x, max 0 (rng m.know.facts (f1 716 x)).1, min 1099511627775 (rng m.know.facts (f1 716 x)).2)])) none
 | _ => none
theorem formIs_ok : SpecOk (G0 V) Try.prog 45 (pureX formIs) := pureX_ok fun F w0 E args m w v fs hgf hm hf => by
 unfold formIs at hf
 split at hf
 case h_2 => cases hf
 rename_i x
 cases hc : in64S m.know x with
 | false => rw [hc] at hf; cases hf
 | true =>
 rw [hc] at hf
 cases hf
 refine ⟨(sem_is (w := w) (in64S_ok hm.know hc)).mono ?_, fun g hg => ?_⟩
 ·rintro e w' ⟨g1, rfl⟩
  refine ⟨g1, ?_⟩
  show _ = Ending.returned (.tuple #[.int .i64 (ev E (f1 716 x)), .bool (evB E (c715 x))])
  rw [f716 hgf, c715_ev hgf]
 ·rcases List.mem_singleton.1 hg with rfl
  have h1 := rng_ok hm.know.env hm.know.facts (f1 716 x)
  have h2 := numOf_in (ev E x)
  unfold maxValue at h2
  rw [f716 hgf] at h1
  unfold FactOk
  dsimp only
  rw [f716 hgf]
  omega
noncomputable def formIq (args : List SV) (m : Mem) : Option (SV × List Fact) := match args with
 | [.int .i64 x] => cond (isWd m.know x) (some (pairV (dm 4 x).1 (.lit true), [])) none
 | _ => none
theorem formIq_ok : SpecOk (G0 V) Try.prog 45 (pureX formIq) := pureX_ok fun F w0 E args m w v fs hgf hm hf => by
 unfold formIq at hf
 split at hf
 case h_2 => cases hf
 rename_i x
 cases hc : isWd m.know x with
 | false => rw [hc] at hf; cases hf
 | true =>
 rw [hc] at hf
 cases hf
 obtain ⟨v1, v2, v3, v4⟩ := isWd_ok hm.know hc
 have hx : in64 (ev E x) := by
  have := of_decide_eq_true (p := 0 ≤ ev E x ∧ ev E x % 4 = 0 ∧ ev E x / 4 ≤ maxValue) v1
  unfold maxValue at this
  unfold in64 lo64 hi64
  omega
 refine ⟨(sem_is (w := w) hx).mono ?_, fun g hg => (by cases hg)⟩
 rintro e w' ⟨g1, rfl⟩
 refine ⟨g1, ?_⟩
 rw [v1, v2]
 rfl
noncomputable def isX : List SV → X SV := orX (pureX formIq) (orX (guardX wdArg (fun0 45)) (pureX formIs))
theorem isX_ok : SpecOk (G0 V) Try.prog 45 isX := orX_ok formIq_ok (orX_ok (guardX_ok (fun0_ok 45)) formIs_ok)
end Go.Proofs.Ytofmndcdcchflaa
namespace Go.Proofs.Ytofmndcdcchflaa
open Go.Sx Go Go.DescNum
set_option maxRecDepth 100000
theorem row_fn {E : Env} {r : Nat} (hr : 1000000 ≤ r) {l : List Int} (hl : (l.length : Int) ≤ hi64) (h64 : ∀ z ∈ l, in64 z) (hf : ∀ xs, E.f r xs = clampZ (rowFn l xs)) : E.row r = l := by
 have h0 : E.f r [] = l.length := by
  rw [hf]
  exact clampZ_of (by unfold in64 lo64; show _ ≤ (l.length : Int) ∧ (l.length : Int) ≤ _; unfold hi64 at hl ⊢; omega)
 unfold Env.row
 rw [if_neg (by omega), if_neg (by omega), h0, Int.toNat_natCast]
 refine List.ext_getElem? fun j => ?_
 rw [List.getElem?_map]
 by_cases hj : j < l.length
 ·rw [List.getElem?_range hj, List.getElem?_eq_getElem hj]
  show some (E.f r [(j : Int)]) = _
  rw [hf]
  show some (clampZ (l.getD (j : Int).toNat 0)) = _
  rw [Int.toNat_natCast, List.getD_eq_getElem?_getD, List.getElem?_eq_getElem hj]
  show some (clampZ l[j]) = _
  rw [clampZ_of (h64 _ (List.getElem_mem hj))]
 ·rw [List.getElem?_eq_none (by simpa using hj), List.getElem?_eq_none (by omega)]
  rfl
theorem ev_minus (E : Env) (a b : IE) : ev E (minus a b) = ev E a - ev E b := by
 unfold minus
 rw [ev_add, ev_mul, ev_lit]
 omega
noncomputable def oneBx (id : Nat) (x : Fr → X (SX × Fr)) : BX := fun i => cond (Nat.beq i id) (some x) none
theorem oneBx_ok {G : Gf} {P : Program} {id : Nat} {x : Fr → X (SX × Fr)} {c b : Code} (hb : blocksOf id c = [b]) (hx : CodeOk G P b x) : BlocksOk G P (oneBx id x) c := by
 intro i sp h c' hc'
 unfold oneBx at h
 cases hi : Nat.beq i id with
 | false => rw [hi] at h; cases h
 | true =>
  rw [hi] at h
  cases h
  have hi := Nat.eq_of_beq_eq_true hi
  subst hi
  rw [hb] at hc'
  rcases List.mem_singleton.1 hc' with rfl
  exact hx
structure View (V : List Int) : Prop where
 nums : ∀ z ∈ V, in64 z
theorem getD_in {V : List Int} (h : View V) (j : Nat) : in64 (V.getD j 0) := by
 rw [List.getD_eq_getElem?_getD]
 cases hx : V[j]? with
 | none => constructor <;> decide
 | some x => exact h.nums x (List.mem_of_getElem? hx)
theorem smallU {z : Int} (h0 : 0 ≤ z) (h1 : z ≤ 1000000) : clampZ z = z := clampZ_of (by unfold in64 lo64 hi64; omega)
section
variable {V : List Int} (h : View V) {E : Env} (hE : E.f = G0 V)
include h hE
theorem rowE : E.row 1000003 = entsL V (knowns V 16) := row_fn (by omega) (by
 have := cnt_le (V := V) 16
 rw [entsL_len]
 unfold cnt at this
 unfold hi64
 omega) (fun z hz => by
 obtain ⟨i, hi, hz⟩ := List.mem_flatMap.1 hz
 simp only [List.mem_cons, List.not_mem_nil, or_false] at hz
 rcases hz with rfl | rfl | rfl
 ·unfold knowns at hi
  have := List.mem_range.1 (List.mem_filter.1 hi).1
  unfold in64 lo64 hi64
  omega
 ·exact getD_in h _
 ·exact getD_in h _) (fun xs => by rw [hE]; rfl)
theorem rowWas : E.row 1000004 = wasL V := row_fn (by omega) (by unfold wasL hi64; simp) (fun z hz => by
 obtain ⟨i, _, rfl⟩ := List.mem_map.1 hz
 exact getD_in h _) (fun xs => by rw [hE]; rfl)
theorem rowNow : E.row 1000005 = nowL V := row_fn (by omega) (by unfold nowL hi64; simp) (fun z hz => by
 obtain ⟨i, _, rfl⟩ := List.mem_map.1 hz
 exact getD_in h _) (fun xs => by rw [hE]; rfl)
omit h in
theorem ev1101 (i : Nat) (hi : i ≤ 16) : ev E (g1 1101 (.lit i)) = cnt V i := by
 have h1 := cnt_le (V := V) i
 unfold g1
 rw [ev_app, evA_arg, evA_no, hE, ev_lit]
 have e : fz V 1101 [(i : Int)] = cnt V i := by
  show ((cnt V ((i : Int)).toNat : Nat) : Int) = _
  rw [Int.toNat_natCast]
 show clampZ (fz V 1101 [(i : Int)]) = _
 rw [e]
 exact smallU (by omega) (by omega)
omit h in
theorem ev1106 : ev E (g0 1106) = cnt V 16 := by
 have h1 := cnt_le (V := V) 16
 unfold g0
 rw [ev_app, evA_no, hE]
 show clampZ (cnt V 16 : Int) = _
 exact smallU (by omega) (by omega)
omit h in
theorem ev1110 (i : Nat) : ev E (g1 1110 (.lit i)) = if known V i then 1 else 0 := by
 unfold g1
 rw [ev_app, evA_arg, evA_no, hE, ev_lit]
 have e : fz V 1110 [(i : Int)] = if known V i then 1 else 0 := by
  show (if known V ((i : Int)).toNat then (1 : Int) else 0) = _
  rw [Int.toNat_natCast]
 show clampZ (fz V 1110 [(i : Int)]) = _
 rw [e]
 split <;> exact smallU (by decide) (by decide)
end
noncomputable def kB (i : Nat) : BE := .eq (g1 1110 (.lit i)) (.lit 1)
theorem kB_ev {V : List Int} {E : Env} (hE : E.f = G0 V) (i : Nat) : evB E (kB i) = known V i := by
 show decide (ev E (g1 1110 (.lit i)) = 1) = _
 rw [ev1110 hE]
 cases known V i <;> rfl
noncomputable def viewC : SV := (List.range 16).foldr (fun i r => .cons (.bool (kB i)) r) (.cons (.arr .i64 1000004 (.lit 16) .nil) (.cons (.arr .i64 1000005 (.lit 16) .nil) .nil))
noncomputable def flagsC : SV := (List.range 16).foldr (fun i r => .cons (.bool (kB i)) r) .nil
noncomputable def leaf (ls : List (SV × Mem)) (q : SV × Mem) : Bool := anyS (fun l => !l.1.isNil && fits 1 [l.1] l.2 [q.1] q.2) ls
end Go.Proofs.Ytofmndcdcchflaa
