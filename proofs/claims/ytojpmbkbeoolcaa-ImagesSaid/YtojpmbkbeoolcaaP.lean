/- an operation upon a state, the operation open, too: its quantities by unknown functions. -/
import Derived.Test.YtojpmbkbeoolcaaT
namespace Go.Proofs.Ytojpmbkbeoolcaa
open Go.Sx Go
set_option maxRecDepth 100000
abbrev opVal (k a b x : Int) : Value := .agg #[.int .i64 k, .int .i64 a, .int .i64 b, .int .i64 x]
noncomputable def mkArgs : List IE → IE
 | [] => .noarg
 | e :: r => .arg e (mkArgs r)
theorem mkArgs_ev (E : Env) : ∀ l : List IE, evA E (mkArgs l) = l.map (ev E)
 | [] => rfl
 | e :: r => by
  show evA E (.arg e (mkArgs r)) = _
  rw [evA_arg, mkArgs_ev E r]; rfl
noncomputable def opOf : SV → Option (IE × IE × IE × IE)
 | .agg (.cons (.int k1 a) (.cons (.int k2 b) (.cons (.int k3 c) (.cons (.int k4 d) .nil)))) => cond (Nat.beq (kindNo k1) (kindNo .i64) && Nat.beq (kindNo k2) (kindNo .i64) && Nat.beq (kindNo k3) (kindNo .i64) && Nat.beq (kindNo k4) (kindNo .i64)) (some (a, b, c, d)) none
 | _ => none
theorem opOf_ok (E : Env) {v : SV} {a b c d : IE} (h : opOf v = some (a, b, c, d)) : dv E v = opVal (ev E a) (ev E b) (ev E c) (ev E d) := by
 unfold opOf at h
 split at h
 ·rename_i k1 a' k2 b' k3 c' k4 d'
  cases hc : (Nat.beq (kindNo k1) (kindNo .i64) && Nat.beq (kindNo k2) (kindNo .i64) && Nat.beq (kindNo k3) (kindNo .i64) && Nat.beq (kindNo k4) (kindNo .i64)) with
  | false => rw [hc] at h; cases h
  | true =>
   rw [hc] at h
   cases h
   simp only [Bool.and_eq_true] at hc
   obtain ⟨⟨⟨h1, h2⟩, h3⟩, h4⟩ := hc
   have h1 := kindNo_eq h1
   have h2 := kindNo_eq h2
   have h3 := kindNo_eq h3
   have h4 := kindNo_eq h4
   subst h1 h2 h3 h4
   rfl
 ·cases h
noncomputable def litArgs : IE → Option (List Int)
 | .noarg => some []
 | .arg (.lit z) r => match litArgs r with
  | some l => some (z :: l)
  | none => none
 | _ => none
theorem litArgs_ok (E : Env) : ∀ {A : IE} {xs : List Int}, litArgs A = some xs → evA E A = xs
 | .noarg, xs, h => by cases h; rfl
 | .arg (.lit z) r, xs, h => by
  unfold litArgs at h
  split at h
  ·rename_i l hl
   cases h
   rw [evA_arg, litArgs_ok E hl]
   rfl
  ·cases h
noncomputable def appV (f : Nat) (A : IE) : IE := match litArgs A with
 | some xs => .lit (G0 f xs)
 | none => .app f A
theorem appV_ok {E : Env} (hE : E.f = G0) (f : Nat) (A : IE) : ev E (appV f A) = ev E (.app f A) := by
 unfold appV
 split
 ·rename_i xs h
  rw [ev_app, litArgs_ok E h, hE]
  rfl
 ·rfl
noncomputable def mayK (kn : Know) (k a b x : IE) : Bool := (hasB (.eq (.app 230 (mkArgs [k, a, b, x])) (.lit 1)) kn.conds || hasB (.eq (.lit 1) (.app 230 (mkArgs [k, a, b, x]))) kn.conds) || (match k, a, b, x with
 | .lit k, .lit a, .lit b, .lit x => decide (mayZ k a b x = 1)
 | _, _, _, _ => false)
theorem mayK_ok {E : Env} {kn : Know} (hE : E.f = G0) (hk : KnowOk E kn) {k a b x : IE} (h : mayK kn k a b x = true) : mayZ (ev E k) (ev E a) (ev E b) (ev E x) = 1 := by
 unfold mayK at h
 rw [Bool.or_eq_true, Bool.or_eq_true] at h
 rcases h with (h | h) | h
 ·have := hk.conds _ (hasB_ok h)
  have : ev E (.app 230 (mkArgs [k, a, b, x])) = 1 := of_decide_eq_true this
  rw [ev_app, mkArgs_ev, hE] at this
  exact this
 ·have := hk.conds _ (hasB_ok h)
  have : 1 = ev E (.app 230 (mkArgs [k, a, b, x])) := of_decide_eq_true this
  have := this.symm
  rw [ev_app, mkArgs_ev, hE] at this
  exact this
 ·split at h
  ·exact of_decide_eq_true h
  ·cases h
noncomputable def nameOf (cs : List BE) (a : IE) : IE := match defOf a cs with
 | some j => .var j
 | none => a
theorem nameOf_ok {E : Env} : ∀ {cs : List BE}, (∀ c ∈ cs, evB E c = true) → ∀ a : IE, ev E (nameOf cs a) = ev E a
 | [], _, _ => rfl
 | c :: r, hc, a => by
  have ih := nameOf_ok (cs := r) (fun c h => hc c (List.mem_cons_of_mem _ h)) a
  unfold nameOf at ih ⊢
  unfold defOf
  split
  ·rename_i j hj
   split at hj
   ·rename_i j' t
    cases ht : ieEq t a with
    | false =>
     rw [ht] at hj
     replace hj : defOf a r = some j := hj
     rw [hj] at ih
     exact ih
    | true =>
     rw [ht] at hj
     cases hj
     have h1 : ev E (.var j) = ev E t := of_decide_eq_true (hc _ List.mem_cons_self)
     rw [h1, ieEq_ok ht]
   ·rw [hj] at ih
    exact ih
  ·rfl
theorem outVal_congr {q q' : Nat → Int} (h : ∀ i, i < 11 → q i = q' i) : outVal q = outVal q' := by
 unfold outVal
 rw [List.map_congr_left (f := fun j => q (2 + j)) (g := fun j => q' (2 + j)) (fun j hj => h _ (by have := List.mem_range.1 hj; omega)), List.map_congr_left (f := fun j => decide (q (6 + j) = 1)) (g := fun j => decide (q' (6 + j) = 1)) (fun j hj => by rw [h _ (by have := List.mem_range.1 hj; omega)]), h 0 (by omega), h 1 (by omega)]
def b2i (c : Bool) : Int := if c then 1 else 0
theorem b2i_dec (c : Bool) : decide (b2i c = 1) = c := by cases c <;> rfl
theorem b2i_in (c : Bool) : in64 (b2i c) := by cases c <;> (constructor <;> decide)
abbrev xsOf (b0 b1 b2 b3 : Int) (i0 i1 i2 i3 i4 : Bool) (k a b x : Int) : List Int := [b0, b1, b2, b3, b2i i0, b2i i1, b2i i2, b2i i3, b2i i4, k, a, b, x]
def balIn (z : Int) : Prop := -1 ≤ z ∧ z ≤ 1048575
def SemT (f : Nat) (k a b x : Int) : Prop := ∀ (b0 b1 b2 b3 : Int) (i0 i1 i2 i3 i4 : Bool), balIn b0 → balIn b1 → balIn b2 → balIn b3 → ∀ w : World,
 Calls Try.prog f #[stVals [b0, b1, b2, b3] [i0, i1, i2, i3, i4], opVal k a b x] w fun e w' => Ext (fun _ => False) w w' ∧ e = .returned (outVal fun i => ev (envT (xsOf b0 b1 b2 b3 i0 i1 i2 i3 i4 k a b x)) (quant i k a b))
noncomputable def envW (w : World) (xs : List Int) : Env := { envT xs with base := fun _ => w.heap.size }
theorem ev_W (w : World) (xs : List Int) (e : IE) : ev (envW w xs) e = ev (envT xs) e := by
 unfold ev
 rw [evp_same (E := envW w xs) (E' := envT xs) rfl rfl rfl rfl]
theorem envT_ok {xs : List Int} (h : ∀ z ∈ xs, in64 z) : (envT xs).Ok := by
 refine ⟨fun j => ?_, fun r z hz => ?_, fun _ _ => (by show in64 0; constructor <;> decide)⟩
 ·show in64 (if j = 9 then xs.getD 12 0 else 0)
  split
  ·rw [List.getD_eq_getElem?_getD]
   cases hq : xs[12]? with
   | none => constructor <;> decide
   | some z => exact h z (List.mem_of_getElem? hq)
  ·constructor <;> decide
 ·replace hz : z ∈ (if r = 1 then xs else []) := hz
  split at hz
  ·exact h z hz
  ·cases hz
theorem balIn_64 {z : Int} (h : balIn z) : in64 z := by unfold balIn at h; unfold in64 lo64 hi64; omega
theorem three_all {E : Env} {i : Int} (h : balIn (ev E (bE i))) : ∃ fs ∈ three i, ∀ f ∈ fs, FactOk E f := by
 unfold balIn at h
 have one : ∀ {lo hi : Int}, lo ≤ ev E (bE i) → ev E (bE i) ≤ hi → ∀ f ∈ [((bE i, lo, hi) : Fact)], FactOk E f := fun h1 h2 f hf => by
  rcases List.mem_singleton.1 hf with rfl
  exact ⟨h1, h2⟩
 rcases (by omega : ev E (bE i) = -1 ∨ ev E (bE i) = 0 ∨ 1 ≤ ev E (bE i)) with h1 | h1 | h1
 ·exact ⟨_, List.mem_of_getElem? (i := 0) rfl, one (by omega) (by omega)⟩
 ·exact ⟨_, List.mem_of_getElem? (i := 1) rfl, one (by omega) (by omega)⟩
 ·exact ⟨_, List.mem_of_getElem? (i := 2) rfl, one (by omega) (by omega)⟩
theorem casesT_all {E : Env} (k : Int) (h : ∀ i ∈ [(0 : Int), 1, 2, 3], balIn (ev E (bE i))) : ∃ fs ∈ casesT k, ∀ f ∈ fs, FactOk E f := by
 unfold casesT
 split
 ·obtain ⟨f0, m0, h0⟩ := three_all (h 0 (by simp))
  obtain ⟨f1, m1, h1⟩ := three_all (h 1 (by simp))
  obtain ⟨f2, m2, h2⟩ := three_all (h 2 (by simp))
  obtain ⟨f3, m3, h3⟩ := three_all (h 3 (by simp))
  refine ⟨f0 ++ (f1 ++ (f2 ++ f3)), List.mem_flatMap.2 ⟨f0, m0, List.mem_flatMap.2 ⟨f1, m1, List.mem_flatMap.2 ⟨f2, m2, List.mem_map.2 ⟨f3, m3, rfl⟩⟩⟩⟩, fun f hf => ?_⟩
  simp only [List.mem_append] at hf
  rcases hf with hf | hf | hf | hf
  ·exact h0 f hf
  ·exact h1 f hf
  ·exact h2 f hf
  ·exact h3 f hf
 ·exact ⟨[], List.mem_singleton_self _, fun _ h => (by cases h)⟩
noncomputable def chkQ (k a b : Int) : Bool := (List.range 11).all (fun i => (quant i k a b).nm 41) && inI 0 4 (quant 0 k a b) ⟨(.var 9, 0, limX k) :: rngB 1, []⟩ && inI 0 4194300 (quant 1 k a b) ⟨(.var 9, 0, limX k) :: rngB 1, []⟩ &&
 (List.range 4).all (fun i => inI (-1) 1048575 (quant (2 + i) k a b) ⟨(.var 9, 0, limX k) :: rngB 1, []⟩)
theorem chkQ_all : (combos.all fun p => chkQ p.1 p.2.1 p.2.2) = true := by kernel_rfl
theorem chkQ_of {k a b x : Int} (h : mayZ k a b x = 1) : chkQ k a b = true := List.all_eq_true.1 chkQ_all _ (combo_mem h)
section
variable {b0 b1 b2 b3 : Int} {i0 i1 i2 i3 i4 : Bool} {k a b x : Int}
theorem xs_in (h0 : balIn b0) (h1 : balIn b1) (h2 : balIn b2) (h3 : balIn b3) (hm : mayZ k a b x = 1) : ∀ z ∈ xsOf b0 b1 b2 b3 i0 i1 i2 i3 i4 k a b x, in64 z := by
 have hc := combo_mem hm
 have hx := may_x hm
 have hx : in64 x := by unfold limX at hx; unfold in64 lo64 hi64; split at hx <;> (try split at hx) <;> omega
 have hk : ∀ p ∈ combos, (lo64 ≤ p.1 ∧ p.1 ≤ hi64) ∧ (lo64 ≤ p.2.1 ∧ p.2.1 ≤ hi64) ∧ (lo64 ≤ p.2.2 ∧ p.2.2 ≤ hi64) := by
  have e : (combos.all fun p => decide ((lo64 ≤ p.1 ∧ p.1 ≤ hi64) ∧ (lo64 ≤ p.2.1 ∧ p.2.1 ≤ hi64) ∧ (lo64 ≤ p.2.2 ∧ p.2.2 ≤ hi64))) = true := by kernel_rfl
  intro p hp
  have := List.all_eq_true.1 e p hp
  exact of_decide_eq_true this
 obtain ⟨hk, ha, hb⟩ := hk _ hc
 intro z hz
 simp only [xsOf, List.mem_cons, List.not_mem_nil, or_false] at hz
 rcases hz with rfl | rfl | rfl | rfl | rfl | rfl | rfl | rfl | rfl | rfl | rfl | rfl | rfl
 all_goals first | exact balIn_64 ‹_› | exact b2i_in _ | assumption
theorem facts_T (h0 : balIn b0) (h1 : balIn b1) (h2 : balIn b2) (h3 : balIn b3) (hm : mayZ k a b x = 1) {E : Env} (hE : ∀ e, ev E e = ev (envT (xsOf b0 b1 b2 b3 i0 i1 i2 i3 i4 k a b x)) e) : ∀ f ∈ ((.var 9, 0, limX k) :: rngB 1 : List Fact), FactOk E f := by
 intro f hf
 have hx := may_x hm
 unfold rngB at hf
 simp only [List.mem_cons, List.not_mem_nil, or_false] at hf
 unfold FactOk
 rw [hE]
 rcases hf with rfl | rfl | rfl | rfl | rfl
 ·exact hx
 ·exact h0
 ·exact h1
 ·exact h2
 ·exact h3
theorem quant_in (h0 : balIn b0) (h1 : balIn b1) (h2 : balIn b2) (h3 : balIn b3) (hm : mayZ k a b x = 1) :
  (0 ≤ ev (envT (xsOf b0 b1 b2 b3 i0 i1 i2 i3 i4 k a b x)) (quant 0 k a b) ∧ ev (envT (xsOf b0 b1 b2 b3 i0 i1 i2 i3 i4 k a b x)) (quant 0 k a b) ≤ 4) ∧
  (0 ≤ ev (envT (xsOf b0 b1 b2 b3 i0 i1 i2 i3 i4 k a b x)) (quant 1 k a b) ∧ ev (envT (xsOf b0 b1 b2 b3 i0 i1 i2 i3 i4 k a b x)) (quant 1 k a b) ≤ 4194300) ∧
  ∀ i, i < 4 → balIn (ev (envT (xsOf b0 b1 b2 b3 i0 i1 i2 i3 i4 k a b x)) (quant (2 + i) k a b)) := by
 have hq := chkQ_of hm
 unfold chkQ at hq
 simp only [Bool.and_eq_true, List.all_eq_true, List.mem_range] at hq
 obtain ⟨⟨⟨_, q1⟩, q2⟩, q3⟩ := hq
 have hk : KnowOk (envT (xsOf b0 b1 b2 b3 i0 i1 i2 i3 i4 k a b x)) ⟨(.var 9, 0, limX k) :: rngB 1, []⟩ := ⟨envT_ok (xs_in h0 h1 h2 h3 hm), facts_T h0 h1 h2 h3 hm fun _ => rfl, fun _ h => (by cases h)⟩
 exact ⟨inI_ok _ _ hk q1, inI_ok _ _ hk q2, fun i hi => inI_ok _ _ hk (q3 i hi)⟩
theorem semT {f : Nat} {s : List SV → X SV} (hs : SpecOk Gz Try.prog f s) (hm : mayZ k a b x = 1) (hr : chkR s k a b = true) : SemT f k a b x := by
 intro b0 b1 b2 b3 i0 i1 i2 i3 i4 h0 h1 h2 h3 w
 have hq := chkQ_of hm
 unfold chkQ at hq
 simp only [Bool.and_eq_true, List.all_eq_true, List.mem_range] at hq
 obtain ⟨⟨⟨q0, _⟩, _⟩, _⟩ := hq
 let xs := xsOf b0 b1 b2 b3 i0 i1 i2 i3 i4 k a b x
 have hE0 := envT_ok (xs_in (i0 := i0) (i1 := i1) (i2 := i2) (i3 := i3) (i4 := i4) h0 h1 h2 h3 hm)
 have hE : (envW w xs).Ok := ⟨hE0.i, hE0.l, hE0.f⟩
 obtain ⟨fs, hfs, hft⟩ := casesT_all (E := envW w xs) k (fun i hi => by
  rw [ev_W]
  simp only [List.mem_cons, List.not_mem_nil, or_false] at hi
  rcases hi with rfl | rfl | rfl | rfl
  ·exact h0
  ·exact h1
  ·exact h2
  ·exact h3)
 unfold chkR at hr
 rw [List.all_eq_true] at hr
 have hr := hr fs hfs
 unfold runT at hr
 split at hr
 case h_2 => cases hr
 rename_i outs hrun
 rw [List.all_eq_true] at hr
 have hmem : MemOk (fun _ => False) w (envW w xs) (memM k fs) w := ⟨⟨hE, fun f hf => (List.mem_append.1 hf).elim (hft f) (facts_T h0 h1 h2 h3 hm (fun e => ev_W w xs e) f), fun _ h => (by cases h)⟩, (by show w.heap.size = w.heap.size + 0; omega), fun _ h => (by cases h), List.Pairwise.nil, fun _ h => (by cases h), Ext.refl _ _, rfl⟩
 have hc := hs _ w (envW w xs) [stV 1 20, opX k a b] _ outs w rfl hrun hmem
 rw [show (([stV 1 20, opX k a b].map (dv (envW w xs))).toArray) = #[stVals [b0, b1, b2, b3] [i0, i1, i2, i3, i4], opVal k a b x] by
  show #[stVals [b0, b1, b2, b3] [decide (b2i i0 = 1), decide (b2i i1 = 1), decide (b2i i2 = 1), decide (b2i i3 = 1), decide (b2i i4 = 1)], opVal k a b x] = _
  simp only [b2i_dec]] at hc
 refine hc.mono ?_
 rintro e w' ⟨q, hq, E', hL, rfl, hm'⟩
 refine ⟨hm'.ext, ?_⟩
 have hq1 := hr q hq
 rw [wrongs_ok hm'.know, Bool.false_or] at hq1
 rw [wayT_ok hm'.know hq1]
 refine congrArg Ending.returned (outVal_congr ?_)
 have hA : ∀ i, i < 11 → ev E' (quant i k a b) = ev (envT xs) (quant i k a b) := fun i hi => by
  rw [ev_agree (n := 41) hL.agree (q0 i hi), ev_W]
 exact hA
end
noncomputable def flagT (kn : Know) : BE → Option IE
 | .var j => some (.bv j)
 | .lit b => some (.lit (cond b 1 0))
 | .eq e (.lit z) => cond (zEq z 1 && factIn kn e 0 1) (some e) none
 | _ => none
noncomputable def flagsT (kn : Know) : List BE → Option (List IE)
 | [] => some []
 | b :: r => match flagT kn b, flagsT kn r with
  | some e, some l => some (e :: l)
  | _, _ => none
theorem flagT_ok {E : Env} {kn : Know} (hk : KnowOk E kn) {b : BE} {e : IE} (h : flagT kn b = some e) : ev E e = b2i (evB E b) := by
 unfold flagT at h
 split at h
 ·cases h; rfl
 ·rename_i c
  cases h
  cases c <;> rfl
 ·rename_i e' z
  cases hc : (zEq z 1 && factIn kn e' 0 1) with
  | false => rw [hc] at h; cases h
  | true =>
   rw [hc] at h
   cases h
   rw [Bool.and_eq_true] at hc
   have h1 := zEq_ok hc.1
   have h2 := factIn_ok hk hc.2
   subst h1
   show _ = b2i (decide (ev E e = 1))
   rcases (by omega : ev E e = 0 ∨ ev E e = 1) with h | h <;> rw [h] <;> rfl
 ·cases h
theorem flagsT_ok {E : Env} {kn : Know} (hk : KnowOk E kn) : ∀ {l : List BE} {r : List IE}, flagsT kn l = some r → r.map (ev E) = l.map fun b => b2i (evB E b)
 | [], r, h => by cases h; rfl
 | b :: l, r, h => by
  unfold flagsT at h
  split at h
  ·rename_i e l' h1 h2
   cases h
   rw [List.map_cons, List.map_cons, flagsT_ok hk h2, flagT_ok hk h1]
  ·cases h
noncomputable def isOne : IE → BE
 | .lit z => .lit (zEq z 1)
 | e => .eq e (.lit 1)
theorem isOne_ok (E : Env) (e : IE) : evB E (isOne e) = decide (ev E e = 1) := by
 unfold isOne
 split
 ·rename_i z
  show zEq z 1 = _
  rw [zEq_of]
  rfl
 ·rfl
noncomputable def outT (A : IE) : SV := .tup (.cons (.agg (.cons (.arr .i64 0 (.lit 4) (.wr (.lit 0) (appV 302 A) (.wr (.lit 1) (appV 303 A) (.wr (.lit 2) (appV 304 A) (.wr (.lit 3) (appV 305 A) .nil)))))
  (.cons (.bool (isOne (appV 306 A))) (.cons (.bool (isOne (appV 307 A))) (.cons (.bool (isOne (appV 308 A))) (.cons (.bool (isOne (appV 309 A))) (.cons (.bool (isOne (appV 310 A))) .nil)))))))
 (.cons (.agg (.cons (.int .i64 (appV 300 A)) (.cons (.int .i64 (appV 301 A)) .nil))) .nil))
noncomputable def factsO (A : IE) : List Fact := [(.app 300 A, 0, 4), (.app 301 A, 0, 4194300), (.app 302 A, -1, 1048575), (.app 303 A, -1, 1048575), (.app 304 A, -1, 1048575), (.app 305 A, -1, 1048575), (.app 306 A, 0, 1), (.app 307 A, 0, 1), (.app 308 A, 0, 1), (.app 309 A, 0, 1), (.app 310 A, 0, 1)]
noncomputable def appT (klo khi : Int) : List SV → X SV := fun args m => match args with
 | [s, o] => match stOf s, opOf o with
  | some (es, l), some (k, a, b, x) => match flagsT m.know l with
   | some fI =>
    cond (mayK m.know k a b x && inR (rng m.know.facts k) klo khi && m.nm m.nv && (es.all fun e => factIn m.know e (-1) 1048575) && (IE.app 300 (mkArgs (es ++ (fI ++ [k, a, b, x])))).nm m.nv)
     (nfS (outT (mkArgs (es ++ (fI ++ [k, a, b, x])))) fun v => nfL nfFact (factsO (mkArgs (es ++ (fI ++ [k, a, b, x])))) fun fs => nfN (m.nv + 1) fun sg => nfN (m.nv + 2) fun nv => some [(v, { m with know := ⟨fs ++ m.know.facts, m.know.conds⟩, seg := sg, next := 0, nv := nv })]) none
   | none => none
  | _, _ => none
 | _ => none
theorem G0_app {i : Nat} (hi : i ≤ 5) (xs : List Int) : G0 (300 + i) xs = clampZ (tellZ i xs) := by
 unfold G0
 rw [if_neg (by omega), if_pos (by omega), Nat.add_sub_cancel_left]
theorem G0_key {i : Nat} (h1 : 6 ≤ i) (h2 : i ≤ 10) (xs : List Int) : G0 (300 + i) xs = if tellZ i xs = 1 then 1 else 0 := by
 unfold G0
 rw [if_neg (by omega), if_neg (by omega), if_pos (by omega), Nat.add_sub_cancel_left]
theorem len4 {α : Type} : ∀ {l : List α}, l.length = 4 → ∃ a b c d, l = [a, b, c, d]
 | [a, b, c, d], _ => ⟨a, b, c, d, rfl⟩
theorem len5 {α : Type} : ∀ {l : List α}, l.length = 5 → ∃ a b c d e, l = [a, b, c, d, e]
 | [a, b, c, d, e], _ => ⟨a, b, c, d, e, rfl⟩
theorem appT_ok {f : Nat} {klo khi : Int} (h : ∀ k a b x, mayZ k a b x = 1 → klo ≤ k → k ≤ khi → SemT f k a b x) : SpecOk G0 Try.prog f (appT klo khi) := by
 intro F w0 E args m outs w hgf ho hm
 unfold appT at ho
 split at ho
 case h_2 => cases ho
 rename_i s o
 split at ho
 case h_2 => cases ho
 rename_i es l k a b x hS hO
 split at ho
 case h_2 => cases ho
 rename_i fI hfI
 cases hc : (mayK m.know k a b x && inR (rng m.know.facts k) klo khi && m.nm m.nv && (es.all fun e => factIn m.know e (-1) 1048575) && (IE.app 300 (mkArgs (es ++ (fI ++ [k, a, b, x])))).nm m.nv) with
 | false => rw [hc] at ho; cases ho
 | true =>
 rw [hc] at ho
 dsimp only [cond] at ho
 rw [nfS_eq, nfL_eq (fun _ _ => nfFact_eq _ _), nfN_eq, nfN_eq] at ho
 cases ho
 simp only [Bool.and_eq_true, List.all_eq_true] at hc
 obtain ⟨⟨⟨⟨c1, c2⟩, c3⟩, c4⟩, c5⟩ := hc
 have hmay := mayK_ok hgf hm.know c1
 have hk1 : klo ≤ ev E k ∧ ev E k ≤ khi := by
  have := rng_ok hm.know.env hm.know.facts k
  unfold inR at c2
  simp only [Bool.and_eq_true, decide_eq_true_eq] at c2
  omega
 obtain ⟨l1, l2, l3⟩ := stOf_ok E hS
 obtain ⟨e0, e1, e2, e3, rfl⟩ := len4 l1
 obtain ⟨g0, g1, g2, g3, g4, rfl⟩ := len5 l2
 have hb : ∀ e ∈ [e0, e1, e2, e3], balIn (ev E e) := fun e he => factIn_ok hm.know (c4 e he)
 have h0 := hb e0 (by simp)
 have h1 := hb e1 (by simp)
 have h2 := hb e2 (by simp)
 have h3 := hb e3 (by simp)
 have sem := h _ _ _ _ hmay hk1.1 hk1.2 (ev E e0) (ev E e1) (ev E e2) (ev E e3) (evB E g0) (evB E g1) (evB E g2) (evB E g3) (evB E g4) h0 h1 h2 h3 w
 have hargs : (#[stVals [ev E e0, ev E e1, ev E e2, ev E e3] [evB E g0, evB E g1, evB E g2, evB E g3, evB E g4], opVal (ev E k) (ev E a) (ev E b) (ev E x)] : Array Value) = ([s, o].map (dv E)).toArray := by
  have : dv E s = stVals [ev E e0, ev E e1, ev E e2, ev E e3] [evB E g0, evB E g1, evB E g2, evB E g3, evB E g4] := by unfold dv; rw [l3]; rfl
  rw [← opOf_ok E hO, ← this]
  rfl
 rw [hargs] at sem
 have hxs : (([e0, e1, e2, e3] ++ (fI ++ [k, a, b, x])).map (ev E)) = xsOf (ev E e0) (ev E e1) (ev E e2) (ev E e3) (evB E g0) (evB E g1) (evB E g2) (evB E g3) (evB E g4) (ev E k) (ev E a) (ev E b) (ev E x) := by
  rw [List.map_append, List.map_append, flagsT_ok hm.know hfI]
  rfl
 obtain ⟨r0, r1, rb⟩ := quant_in (i0 := evB E g0) (i1 := evB E g1) (i2 := evB E g2) (i3 := evB E g3) (i4 := evB E g4) h0 h1 h2 h3 hmay
 generalize hA : mkArgs ([e0, e1, e2, e3] ++ (fI ++ [k, a, b, x])) = A at *
 have eA : evA E A = xsOf (ev E e0) (ev E e1) (ev E e2) (ev E e3) (evB E g0) (evB E g1) (evB E g2) (evB E g3) (evB E g4) (ev E k) (ev E a) (ev E b) (ev E x) := by rw [← hA, mkArgs_ev, hxs]
 generalize hX : xsOf (ev E e0) (ev E e1) (ev E e2) (ev E e3) (evB E g0) (evB E g1) (evB E g2) (evB E g3) (evB E g4) (ev E k) (ev E a) (ev E b) (ev E x) = xs at *
 have tz : ∀ i, tellZ i xs = ev (envT xs) (quant i (ev E k) (ev E a) (ev E b)) := fun i => by subst hX; rfl
 refine sem.mono ?_
 rintro e w' ⟨hext, rfl⟩
 let E2 := E.two m.nv 0 w'.heap.size
 have hAg : Agree m.nv E E2 := two_agree E m.nv _ _
 have hm2 : MemOk F w0 E2 { m with seg := m.nv + 1, next := 0, nv := m.nv + 2 } w' := by
  refine hm.moved c3 hAg ⟨hm.know.env.i, hm.know.env.l, hm.know.env.f⟩ hext ?_ ?_
  ·simp [E2, Env.two]
  ·simp [E2, Env.two]
 have hA2 : evA E2 A = xs := by
  rw [← eA]
  unfold evA
  rw [evp_agree hAg A (show A.nm m.nv = true from c5)]
 have ai : ∀ i, i ≤ 5 → in64 (tellZ i xs) → ev E2 (.app (300 + i) A) = tellZ i xs := fun i hi hin => by
  rw [ev_app, hA2]
  rw [show E2.f (300 + i) xs = E.f (300 + i) xs from rfl, hgf, G0_app hi]
  unfold clampZ
  exact if_pos hin
 have ak : ∀ i, 6 ≤ i → i ≤ 10 → ev E2 (.app (300 + i) A) = if tellZ i xs = 1 then 1 else 0 := fun i h1 h2 => by
  rw [ev_app, hA2]
  rw [show E2.f (300 + i) xs = E.f (300 + i) xs from rfl, hgf, G0_key h1 h2]
 have a0 := ai 0 (by omega) (by rw [tz]; unfold in64 lo64 hi64; omega)
 have a1 := ai 1 (by omega) (by rw [tz]; unfold in64 lo64 hi64; omega)
 have ab : ∀ i, i < 4 → ev E2 (.app (300 + (2 + i)) A) = tellZ (2 + i) xs := fun i hi => ai (2 + i) (by omega) (by rw [tz]; exact balIn_64 (rb i hi))
 refine ⟨_, List.mem_singleton_self _, E2, ⟨hAg, by show m.nv ≤ m.nv + 2; omega, fun h => by have : m.nv + 2 = m.nv := h; omega⟩, ?_, ⟨hm2.know.env, fun y hy => ?_, hm2.know.conds⟩, hm2.size, hm2.ents, hm2.apart, hm2.mine, hm2.ext, hm2.seg0⟩
 ·congr 1
  show outVal _ = Value.tuple #[.agg #[.int .i64 (ev E2 (appV 302 A)), .int .i64 (ev E2 (appV 303 A)), .int .i64 (ev E2 (appV 304 A)), .int .i64 (ev E2 (appV 305 A)), .bool (evB E2 (isOne (appV 306 A))), .bool (evB E2 (isOne (appV 307 A))), .bool (evB E2 (isOne (appV 308 A))), .bool (evB E2 (isOne (appV 309 A))), .bool (evB E2 (isOne (appV 310 A)))], .agg #[.int .i64 (ev E2 (appV 300 A)), .int .i64 (ev E2 (appV 301 A))]]
  have d : ∀ i, 6 ≤ i → i ≤ 10 → evB E2 (isOne (appV (300 + i) A)) = decide (ev (envT xs) (quant i (ev E k) (ev E a) (ev E b)) = 1) := fun i h1 h2 => by
   rw [isOne_ok, appV_ok (E := E2) hgf, ak i h1 h2, tz]
   by_cases hq : ev (envT xs) (quant i (ev E k) (ev E a) (ev E b)) = 1
   ·rw [if_pos hq, hq]
   ·rw [if_neg hq]
    exact (decide_eq_false hq).symm
  rw [d 6 (by omega) (by omega), d 7 (by omega) (by omega), d 8 (by omega) (by omega), d 9 (by omega) (by omega), d 10 (by omega) (by omega)]
  simp only [appV_ok (E := E2) hgf]
  rw [a0, a1, ab 0 (by omega), ab 1 (by omega), ab 2 (by omega), ab 3 (by omega)]
  simp only [tz]
  rfl
 ·rcases List.mem_append.1 hy with hy | hy
  ·unfold factsO at hy
   have rk : ∀ i, 6 ≤ i → i ≤ 10 → 0 ≤ ev E2 (.app (300 + i) A) ∧ ev E2 (.app (300 + i) A) ≤ 1 := fun i h1 h2 => by
    rw [ak i h1 h2]
    split <;> omega
   have rn : ∀ i, i < 4 → -1 ≤ ev E2 (.app (300 + (2 + i)) A) ∧ ev E2 (.app (300 + (2 + i)) A) ≤ 1048575 := fun i hi => by
    rw [ab i hi, tz]
    exact rb i hi
   simp only [List.mem_cons, List.not_mem_nil, or_false] at hy
   unfold FactOk
   rcases hy with rfl | rfl | rfl | rfl | rfl | rfl | rfl | rfl | rfl | rfl | rfl
   ·rw [a0, tz]; exact r0
   ·rw [a1, tz]; exact r1
   ·exact rn 0 (by omega)
   ·exact rn 1 (by omega)
   ·exact rn 2 (by omega)
   ·exact rn 3 (by omega)
   ·exact rk 6 (by omega) (by omega)
   ·exact rk 7 (by omega) (by omega)
   ·exact rk 8 (by omega) (by omega)
   ·exact rk 9 (by omega) (by omega)
   ·exact rk 10 (by omega) (by omega)
  ·exact hm2.know.facts y hy
end Go.Proofs.Ytojpmbkbeoolcaa
