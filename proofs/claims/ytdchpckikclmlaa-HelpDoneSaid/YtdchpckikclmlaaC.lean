/- words of values, words of references: contracts. -/
import Derived.Test.YtdchpckikclmlaaA
namespace Go.Proofs.Ytdchpckikclmlaa
open Go.Sx Go
set_option maxRecDepth 100000
variable {G : Gf}
theorem sem_nums {f : Nat} {s : List SV → X SV} (hs : SpecOk G Try.prog f s) {args : List SV} {fs : List Fact} {chk : SV × Mem → Bool} (hrun : allOf (s args (slMem [] fs 60)) chk = true)
  {E : Env} (hE : E.Ok) (hgf : E.f = G) {w : World} (hb : E.base 0 = w.heap.size) (ho : E.o 0 = 0) (hf : ∀ f ∈ fs, FactOk E f) :
  Calls Try.prog f (args.map (dv E)).toArray w fun e w' => ∃ q, chk q = true ∧ ∃ E', Agree 60 E E' ∧ e = .returned (dv E' q.1) ∧ MemOk (fun _ => False) w E' q.2 w' := by
 obtain ⟨outs, ho', hall⟩ := allOf_ok hrun
 refine (run_ro hs ho' hgf hE hb ho (fun _ h => (by cases h)) hf).mono ?_
 rintro e w' ⟨q, hq, E', h1, h2, h3⟩
 exact ⟨q, hall q hq, E', h1, h2, h3⟩
noncomputable def envN (w : World) (x y : Int) : Env := { i := fun j => if j = 1 then x else if j = 2 then y else 0, b := fun _ => false, l := fun _ => [], base := fun _ => w.heap.size, o := fun _ => 0, v := fun _ => .tuple #[], f := G0 }
theorem envN_ok {w : World} {x y : Int} (hx : in64 x) (hy : in64 y) : (envN w x y).Ok := by
 refine ⟨fun j => ?_, fun _ _ h => (by cases h), G0_in⟩
 show in64 (if j = 1 then x else if j = 2 then y else 0)
 split
 ·exact hx
 ·split
  ·exact hy
  ·constructor <;> decide
noncomputable def maxV : Int := 1099511627775
noncomputable def isWd (kn : Know) (x : IE) : Bool := match dm 4 x with
 | (q, r) => ieEq r (.lit 0) && factIn kn q 0 1099511627775
noncomputable def pairV (e : IE) (c : BE) : SV := .tup (.cons (.int .i64 e) (.cons (.bool c) .nil))
noncomputable def chkGet (q : SV × Mem) : Bool := match q.1 with
 | .tup (.cons (.int .i64 e) (.cons (.bool (.lit true)) .nil)) => sameK q.2.know e (.var 1)
 | _ => false
theorem get_run : allOf (fun0 99 [.int .i64 (.mul (.var 1) (.lit 4)), vi 2] (slMem [] [(.var 1, 0, 1099511627775), (.var 2, 0, 1099511627775), (.sub (.var 2) (.var 1), 0, 1099511627775)] 60)) chkGet = true := by kernel_rfl
theorem sem_get {x y : Int} {w : World} (h0 : 0 ≤ x) (h1 : x ≤ y) (h2 : y ≤ 1099511627775) :
  Calls Try.prog 99 #[.int .i64 (4 * x), .int .i64 y] w fun e w' => Ext (fun _ => False) w w' ∧ e = .returned (.tuple #[.int .i64 x, .bool true]) := by
 have call := sem_nums (fun0_ok 99) get_run (E := envN w x y) (envN_ok (by unfold in64 lo64 hi64; omega) (by unfold in64 lo64 hi64; omega)) rfl (w := w) rfl rfl (fun f hf => by
  simp only [List.mem_cons, List.not_mem_nil, or_false] at hf
  rcases hf with rfl | rfl | rfl
  ·show 0 ≤ x ∧ x ≤ 1099511627775
   omega
  ·show 0 ≤ y ∧ y ≤ 1099511627775
   omega
  ·show 0 ≤ y - x ∧ y - x ≤ 1099511627775
   omega)
 have ha : (([.int .i64 (.mul (.var 1) (.lit 4)), vi 2] : List SV).map (dv (envN w x y))).toArray = #[.int .i64 (4 * x), .int .i64 y] := by
  show #[Value.int .i64 (x * 4), Value.int .i64 y] = _
  rw [Int.mul_comm]
 rw [ha] at call
 refine call.mono ?_
 rintro e w' ⟨q, hq, E', hA, rfl, hm⟩
 refine ⟨hm.ext, congrArg Ending.returned ?_⟩
 unfold chkGet at hq
 split at hq
 ·rename_i e he
  have hq := sameK_ok hm.know hq
  rw [he]
  show Value.tuple #[.int .i64 (ev E' e), .bool true] = _
  rw [hq, show ev E' (.var 1) = x from hA.i 1 (by omega)]
 ·cases hq
noncomputable def formGq (args : List SV) (m : Mem) : Option (SV × List Fact) := match args with
 | [.int .i64 x, .int .i64 (.lit (.ofNat y))] => cond (isWd m.know x && decide ((Int.ofNat y) ≤ 1099511627775)) (cond (factIn m.know (dm 4 x).1 0 (.ofNat y)) (some (pairV (dm 4 x).1 (.lit true), [])) none) none
 | _ => none
theorem formGq_ok : SpecOk G Try.prog 99 (pureX formGq) := pureX_ok fun F w0 E args m w v fs hgf hm hf => by
 unfold formGq at hf
 split at hf
 case h_2 => cases hf
 rename_i x y
 cases hc : (isWd m.know x && decide ((Int.ofNat y) ≤ 1099511627775)) with
 | false => rw [hc] at hf; cases hf
 | true =>
 rw [hc] at hf
 dsimp only [cond] at hf
 cases h1 : factIn m.know (dm 4 x).1 0 (.ofNat y) with
 | false => rw [h1] at hf; cases hf
 | true =>
 rw [h1] at hf
 cases hf
 rw [Bool.and_eq_true, decide_eq_true_eq] at hc
 obtain ⟨c1, c2⟩ := hc
 unfold isWd at c1
 have hd := dm_ok E 4 x
 generalize dm 4 x = qr at c1 hd h1 ⊢
 obtain ⟨q, r⟩ := qr
 dsimp only at c1 hd h1 ⊢
 rw [Bool.and_eq_true] at c1
 have r0 := ieEq_ok c1.1
 have h1 := factIn_ok hm.know h1
 have e : ev E x = 4 * ev E q := by
  rw [hd, r0]
  show _ + (0 : Int) = _
  omega
 refine ⟨?_, fun g hg => (by cases hg)⟩
 show Calls Try.prog 99 #[.int .i64 (ev E x), .int .i64 (Int.ofNat y)] w _
 rw [e]
 exact (sem_get (w := w) h1.1 h1.2 c2).mono fun e w' h => h
noncomputable def getX : List SV → X SV := orX (pureX formGq) (fun0 99)
theorem getX_ok : SpecOk G Try.prog 99 getX := orX_ok formGq_ok (fun0_ok 99)
noncomputable def chkMul (k : Int) (q : SV × Mem) : Bool := match q.1 with
 | .int .i64 e => sameK q.2.know e (.mul (.var 1) (.lit k))
 | _ => false
theorem put_run : allOf (fun0 46 [vi 1] (slMem [] [(.var 1, 0, 1099511627775)] 60)) (chkMul 4) = true := by kernel_rfl
theorem val_run : allOf (fun0 43 [vi 1] (slMem [] [(.var 1, 0, 1099511627775)] 60)) (chkMul 4) = true := by kernel_rfl
noncomputable def formVal (args : List SV) (m : Mem) : Option (SV × List Fact) := match args with
 | [.int .i64 x] => cond (factIn m.know x 0 1099511627775) (some (.int .i64 (mkMul x (.lit 4)), [])) none
 | _ => none
theorem formVal_ok {f : Nat} (hrun : allOf (fun0 f [vi 1] (slMem [] [(.var 1, 0, 1099511627775)] 60)) (chkMul 4) = true) : SpecOk G Try.prog f (pureX formVal) := pureX_ok fun F w0 E args m w v fs hgf hm hf => by
 unfold formVal at hf
 split at hf
 case h_2 => cases hf
 rename_i x
 cases hc : factIn m.know x 0 1099511627775 with
 | false => rw [hc] at hf; cases hf
 | true =>
 rw [hc] at hf
 cases hf
 have hx := factIn_ok hm.know hc
 refine ⟨?_, fun _ h => (by cases h)⟩
 refine (sem_nums (fun0_ok f) hrun (E := envN w (ev E x) 0) (envN_ok (by unfold in64 lo64 hi64; omega) (by constructor <;> decide)) rfl rfl rfl (fun f hf => by
  rcases List.mem_singleton.1 hf with rfl
  exact hx)).mono ?_
 rintro e w' ⟨q, hq, E', hA, rfl, hm'⟩
 refine ⟨hm'.ext, congrArg Ending.returned ?_⟩
 unfold chkMul at hq
 split at hq
 ·rename_i e he
  have hq := sameK_ok hm'.know hq
  rw [he]
  show Value.int .i64 (ev E' e) = .int .i64 (ev E (mkMul x (.lit 4)))
  rw [hq, ev_mul, ev_lit, mkMul_ok, ev_lit, show ev E' (.var 1) = ev E x from hA.i 1 (by omega)]
 ·cases hq
theorem sw_run : allOf (fun0 42 [vi 1, .int .i64 (.lit 0)] (slMem [] [(.var 1, 0, 65535)] 60)) (chkMul 16) = true := by kernel_rfl
noncomputable def formSw (args : List SV) (m : Mem) : Option (SV × List Fact) := match args with
 | [.int .i64 x, .int .i64 (.lit (.ofNat 0))] => cond (factIn m.know x 0 65535) (some (.int .i64 (mkMul x (.lit 16)), [])) none
 | _ => none
theorem formSw_ok : SpecOk G Try.prog 42 (pureX formSw) := pureX_ok fun F w0 E args m w v fs hgf hm hf => by
 unfold formSw at hf
 split at hf
 case h_2 => cases hf
 rename_i x
 cases hc : factIn m.know x 0 65535 with
 | false => rw [hc] at hf; cases hf
 | true =>
 rw [hc] at hf
 cases hf
 have hx := factIn_ok hm.know hc
 refine ⟨?_, fun _ h => (by cases h)⟩
 refine (sem_nums (fun0_ok 42) sw_run (E := envN w (ev E x) 0) (envN_ok (by unfold in64 lo64 hi64; omega) (by constructor <;> decide)) rfl rfl rfl (fun f hf => by
  rcases List.mem_singleton.1 hf with rfl
  exact hx)).mono ?_
 rintro e w' ⟨q, hq, E', hA, rfl, hm'⟩
 refine ⟨hm'.ext, congrArg Ending.returned ?_⟩
 unfold chkMul at hq
 split at hq
 ·rename_i e he
  have hq := sameK_ok hm'.know hq
  rw [he]
  show Value.int .i64 (ev E' e) = .int .i64 (ev E (mkMul x (.lit 16)))
  rw [hq, ev_mul, ev_lit, mkMul_ok, ev_lit, show ev E' (.var 1) = ev E x from hA.i 1 (by omega)]
 ·cases hq
noncomputable def putX : List SV → X SV := orX (pureX formVal) (fun0 46)
theorem putX_ok : SpecOk G Try.prog 46 putX := orX_ok (formVal_ok put_run) (fun0_ok 46)
noncomputable def valX : List SV → X SV := orX (pureX formVal) (fun0 43)
theorem valX_ok : SpecOk G Try.prog 43 valX := orX_ok (formVal_ok val_run) (fun0_ok 43)
noncomputable def swX : List SV → X SV := orX (pureX formSw) (fun0 42)
theorem swX_ok : SpecOk G Try.prog 42 swX := orX_ok formSw_ok (fun0_ok 42)
noncomputable def wordV (k : Int) (s g e t q : IE) : SV := .agg (.cons (.int .i64 (.lit k)) (.cons (.int .i64 (.lit 0)) (.cons (.int .i64 s) (.cons (.int .i64 g) (.cons (.int .i64 e) (.cons (.int .i64 t) (.cons (.int .i64 q) .nil)))))))
noncomputable def facW : List Fact := [(.var 1, 0, 11), (.var 2, 0, 65535), (.var 3, 0, 15), (.var 4, 0, 3), (.var 5, 0, 1048575)]
noncomputable def mineE (s g : IE) : IE := .add (.mul (.add s (.mul g (.lit 16))) (.lit 4)) (.lit 2)
noncomputable def refE (s g e t q : IE) : IE := .add (.mul (.add (.mul (.add (.mul (.add (.mul (.add s (.mul g (.lit 16))) (.lit 16)) e) (.lit 4)) t) (.lit 1048576)) q) (.lit 4)) (.lit 1)
noncomputable def wM : Sx.Form := { args := [wordV 2 (.var 1) (.var 2) (.lit 0) (.lit 0) (.lit 0)], mem := slMem [] facW 60, val := .tup (.cons (.int .i64 (mineE (.var 1) (.var 2))) (.cons (.int .i64 (.lit 0)) .nil)), out := [], n := 9 }
noncomputable def wE : Sx.Form := { args := [wordV 1 (.var 1) (.var 2) (.var 3) (.var 4) (.var 5)], mem := slMem [] facW 60, val := .tup (.cons (.int .i64 (refE (.var 1) (.var 2) (.var 3) (.var 4) (.var 5))) (.cons (.int .i64 (.lit 0)) .nil)), out := [], n := 12 }
theorem wM_run : formRun (fun0 49) wM = true := by kernel_rfl
theorem wE_run : formRun (fun0 49) wE = true := by kernel_rfl
noncomputable def tupN : SV → SV
 | .tup c => .tup (mapInts norm c)
 | v => v
theorem tupN_dv (E : Env) (v : SV) : dv E (tupN v) = dv E v := by
 unfold tupN
 split
 ·rename_i c
  show ([Value.tuple (dl E (mapInts norm c)).toArray]).headD (.tuple #[]) = _
  rw [mapInts_dl (fun e => norm_ok E e) c]
  rfl
 ·rfl
noncomputable def wordX : List SV → X SV := orX (postX (fun _ v => (tupN v, [])) (orX (formX wM) (formX wE))) (fun0 49)
theorem wordX_ok : SpecOk G Try.prog 49 wordX := orX_ok (postX_ok (orX_ok (formX_ok (fun0_ok 49) wM wM_run) (formX_ok (fun0_ok 49) wE wE_run)) (fun E _ v _ _ => ⟨tupN_dv E v, fun _ h => (by cases h)⟩)) (fun0_ok 49)
noncomputable def spC : List (Nat × (List SV → X SV)) := [(99, getX), (46, putX), (43, valX), (42, swX), (49, wordX)]
theorem okSpC : ∀ x ∈ spC, SpecOk G Try.prog x.1 x.2 := cons_ok (a := (99, getX)) getX_ok (cons_ok (a := (46, putX)) putX_ok (cons_ok (a := (43, valX)) valX_ok (cons_ok (a := (42, swX)) swX_ok (one_ok (a := (49, wordX)) wordX_ok))))
noncomputable def cxC : CX := callF (tabJ []) (spOf spC) (bxOf []) 400 12
theorem cxC_ok : CallsOk G Try.prog cxC := by
 unfold cxC
 rw [callF_eq]
 exact callD_ok (spOf_ok okSpC) noBx 400 12
noncomputable def mRr : Fr → X (SX × Fr) := mergeB (tabJ []) cxC (fun _ => none) none 400 [0, 1, 2, 6, 7, 8, 9, 58] 58 0 40 (theBlock 1 (bodyOf Try.f28))
theorem mRr_ok : LxOk G Try.prog (28, 1, mRr) := lxB_ok Try.func28 (c := bodyOf Try.f28) rfl (b := theBlock 1 (bodyOf Try.f28)) (by kernel_rfl) (mergeB_ok cxC_ok 400 _ _ _ _ (noBlocks_ok _ _))
noncomputable def bxC : List LX := [(28, 1, mRr)]
theorem okBxC : ∀ y ∈ bxC, LxOk G Try.prog y := fun y hy => by
 rcases List.mem_singleton.1 hy with rfl
 exact mRr_ok
noncomputable def funC (f : Nat) : List SV → X SV := callF (tabJ []) (spOf spC) (bxOf bxC) 400 12 f
theorem funC_ok (f : Nat) : SpecOk G Try.prog f (funC f) := callF_ok (spOf_ok okSpC) (bxOf_ok okBxC) 400 12 f
end Go.Proofs.Ytdchpckikclmlaa
