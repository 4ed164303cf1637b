/- the reference's words of values, of states. -/
import Derived.Test.YtofmndcdcchflaaPD
import Derived.Test.YtofmndcdcchflaaE4
namespace Go.Proofs.Ytofmndcdcchflaa
open Go.Sx Go Go.DescNum
set_option maxRecDepth 100000
theorem val_run : allOf (fun0 37 [vi 1] (slMem [] [(.var 1, 0, 1099511627775)] 60)) chkPut = true := by kernel_rfl
noncomputable def chkSw (q : SV × Mem) : Bool := match q.1 with
 | .int .i64 e => sameK q.2.know e (.mul (.var 1) (.lit 16))
 | _ => false
theorem sw_run : allOf (fun0 36 [vi 1, .int .i64 (.lit 0)] (slMem [] [(.var 1, 0, 65535)] 60)) chkSw = true := by kernel_rfl
noncomputable def formVal (args : List SV) (m : Mem) : Option (SV × List Fact) := match args with
 | [.int .i64 x] => cond (factIn m.know x 0 1099511627775) (match ptN m.know x with
  | some n => some (.int .i64 (.lit (4 * n : Nat)), [])
  | none => some (.int .i64 (mkMul x (.lit 4)), [])) none
 | _ => none
theorem formVal_ok {V : List Int} {f : Nat} (hrun : allOf (fun0 f [vi 1] (slMem [] [(.var 1, 0, 1099511627775)] 60)) chkPut = true) : SpecOk (G0 V) Try.prog f (pureX formVal) := pureX_ok fun F w0 E args m w v fs hgf hm hf => by
 unfold formVal at hf
 split at hf
 case h_2 => cases hf
 rename_i x
 cases hc : factIn m.know x 0 1099511627775 with
 | false => rw [hc] at hf; cases hf
 | true =>
 rw [hc] at hf
 have hx := factIn_ok hm.know hc
 have call : Calls Try.prog f (([.int .i64 x] : List SV).map (dv E)).toArray w fun e w' => Ext (fun _ => False) w w' ∧ e = .returned (.int .i64 (4 * ev E x)) := by
  refine (sem_nums (V := []) (fun0_ok f) hrun (E := envN [] w (ev E x) 0) (envN_ok (by unfold in64 lo64 hi64; omega) (by constructor <;> decide)) rfl rfl rfl (fun f hf => by
   rcases List.mem_singleton.1 hf with rfl
   exact hx)).mono ?_
  rintro e w' ⟨q, hq, E', hA, rfl, hm'⟩
  refine ⟨hm'.ext, congrArg Ending.returned ?_⟩
  unfold chkPut at hq
  split at hq
  ·rename_i e he
   have hq := sameK_ok hm'.know hq
   rw [he]
   show Value.int .i64 (ev E' e) = .int .i64 (4 * ev E x)
   rw [hq, ev_mul, ev_lit, show ev E' (.var 1) = ev E x from hA.i 1 (by omega), Int.mul_comm]
  ·cases hq
 dsimp only [cond] at hf
 split at hf
 ·rename_i n hn
  cases hf
  refine ⟨call.mono ?_, fun _ h => (by cases h)⟩
  rintro e w' ⟨h1, rfl⟩
  refine ⟨h1, ?_⟩
  show _ = Ending.returned (.int .i64 ((4 * n : Nat) : Int))
  rw [ptN_ok hm.know hn]
  norm_cast
 ·cases hf
  refine ⟨call.mono ?_, fun _ h => (by cases h)⟩
  rintro e w' ⟨h1, rfl⟩
  refine ⟨h1, ?_⟩
  show _ = Ending.returned (.int .i64 (ev E (mkMul x (.lit 4))))
  rw [mkMul_ok, ev_lit, Int.mul_comm]
noncomputable def formSw (args : List SV) (m : Mem) : Option (SV × List Fact) := match args with
 | [.int .i64 x, .int .i64 (.lit (.ofNat 0))] => cond (factIn m.know x 0 65535) (some (.int .i64 (mkMul x (.lit 16)), [])) none
 | _ => none
theorem formSw_ok {V : List Int} : SpecOk (G0 V) Try.prog 36 (pureX formSw) := pureX_ok fun F w0 E args m w v fs hgf hm hf => by
 unfold formSw at hf
 split at hf
 case h_2 => cases hf
 rename_i x
 cases hc : factIn m.know x 0 65535 with
 | false => rw [hc] at hf; cases hf
 | true =>
 rw [hc] at hf
 cases hf
 have hx := factIn_ok hm.know hc
 refine ⟨?_, fun _ h => (by cases h)⟩
 refine (sem_nums (V := []) (fun0_ok 36) sw_run (E := envN [] w (ev E x) 0) (envN_ok (by unfold in64 lo64 hi64; omega) (by constructor <;> decide)) rfl rfl rfl (fun f hf => by
  rcases List.mem_singleton.1 hf with rfl
  exact hx)).mono ?_
 rintro e w' ⟨q, hq, E', hA, rfl, hm'⟩
 refine ⟨hm'.ext, congrArg Ending.returned ?_⟩
 unfold chkSw at hq
 split at hq
 ·rename_i e he
  have hq := sameK_ok hm'.know hq
  rw [he]
  show Value.int .i64 (ev E' e) = .int .i64 (ev E (mkMul x (.lit 16)))
  rw [hq, ev_mul, ev_lit, mkMul_ok, ev_lit, show ev E' (.var 1) = ev E x from hA.i 1 (by omega)]
 ·cases hq
noncomputable def valX : List SV → X SV := orX (pureX formVal) (fun0 37)
theorem valX_ok {V : List Int} : SpecOk (G0 V) Try.prog 37 valX := orX_ok (formVal_ok val_run) (fun0_ok 37)
noncomputable def putLX : List SV → X SV := orX (pureX formVal) (fun0 48)
theorem putLX_ok {V : List Int} : SpecOk (G0 V) Try.prog 48 putLX := orX_ok (formVal_ok put_run) (fun0_ok 48)
noncomputable def someM (args : List SV) (m : Mem) : Bool := match rowM args m with
 | some (_, k) => Nat.ble 1 k
 | none => true
noncomputable def mayZ (f : Nat) : List SV → X SV := orX (guardX someM (mayX f)) (fun0 f)
theorem mayZ_ok {V : List Int} {f : Nat} (h : SemMay f) : SpecOk (G0 V) Try.prog f (mayZ f) := orX_ok (guardX_ok (mayX_ok h)) (fun0_ok f)
noncomputable def someS (args : List SV) (m : Mem) : Bool := match args with
 | [_, _, sl] => match rowM [sl] m with
  | some (_, k) => Nat.ble 1 k
  | none => false
 | _ => false
noncomputable def stoX : List SV → X SV := orX (guardX someS storesX) (callF (tabJ []) (spOf [(48, putLX)]) (bxOf []) 400 12 33)
theorem stoX_ok {V : List Int} : SpecOk (G0 V) Try.prog 33 stoX := orX_ok (guardX_ok (storesX_ok semSt)) (callF_ok (spOf_ok (one_ok (a := (48, putLX)) putLX_ok)) noBx 400 12 33)
noncomputable def swX : List SV → X SV := orX (pureX formSw) (fun0 36)
theorem swX_ok {V : List Int} : SpecOk (G0 V) Try.prog 36 swX := orX_ok formSw_ok (fun0_ok 36)
noncomputable def spR : List (Nat × (List SV → X SV)) := [(37, valX)]
noncomputable def cxR : CX := callF (tabJ []) (spOf spR) (bxOf []) 400 12
theorem cxR_ok {V : List Int} : CallsOk (G0 V) Try.prog cxR := by
 unfold cxR
 rw [callF_eq]
 exact callD_ok (spOf_ok (one_ok (a := (37, valX)) valX_ok)) noBx 400 12
noncomputable def mRr : Fr → X (SX × Fr) := mergeB (tabJ []) cxR (fun _ => none) none 400 [0, 1, 2, 6, 7, 8, 9, 58] 58 0 40 (theBlock 1 (bodyOf Try.f14))
theorem mRr_ok {V : List Int} : LxOk (G0 V) Try.prog (14, 1, mRr) := lxB_ok Try.func14 (c := bodyOf Try.f14) rfl (b := theBlock 1 (bodyOf Try.f14)) (by kernel_rfl) (mergeB_ok cxR_ok 400 _ _ _ _ (noBlocks_ok _ _))
end Go.Proofs.Ytofmndcdcchflaa
namespace Go.Proofs.Ytofmndcdcchflaa
open Go.Sx Go Go.DescNum
set_option maxRecDepth 100000
noncomputable def saG : List SV → X SV := gcR saX
noncomputable def spW2 : List (Nat × (List SV → X SV)) := [(18, stepX), (20, saG)]
theorem okSpW2 {V : List Int} : ∀ x ∈ spW2, SpecOk (G0 V) Try.prog x.1 x.2 := cons_ok (a := (18, stepX)) stepX_ok (one_ok (a := (20, saG)) (gcR_ok saX_ok))
noncomputable def cxW2 : CX := callF (tabJ []) (spOf spW2) (bxOf []) 400 12
theorem cxW2_ok {V : List Int} : CallsOk (G0 V) Try.prog cxW2 := by
 unfold cxW2
 rw [callF_eq]
 exact callD_ok (spOf_ok okSpW2) noBx 400 12
noncomputable def sW : IE := .var 3105
noncomputable def xW (j : Nat) : SV := vi (3200 + j)
noncomputable def capWf (v n : Nat) : List Fact := [(.var v, n, hi64), (.add (.var v) (.lit (-(n : Int))), 0, hi64)]
noncomputable def capWs (k v : Nat) : IE := cond (Nat.beq k 0) (.lit 2) (.var v)
noncomputable def tailWs (k : Nat) (e : IE) : SV := cond (Nat.beq k 0) .nil (.cons (.arr .i64 0 e .nil) .nil)
noncomputable def restW (k : Nat) : SV := (List.range (2 + 3 * k)).foldr (fun (j : Nat) r => .cons (.int .i64 (.add (.mul sW (.lit 50)) (.lit (34 + j : Nat)))) (.cons (xW j) r)) (tailWs k (.mul (.add (.var 3122) (.lit (-((2 + 3 * k : Nat) : Int)))) (.lit 2)))
noncomputable def rowWr (k : Nat) : SV := (List.range (2 + 3 * k)).foldr (fun (j : Nat) r => .cons (xW j) r) (tailWs k (.add (.var 3125) (.lit (-((2 + 3 * k : Nat) : Int)))))
noncomputable def slWs (k b v : Nat) : SV := .sli b 0 (.lit 0) (.lit (2 + 3 * k : Nat)) (capWs k v)
noncomputable def keptW : List (Nat × SV) := [(12, .bool (.lit false)), (13, .ptr 3106 0 (.lit 0)), (14, .ptr 3107 0 (.lit 0))]
noncomputable def headW (k : Nat) : HeadP := {
 tm := slotsN 172 (keptW ++ [(16, .ptr 3120 0 (.lit 0)), (18, .ptr 3123 0 (.lit 0)), (19, .int .i64 (.lit 0)), (20, .int .i64 (.lit 0))])
 mem := { know := ⟨(sW, 0, 11) :: cond (Nat.beq k 0) [] (capWf 3122 (2 + 3 * k) ++ capWf 3125 (2 + 3 * k)), []⟩, heap := arenas 3106 3108 3109 ++ [⟨3123, 0, false, 79, .lit 0, .cons (.int .i64 (.lit 0)) (.cons (.int .i64 sW) (.cons (slWs k 3124 3125) .nil))⟩, ⟨3124, 0, false, 3, .lit 0, rowWr k⟩, ⟨3120, 0, false, 75, .lit 0, .cons (slWs k 3121 3122) .nil⟩, ⟨3121, 0, false, 81, .lit 0, restW k⟩], seg := 3290, next := 0, nv := 3300 }
 mu := .lit 0 }
noncomputable def headE : HeadP := {
 tm := slotsN 172 (keptW ++ [(19, .int .i64 (.lit 1300)), (20, .int .i64 (.lit 0))])
 mem := { know := ⟨[], []⟩, heap := arenas 3106 3108 3109, seg := 3290, next := 0, nv := 3300 }
 mu := .lit 0 }
noncomputable def leaveW : LeaveP := { e := .normal, tm := slotsN 172 keptW, mem := { know := ⟨[], []⟩, heap := arenas 3106 3108 3109, seg := 3290, next := 0, nv := 3300 } }
noncomputable def codeW : Code := .block 0 (.loop (loopBody 0 (bodyOf Try.f3)))
noncomputable def okW (h : HeadP) : Bool := onceOk (tabJ []) cxW2 (fun _ => none) none 400 codeW 3000 [leaveW] h
theorem okWe : okW headE = true := by kernel_rfl
noncomputable def loopW (k : Nat) : Fr → X (SX × Fr) := keepK (liftB 3000 (loopP 3000 [headW k, headE] [leaveW]))
theorem loopW_ok {V : List Int} {k : Nat} (h : okW (headW k) = true) : LxOk (G0 V) Try.prog (3, 0, loopW k) := lx_ok Try.func3 (c := bodyOf Try.f3) rfl (b := loopBody 0 (bodyOf Try.f3)) (by kernel_rfl) (keepK_ok (liftB_ok (onceP_ok (T := tabJ []) (cx := cxW2) cxW2_ok (jm := none) (fuel := 400) (noBlocks_ok _ _) (fun y hy => by
 rcases List.mem_cons.1 hy with rfl | hy
 ·exact h
 ·rcases List.mem_singleton.1 hy with rfl
  exact okWe))))
end Go.Proofs.Ytofmndcdcchflaa
