/- NewWriter of rows of so many entries. -/
import Derived.Test.YtofmndcdcchflaaC
import Derived.Test.YtofmndcdcchflaaV
namespace Go.Proofs.Ytofmndcdcchflaa
open Go.Sx Go Go.DescNum
set_option maxRecDepth 100000
noncomputable def chkPut (q : SV × Mem) : Bool := match q.1 with
 | .int .i64 e => sameK q.2.know e (.mul (.var 1) (.lit 4))
 | _ => false
theorem put_run : allOf (fun0 48 [vi 1] (slMem [] [(.var 1, 0, 1099511627775)] 60)) chkPut = true := by kernel_rfl
noncomputable def formPut (args : List SV) (m : Mem) : Option (SV × List Fact) := match args with
 | [.int .i64 x] => cond (factIn m.know x 0 1099511627775) (some (.int .i64 (mkMul x (.lit 4)), [])) none
 | _ => none
theorem formPut_ok {V : List Int} : SpecOk (G0 V) Try.prog 48 (pureX formPut) := pureX_ok fun F w0 E args m w v fs hgf hm hf => by
 unfold formPut at hf
 split at hf
 case h_2 => cases hf
 rename_i x
 cases hc : factIn m.know x 0 1099511627775 with
 | false => rw [hc] at hf; cases hf
 | true =>
 rw [hc] at hf
 cases hf
 have hx := factIn_ok hm.know hc
 refine ⟨?_, fun _ h => (by cases h)⟩
 refine (sem_nums (V := []) (fun0_ok 48) put_run (E := envN [] w (ev E x) 0) (envN_ok (by unfold in64 lo64 hi64; omega) (by constructor <;> decide)) rfl rfl rfl (fun f hf => by
  rcases List.mem_singleton.1 hf with rfl
  exact hx)).mono ?_
 rintro e w' ⟨q, hq, E', hA, rfl, hm'⟩
 refine ⟨hm'.ext, congrArg Ending.returned ?_⟩
 unfold chkPut at hq
 split at hq
 ·rename_i e he
  have hq := sameK_ok hm'.know hq
  rw [he]
  show Value.int .i64 (ev E' e) = .int .i64 (ev E (mkMul x (.lit 4)))
  rw [hq, ev_mul, ev_lit, mkMul_ok, ev_lit, show ev E' (.var 1) = ev E x from hA.i 1 (by omega)]
 ·cases hq
noncomputable def putX : List SV → X SV := orX (pureX formPut) (fun0 48)
theorem putX_ok {V : List Int} : SpecOk (G0 V) Try.prog 48 putX := orX_ok formPut_ok (fun0_ok 48)
noncomputable def spW : List (Nat × (List SV → X SV)) := [(48, putX)]
theorem okSpW {V : List Int} : ∀ x ∈ spW, SpecOk (G0 V) Try.prog x.1 x.2 := one_ok (a := (48, putX)) putX_ok
noncomputable def cxW : CX := callF (tabJ []) (spOf spW) (bxOf []) 400 12
theorem cxW_ok {V : List Int} : CallsOk (G0 V) Try.prog cxW := by
 unfold cxW
 rw [callF_eq]
 exact callD_ok (spOf_ok okSpW) noBx 400 12
noncomputable def mWp : Fr → X (SX × Fr) := mergeB (tabJ []) cxW (fun _ => none) none 400 [0, 1, 2, 6, 7, 22, 23, 24] 7 0 40 (theBlock 1 (bodyOf Try.f33))
theorem mWp_ok {V : List Int} : LxOk (G0 V) Try.prog (33, 1, mWp) := lxB_ok Try.func33 (c := bodyOf Try.f33) rfl (b := theBlock 1 (bodyOf Try.f33)) (by kernel_rfl) (mergeB_ok cxW_ok 400 _ _ _ _ (noBlocks_ok _ _))
noncomputable def mWr : Fr → X (SX × Fr) := mergeB (tabJ []) cxW (fun _ => none) none 400 [0, 1, 2, 6, 7, 8, 9, 58] 58 0 40 (theBlock 1 (bodyOf Try.f14))
theorem mWr_ok {V : List Int} : LxOk (G0 V) Try.prog (14, 1, mWr) := lxB_ok Try.func14 (c := bodyOf Try.f14) rfl (b := theBlock 1 (bodyOf Try.f14)) (by kernel_rfl) (mergeB_ok cxW_ok 400 _ _ _ _ (noBlocks_ok _ _))
theorem mWs {V : List Int} : ∀ y ∈ [((33 : Nat), (1 : Nat), mWp), (14, 1, mWr)], LxOk (G0 V) Try.prog y := fun y hy => by
 rcases List.mem_cons.1 hy with rfl | hy
 ·exact mWp_ok
 ·rcases List.mem_singleton.1 hy with rfl
  exact mWr_ok
noncomputable def funW (sp : List (Nat × (List SV → X SV))) (f : Nat) : List SV → X SV := callF (tabJ []) (spOf sp) (bxOf [(33, 1, mWp), (14, 1, mWr)]) 400 12 f
theorem funW_ok {V : List Int} {sp : List (Nat × (List SV → X SV))} (h : ∀ x ∈ sp, SpecOk (G0 V) Try.prog x.1 x.2) (f : Nat) : SpecOk (G0 V) Try.prog f (funW sp f) := callF_ok (spOf_ok h) (bxOf_ok mWs) 400 12 f
noncomputable def sl3 (b : Nat) : SV := .sli b 0 (.var (b+1)) (.var (b+2)) (.var (b+3))
noncomputable def en3 (b : Nat) : Ent := slE b (b+1) (b+2) (b+4) 3
noncomputable def fa3 (b : Nat) (k h : Int) : List Fact := (.var (b+2), k, h) :: slF (b+1) (b+2) (b+3) 5864062012416
noncomputable def fa3u (b : Nat) (k h : Int) : List Fact := (.var (b+2), k, h) :: slF (b+1) (b+2) (b+3) hi64
end Go.Proofs.Ytofmndcdcchflaa
