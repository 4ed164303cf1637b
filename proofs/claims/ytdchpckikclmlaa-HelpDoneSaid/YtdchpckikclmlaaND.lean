/- HelpDone, by its runs. -/
import Derived.Test.YtdchpckikclmlaaLF
import Derived.Test.YtdchpckikclmlaaSI
namespace Go.Proofs.Ytdchpckikclmlaa
open Go.Sx Go
set_option maxRecDepth 100000
noncomputable def mD : Fr → X (SX × Fr) := pinB [26] (mergeB (tabJ []) cxC (fun _ => none) none 400 [0, 1, 2, 6, 7, 8, 9] 7 0 40 (theBlock 1 (bodyOf Try.f8)))
theorem mD_ok {G : Gf} : LxOk G Try.prog (8, 1, mD) := lxB_ok Try.func8 (c := bodyOf Try.f8) rfl (b := theBlock 1 (bodyOf Try.f8)) (by kernel_rfl) (pinB_ok _ (mergeB_ok cxC_ok 400 _ _ _ _ (noBlocks_ok _ _)))
noncomputable def spN : List (Nat × (List SV → X SV)) := (20, pathX [3, 46, 82] sameX) :: (17, groupX stepX) :: spL
theorem okSpN (hall : ∀ k, k ≤ 16 → okSh k = true) : ∀ x ∈ spN, SpecOk G0 Try.prog x.1 x.2 := cons_ok (a := (20, pathX [3, 46, 82] sameX)) (pathX_ok (sameX_ok G0_in) _) (cons_ok (a := (17, groupX stepX)) (groupX_ok stepX_ok) (okSpL hall))
noncomputable def funN : List SV → X SV := callF (tabJ [8]) (spOf spN) (bxOf ((8, 1, mD) :: bxC)) 400 12 8
theorem funN_ok (hall : ∀ k, k ≤ 16 → okSh k = true) : SpecOk G0 Try.prog 8 funN := callF_ok (spOf_ok (okSpN hall)) (bxOf_ok (by
 intro y hy
 rcases List.mem_cons.1 hy with rfl | hy
 ·exact mD_ok
 ·exact okBxC y hy)) 400 12 8
noncomputable def sl1 (b : Nat) : SV := .sli b 0 (.var (b+1)) (.var (b+2)) (.var (b+3))
noncomputable def en1 (b : Nat) : Ent := slE b (b+1) (b+2) (b+4) 1
noncomputable def fa1 (b : Nat) : List Fact := slF (b+1) (b+2) (b+3) hi64
noncomputable def bitE (j : Nat) : IE := .bit .and .i64 (.sel 14 (.lit (3 * j : Nat))) (.lit 1)
noncomputable def bitsL : Nat → List Int → List Fact
 | _, [] => []
 | j, b :: r => (bitE j, b, b) :: bitsL (j + 1) r
noncomputable def factD (bs : List Int) (cn sn : Bool) : List Fact := bitsL 0 bs ++ (cond cn [] (fa1 20) ++ cond sn [] (fa3u 10 bs.length (cond (Nat.beq bs.length 5) hi64 bs.length)))
noncomputable def entsD (cn sn : Bool) : List Ent := cond cn [] [en1 20] ++ cond sn [] [en3 10]
noncomputable def argsD (cn sn won : Bool) : List SV := [cond cn .nils (sl1 20), cond sn .nils (sl3 10), .bool (.lit won)]
noncomputable def okD (bs : List Int) (cn sn won : Bool) : Bool := allOf (funN (argsD cn sn won) (slMem (entsD cn sn) (factD bs cn sn) 60)) isTrue
end Go.Proofs.Ytdchpckikclmlaa
