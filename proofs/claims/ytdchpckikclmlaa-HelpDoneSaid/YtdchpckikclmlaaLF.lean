/- HelpLoses, by its runs. -/
import Derived.Test.YtdchpckikclmlaaSL
namespace Go.Proofs.Ytdchpckikclmlaa
open Go.Sx Go
set_option maxRecDepth 100000
noncomputable def sl3 (b : Nat) : SV := .sli b 0 (.var (b+1)) (.var (b+2)) (.var (b+3))
noncomputable def en3 (b : Nat) : Ent := slE b (b+1) (b+2) (b+4) 3
noncomputable def fa3u (b : Nat) (k h : Int) : List Fact := (.var (b+2), k, h) :: slF (b+1) (b+2) (b+3) hi64
noncomputable def mL : Fr → X (SX × Fr) := mergeB (tabJ []) cxC (fun _ => none) none 400 [0, 1, 2, 6, 7, 8, 9] 7 0 40 (theBlock 1 (bodyOf Try.f10))
theorem mL_ok {G : Gf} : LxOk G Try.prog (10, 1, mL) := lxB_ok Try.func10 (c := bodyOf Try.f10) rfl (b := theBlock 1 (bodyOf Try.f10)) (by kernel_rfl) (mergeB_ok cxC_ok 400 _ _ _ _ (noBlocks_ok _ _))
noncomputable def funL : List SV → X SV := callF (tabJ []) (spOf spL) (bxOf ((10, 1, mL) :: bxC)) 400 12 10
theorem funL_ok {G : Gf} (hall : ∀ k, k ≤ 16 → okSh k = true) : SpecOk G Try.prog 10 funL := callF_ok (spOf_ok (okSpL hall)) (bxOf_ok (by
 intro y hy
 rcases List.mem_cons.1 hy with rfl | hy
 ·exact mL_ok
 ·exact okBxC y hy)) 400 12 10
noncomputable def okL (n k : Int) : Bool := allOf (funL [sl3 10, vi 1, vi 2] (slMem [en3 10] ((.rem (.wrap .u64 (.var 1)) (.lit n), k, k) :: fa3u 10 n (cond (decide (n = 8)) hi64 n)) 60)) isTrue
noncomputable def okL0 (b : Bool) : Bool := allOf (funL [cond b (sl3 10) .nils, vi 1, vi 2] (slMem (cond b [en3 10] []) (cond b (fa3u 10 0 0) []) 60)) isTrue
end Go.Proofs.Ytdchpckikclmlaa
