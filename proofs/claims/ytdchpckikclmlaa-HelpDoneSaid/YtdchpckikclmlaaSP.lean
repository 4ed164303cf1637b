/- a helper's steps: patterns. -/
import Derived.Test.YtdchpckikclmlaaAW
namespace Go.Proofs.Ytdchpckikclmlaa
open Go.Sx Go
set_option maxRecDepth 100000
noncomputable def wP : Sx.Form := { args := [vi 1], mem := slMem [] [(.var 1, 0, 1099511627775)] 60, val := .int .i64 (.mul (.var 1) (.lit 4)), out := [], n := 8 }
noncomputable def wG : Sx.Form := { args := [.int .i64 (.mul (.var 1) (.lit 4)), vi 2], mem := slMem [] [(.var 1, 0, 1099511627775), (.var 2, 0, 1099511627775), (.sub (.var 2) (.var 1), 0, 1099511627775)] 60, val := pairV (.var 1) (.lit true), out := [], n := 5 }
theorem wP_run : formRun (fun0 46) wP = true := by kernel_rfl
theorem wG_run : formRun (fun0 99) wG = true := by kernel_rfl
noncomputable def putF : List SV → X SV := orX (normX [] (formX wP)) (fun0 46)
theorem putF_ok {G : Gf} : SpecOk G Try.prog 46 putF := orX_ok (normX_ok (formX_ok (fun0_ok 46) wP wP_run) []) (fun0_ok 46)
noncomputable def getF : List SV → X SV := eqArgX (orX (normX [] (formX wG)) (fun0 99))
theorem getF_ok {G : Gf} : SpecOk G Try.prog 99 getF := eqArgX_ok (orX_ok (normX_ok (formX_ok (fun0_ok 99) wG wG_run) []) (fun0_ok 99))
noncomputable def spS : List (Nat × (List SV → X SV)) := [(99, getF), (46, putF), (49, wordX)]
theorem okSpS {G : Gf} : ∀ x ∈ spS, SpecOk G Try.prog x.1 x.2 := cons_ok (a := (99, getF)) getF_ok (cons_ok (a := (46, putF)) putF_ok (one_ok (a := (49, wordX)) wordX_ok))
noncomputable def funS (f : Nat) : List SV → X SV := callF (tabJ []) (spOf spS) (bxOf []) 400 12 f
theorem funS_ok {G : Gf} (f : Nat) : SpecOk G Try.prog f (funS f) := callF_ok (spOf_ok okSpS) noBx 400 12 f
noncomputable def chV (l : List SV) : SV := l.foldr .cons .nil
noncomputable def ptr0 (s : Nat) : SV := .ptr s 0 (.lit 0)
noncomputable def first0 (d tt : Nat) : SV := cond (Nat.beq d 1) (.ifc tt (ptr0 102)) (.ifc 85 (ptr0 110))
noncomputable def hC (d tt : Nat) : SV := chV [vi 60, vi 61, first0 d tt, .sli 101 0 (.lit 0) (.lit d) (.var 62), vi 63, vi 64]
noncomputable def stC (d tt : Nat) : SV := chV ((List.range (d - 1)).map (fun i => .ifc 85 (ptr0 (110 + i))) ++ [.ifc tt (ptr0 102)])
noncomputable def maC (a : Int) (opn won : BE) (oth : SV) : SV := chV [vi 70, vi 71, il a, vi 72, vi 73, vi 74, .bool opn, vi 76, vi 77, oth, .bool won, vi 80]
noncomputable def siC (a : Int) (opn : BE) : SV := chV [vi 70, vi 71, il a, vi 72, vi 73, vi 74, .bool opn, vi 77]
noncomputable def arC (ws : SV) (t : List SV) : SV := .cons (.arr .i64 41 (.lit 634) ws) (chV t)
noncomputable def arT : List SV := [vi 42, vi 43, vi 44, vi 45, vi 46, vi 47, vi 48, vi 49, .bool (.var 50)]
noncomputable def tchT (k : Int) (a w n : IE) : List SV := [il 0, il k, .int .i64 a, .int .i64 w, .int .i64 n, il 0, il 0, il 0, .bool (.lit true)]
structure StW where
 tt : Nat
 a : Int
 opn : BE := .var 75
 won : BE := .var 79
 fs : List Fact := []
 cs : List BE := []
noncomputable def frC (w : StW) (oth : SV) : SV := cond (Nat.beq w.tt 85) (maC w.a w.opn w.won oth) (siC w.a w.opn)
noncomputable def facH (d : Nat) : List Fact := [(.var 60, 0, 3), (.var 61, 0, 1048575), (.var 62, d, hi64), (.var 70, 0, 11), (.var 71, 0, 65535), (.var 72, 0, 15), (.var 73, 0, 15), (.var 76, 0, 16)]
noncomputable def memW (d : Nat) (w : StW) (oth : SV) : Mem := { know := ⟨w.fs ++ facH d, w.cs⟩, heap := [⟨100, 0, false, 80, .lit 0, hC d w.tt⟩, ⟨101, 0, true, 0, .lit 0, stC d w.tt⟩, ⟨102, 0, false, cond (Nat.beq w.tt 85) 90 107, .lit 0, frC w oth⟩, ⟨40, 0, false, 84, .lit 0, arC .nil arT⟩], seg := 160, next := 0, nv := 200 }
noncomputable def argW : List SV := [ptr0 100, ptr0 40]
noncomputable def atB (k : Int) : IE := .add (.mul (.var 70) (.lit 50)) (.lit (34 + k))
noncomputable def atE (k : Int) : IE := .add (.add (.mul (.var 70) (.lit 50)) (.mul (.var 72) (.lit 3))) (.lit (36 + k))
noncomputable def xa (p : IE) : IE := .sel 41 p
noncomputable def stW (k : Int) : IE := mkMul (mkAdd (mkMul (.var 71) (.lit 4)) (.lit k)) (.lit 4)
noncomputable def mineW : IE := norm (mineE (.var 70) (.var 71))
noncomputable def refW : IE := norm (refE (.var 70) (.var 71) (.var 72) (.var 60) (.var 61))
noncomputable def valF (x : IE) (lo hi : Int) : List Fact := [(x, 4 * lo, 4 * hi), (.rem x (.lit 4), 0, 0), (.quo x (.lit 4), lo, hi)]
noncomputable def lastC (b : Bool) : BE := cond b (.eq (.add (.var 72) (.lit 1)) (.var 76)) (.not (.eq (.add (.var 72) (.lit 1)) (.var 76)))
noncomputable def isC (b : Bool) (x y : IE) : BE := cond b (.eq x y) (.not (.eq x y))
end Go.Proofs.Ytdchpckikclmlaa
