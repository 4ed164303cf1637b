/- LimboRows: its loop, its runs. -/
import Derived.Test.YtoemdbongkkmjaaG
namespace Go.Proofs.Ytoemdbongkkmjaa
open Go.Sx Go Go.LimboNum
set_option maxRecDepth 100000
noncomputable def ssW (a : Bool) : SV := cond a (.sli 140 0 (.lit 0) (g0 1106) (.add (g0 1106) (.var 162))) .nils
noncomputable def rsW (b : Bool) : SV := cond b (.sli 141 0 (.lit 0) (g0 1107) (.add (g0 1107) (.var 164))) .nils
noncomputable def ssE (a : Bool) : List Ent := cond a [entT 140 3 (.cons (.arr .i64 1000002 (g0 1106) .nil) (.cons (.arr .i64 0 (.var 162) .nil) .nil))] []
noncomputable def rsE (b : Bool) : List Ent := cond b [entT 141 44 (.cons (.arr .i64 1000003 (.mul (g0 1107) (.lit 2)) .nil) (.cons (.arr .i64 0 (.mul (.var 164) (.lit 2)) .nil) .nil))] []
noncomputable def ssF (a : Bool) : List Fact := cond a [(g0 1106, 1, most), (.var 162, 0, most2), (.add (g0 1106) (.var 162), 0, hi64)] [(g0 1106, 0, 0)]
noncomputable def rsF (b : Bool) : List Fact := cond b [(g0 1107, 1, most), (.var 164, 0, most2), (.add (g0 1107) (.var 164), 0, hi64)] [(g0 1107, 0, 0)]
noncomputable def headW (a b : Bool) : HeadP := {
 tm := slotsN 97 [(0, slR 101), (1, vi 150), (4, .bool (.lit false)), (5, ssW a), (6, rsW b), (8, .int .i64 cT), (9, .int .i64 dT), (10, .int .i64 iT)]
 mem := { know := ⟨(iT, 0, most) :: (minus (.var 103) iT, 0, most) :: (minus (.var 103) (g0 1105), 0, 0) :: (minus (g0 1103) (g0 1105), 0, 0) :: (minus (.var 150) (g0 1104), 0, 0) :: (.var 150, 0, 1073741823) :: (cT, 0, most) :: (dT, 0, most) :: (minus cT (g1 1101 iT), 0, 0) :: (minus dT (g1 1102 iT), 0, 0) :: (ssF a ++ (rsF b ++ faR 101)), []⟩, heap := enR 101 :: (ssE a ++ rsE b), seg := 165, next := 0, nv := 170 }
 mu := .sub (.var 103) iT }
noncomputable def lessF (x y : IE) : List Fact := [(.sub x y, -most, -1), (.sub y x, 1, most)]
noncomputable def eqF (x y : IE) : List Fact := [(mkSub x y, 0, 0), (mkSub y x, 0, 0)]
noncomputable def inW : List Fact := (e0T, 0, 11) :: (e1T, 0, 1073741823) :: lessF iT (.var 103)
noncomputable def ripeW : List Fact := ripeF :: (eqF e0T (.sel 1000002 cT) ++ (lessF cT (g0 1106) ++ ([zeroF (minus (.add cT (.lit 1)) (g1 1101 i1)), zeroF (minus dT (g1 1102 i1))] ++ inW)))
noncomputable def unripeW : List Fact := unripeF :: (eqF e0T (.sel 1000003 (.mul dT (.lit 2))) ++ (eqF e1T (.sel 1000003 (.add (.mul dT (.lit 2)) (.lit 1))) ++ (lessF dT (g0 1107) ++ ([zeroF (minus (.add dT (.lit 1)) (g1 1102 i1)), zeroF (minus cT (g1 1101 i1))] ++ inW))))
noncomputable def endW : List Fact := [(.sub (.var 103) iT, 0, 0), (.sub iT (.var 103), 0, 0), zeroF (minus (g0 1106) cT), zeroF (minus (g0 1107) dT)]
noncomputable def leaveW (a b : Bool) : LeaveP := { e := .normal, tm := slotsN 97 [(4, .bool (.lit false)), (5, ssW a), (6, rsW b), (8, .int .i64 (g0 1106)), (9, .int .i64 (g0 1107))], mem := { know := ⟨ssF a ++ rsF b, []⟩, heap := [], seg := 165, next := 0, nv := 170 } }
noncomputable def headsW : List HeadP := [headW false false, headW true false, headW false true, headW true true]
noncomputable def leavesW : List LeaveP := [leaveW false false, leaveW true false, leaveW false true, leaveW true true]
noncomputable def bodyW : Code := loopBody 0 (bodyOf Try.f6)
noncomputable def okW (a b : Bool) (c : List Fact) : Bool := headOk (tabJ []) cx0 (fun _ => none) none 400 0 bodyW 100 headsW leavesW ((headW a b).more c)
noncomputable def caW (a b : Bool) : List (List Fact) := endW :: (cond a [ripeW] [] ++ cond b [unripeW] [])
theorem w00 : (caW false false).all (okW false false) = true := by kernel_rfl
theorem w10 : (caW true false).all (okW true false) = true := by kernel_rfl
theorem w01 : (caW false true).all (okW false true) = true := by kernel_rfl
theorem w11 : (caW true true).all (okW true true) = true := by kernel_rfl
end Go.Proofs.Ytoemdbongkkmjaa
