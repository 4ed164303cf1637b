/- TakeLimbo's loop: heads. -/
import Derived.Test.YtoemdbongkkmjaaA
namespace Go.Proofs.Ytoemdbongkkmjaa
open Go.Sx Go
set_option maxRecDepth 100000
noncomputable def iT : IE := .var 160
noncomputable def cT : IE := .var 161
noncomputable def dT : IE := .var 163
noncomputable def e0T : IE := .sel 1000001 (.mul iT (.lit 2))
noncomputable def e1T : IE := .sel 1000001 (.add (.mul iT (.lit 2)) (.lit 1))
noncomputable def most2 : Int := 9223372036854775807
noncomputable def outT (a : Bool) : SV := cond a (.sli 140 0 (.lit 0) cT (.add cT (.var 162))) .nils
noncomputable def restT (b : Bool) : SV := cond b (.sli 141 0 (.lit 0) dT (.add dT (.var 164))) .nils
noncomputable def entT (s t : Nat) (c : SV) : Ent := ⟨s, 0, false, t, .lit 0, c⟩
noncomputable def outE (a : Bool) : List Ent := cond a [entT 140 3 (.cons (.arr .i64 1000002 cT .nil) (.cons (.arr .i64 0 (.var 162) .nil) .nil))] []
noncomputable def restE (b : Bool) : List Ent := cond b [entT 141 44 (.cons (.arr .i64 1000003 (.mul dT (.lit 2)) .nil) (.cons (.arr .i64 0 (.mul (.var 164) (.lit 2)) .nil) .nil))] []
noncomputable def outF (a : Bool) : List Fact := cond a [(cT, 1, most), (.var 162, 0, most2), (.add cT (.var 162), 0, hi64), (minus cT (g1 1101 iT), 0, 0)] [(g1 1101 iT, 0, 0)]
noncomputable def restF (b : Bool) : List Fact := cond b [(dT, 1, most), (.var 164, 0, most2), (.add dT (.var 164), 0, hi64), (minus dT (g1 1102 iT), 0, 0)] [(g1 1102 iT, 0, 0)]
noncomputable def headTp (a b : Bool) : HeadP := {
 tm := slotsN 52 [(0, slR 101), (1, vi 150), (7, outT a), (8, restT b), (9, .int .i64 iT)]
 mem := { know := ⟨(iT, 0, most) :: (minus (.var 103) iT, 0, most) :: (minus (.var 103) (g0 1105), 0, 0) :: (minus (g0 1103) (g0 1105), 0, 0) :: (minus (.var 150) (g0 1104), 0, 0) :: (.var 150, 0, 1073741823) :: (outF a ++ (restF b ++ faR 101)), []⟩, heap := enR 101 :: (outE a ++ restE b), seg := 165, next := 0, nv := 170 }
 mu := .sub (.var 103) iT }
noncomputable def ripeF : Fact := (.sub (.var 150) e1T, 3, hi64)
noncomputable def unripeF : Fact := (.sub (.var 150) e1T, lo64, 2)
noncomputable def inF : List Fact := [(e0T, 0, 11), (e1T, 0, 1073741823)]
end Go.Proofs.Ytoemdbongkkmjaa
