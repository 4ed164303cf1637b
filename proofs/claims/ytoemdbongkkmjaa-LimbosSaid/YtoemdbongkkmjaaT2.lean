/- TakeLimbo's loop, by its rounds. -/
import Derived.Test.YtoemdbongkkmjaaT
namespace Go.Proofs.Ytoemdbongkkmjaa
open Go.Sx Go
set_option maxRecDepth 100000
noncomputable def oneBx (id : Nat) (x : Fr → X (SX × Fr)) : BX := fun i => cond (Nat.beq i id) (some x) none
theorem oneBx_ok {G : Gf} {P : Program} {id : Nat} {x : Fr → X (SX × Fr)} {c b : Code} (hb : blocksOf id c = [b]) (hx : CodeOk G P b x) : BlocksOk G P (oneBx id x) c := by
 intro i sp h c' hc'
 unfold oneBx at h
 cases hi : Nat.beq i id with
 | false => rw [hi] at h; cases h
 | true =>
  rw [hi] at h
  cases h
  have hi := Nat.eq_of_beq_eq_true hi
  subst hi
  rw [hb] at hc'
  rcases List.mem_singleton.1 hc' with rfl
  exact hx
noncomputable def bodyT : Code := loopBody 0 (bodyOf Try.f12)
noncomputable def absT : Fr → X (SX × Fr) := rowsB (tabJ []) cx0 (fun _ => none) none 400 [1000002, 1000003] (theBlock 1 bodyT)
noncomputable def bxT : BX := oneBx 1 absT
theorem bxT_ok {G : Gf} : BlocksOk G Try.prog bxT bodyT := oneBx_ok (b := theBlock 1 bodyT) (by kernel_rfl) (rowsB_ok cx0_ok 400 _ (noBlocks_ok _ _))
noncomputable def cE (a : Bool) : IE := cond a cT (.lit 0)
noncomputable def dE (b : Bool) : IE := cond b dT (.lit 0)
noncomputable def c1E (a : Bool) : IE := cond a (.add cT (.lit 1)) (.lit 1)
noncomputable def d1E (b : Bool) : IE := cond b (.add dT (.lit 1)) (.lit 1)
noncomputable def i1 : IE := .add iT (.lit 1)
noncomputable def zeroF (e : IE) : Fact := (e, 0, 0)
noncomputable def stayO (a : Bool) : Fact := cond a (zeroF (minus cT (g1 1101 i1))) (zeroF (g1 1101 i1))
noncomputable def stayR (b : Bool) : Fact := cond b (zeroF (minus dT (g1 1102 i1))) (zeroF (g1 1102 i1))
noncomputable def at2 (b : Bool) (k : Int) : IE := cond b (cond (decide (k = 0)) (.mul dT (.lit 2)) (.add (.mul dT (.lit 2)) (.lit k))) (.lit k)
noncomputable def inT : List Fact := [(e0T, 0, 11), (e1T, 0, 1073741823), (.sub (.var 103) iT, 1, most), (.sub iT (.var 103), -most, -1)]
noncomputable def ripeC (a b : Bool) : List Fact := [ripeF, (mkSub e0T (.sel 1000002 (cE a)), 0, 0), zeroF (minus (c1E a) (g1 1101 i1)), stayR b, (c1E a, 1, most)] ++ inT
noncomputable def unripeC (a b : Bool) : List Fact := [unripeF, (mkSub e0T (.sel 1000003 (at2 b 0)), 0, 0), (mkSub e1T (.sel 1000003 (at2 b 1)), 0, 0), zeroF (minus (d1E b) (g1 1102 i1)), stayO a, (d1E b, 1, most)] ++ inT
noncomputable def outD (a : Bool) : Fact := zeroF (minus (g0 1106) (cE a))
noncomputable def restD (b : Bool) : Fact := zeroF (minus (g0 1107) (dE b))
noncomputable def endC (a b : Bool) : List Fact := [(.sub (.var 103) iT, 0, 0), (.sub iT (.var 103), 0, 0), outD a, restD b, zeroF (minus (.mul (g0 1107) (.lit 2)) (.mul (dE b) (.lit 2)))]
noncomputable def outL (a : Bool) : SV := cond a (.sli 140 0 (.lit 0) (g0 1106) (.add (g0 1106) (.var 162))) .nils
noncomputable def restL (b : Bool) : SV := cond b (.sli 141 0 (.lit 0) (g0 1107) (.add (g0 1107) (.var 164))) .nils
noncomputable def outLE (a : Bool) : List Ent := cond a [entT 140 3 (.cons (.arr .i64 1000002 (g0 1106) .nil) (.cons (.arr .i64 0 (.var 162) .nil) .nil))] []
noncomputable def restLE (b : Bool) : List Ent := cond b [entT 141 44 (.cons (.arr .i64 1000003 (.mul (g0 1107) (.lit 2)) .nil) (.cons (.arr .i64 0 (.mul (.var 164) (.lit 2)) .nil) .nil))] []
noncomputable def outLF (a : Bool) : List Fact := cond a [(g0 1106, 1, most), (.var 162, 0, most2), (.add (g0 1106) (.var 162), 0, hi64)] [(g0 1106, 0, 0)]
noncomputable def restLF (b : Bool) : List Fact := cond b [(g0 1107, 1, most), (.var 164, 0, most2), (.add (g0 1107) (.var 164), 0, hi64)] [(g0 1107, 0, 0)]
noncomputable def leaveT (a b : Bool) : LeaveP := { e := .normal, tm := slotsN 52 [(7, outL a), (8, restL b)], mem := { know := ⟨outLF a ++ restLF b, []⟩, heap := outLE a ++ restLE b, seg := 165, next := 0, nv := 170 } }
noncomputable def headsT : List HeadP := [headTp false false, headTp true false, headTp false true, headTp true true]
noncomputable def leavesT : List LeaveP := [leaveT false false, leaveT true false, leaveT false true, leaveT true true]
noncomputable def okT (heads : List HeadP) (leaves : List LeaveP) (a b : Bool) (c : List Fact) : Bool := headOk (tabJ []) cx0 bxT none 400 0 bodyT 100 heads leaves ((headTp a b).more c)
end Go.Proofs.Ytoemdbongkkmjaa
