/- ModelKeys: what is run; the heads of its loop. -/
import Derived.Test.YtpgnpdejefpdbaaU
namespace Go.Proofs.Ytpgnpdejefpdbaa
open Go.Sx Go
set_option maxRecDepth 100000
noncomputable def litsB : List Bool → SV
 | [] => .nil
 | c :: r => .cons (.bool (.lit c)) (litsB r)
noncomputable def shutF : List Fact := [(balE 0, -1, -1), (balE 1, -1, -1), (balE 2, -1, -1), (balE 3, -1, -1)]
noncomputable def stK (l : List Bool) : Ent := ⟨20, 0, false, 25, .lit 0, .cons (.arr .i64 60 (.lit 4) .nil) (litsB l)⟩
noncomputable def inK (l : List Bool) : Ent := ⟨21, 0, false, 23, .lit 0, litsB l⟩
noncomputable def headK (l : List Bool) : HeadP := {
 tm := slotsN 172 [(0, xsV), (1, vi 6), (2, vi 7), (6, .bool (.lit false)), (7, .ptr 20 0 (.lit 0)), (8, .ptr 21 0 (.lit 0)), (9, vi 12)]
 mem := { know := ⟨shutF ++ ((.var 12, 0, 40) :: slF 2 3 4 hi64), []⟩, heap := [inK l, stK l, xsE], seg := 30, next := 0, nv := 400 }
 mu := .sub (.lit 40) (.var 12) }
noncomputable def leaveK : LeaveP := { e := .normal, tm := slotsN 172 [(1, vi 6), (2, vi 7), (6, .bool (.lit false)), (7, .ptr 20 0 (.lit 0)), (8, .ptr 21 0 (.lit 0))], mem := { know := ⟨shutF, []⟩, heap := [⟨21, 0, false, 23, .lit 0, boolV 50 5 .nil⟩, ⟨20, 0, false, 25, .lit 0, .cons (.arr .i64 60 (.lit 4) .nil) (boolV 50 5 .nil)⟩], seg := 30, next := 0, nv := 400 } }
noncomputable def bools : Nat → List (List Bool)
 | 0 => [[]]
 | n + 1 => (bools n).flatMap fun l => [false :: l, true :: l]
noncomputable def headsK : List HeadP := (bools 5).map headK
noncomputable def eKey : IE := .rem (.bit .and .i64 eAct (.lit 1023)) (.lit 5)
noncomputable def ePut : IE := .bit .and .i64 (.shr eAct 11) (.lit 1)
noncomputable def kOk (l l' : List Bool) (fs : List Fact) : Bool := headOk (tabJ []) cxU (fun _ => none) none 400 0 (loopBody 0 (bodyOf Try.f5)) 12 [headK l, headK l'] [leaveK] ((headK l).more fs)
noncomputable def keepK (s : Fr → X (SX × Fr)) : Fr → X (SX × Fr) := fun tm m => match s tm m with
 | some outs => some (outs.map fun q => (q.1, { q.2 with know := ⟨q.2.know.facts ++ m.know.facts.filter (fun f => f.1.nm m.nv), q.2.know.conds⟩ }))
 | none => none
theorem keepK_ok {G : Gf} {P : Program} {c : Code} {s : Fr → X (SX × Fr)} (hs : CodeOk G P c s) : CodeOk G P c (keepK s) := by
 intro F w0 E tm a m w exits hgf ho hm ha
 unfold keepK at ho
 split at ho
 case h_2 => cases ho
 rename_i outs hr
 cases ho
 refine wp_mono (hs F w0 E tm a m w outs hgf hr hm ha) ?_
 rintro e a' w' ⟨q, hq, E', hL, he, hf, hm'⟩
 refine ⟨_, List.mem_map.2 ⟨q, hq, rfl⟩, E', hL, he, hf, ⟨⟨hm'.know.env, fun f hf => ?_, hm'.know.conds⟩, hm'.size, hm'.ents, hm'.apart, hm'.mine, hm'.ext, hm'.seg0⟩⟩
 rcases List.mem_append.1 hf with hf | hf
 ·exact hm'.know.facts f hf
 ·obtain ⟨h1, h2⟩ := List.mem_filter.1 hf
  have := hm.know.facts f h1
  unfold FactOk at this ⊢
  rw [ev_agree hL.agree h2]
  exact this
noncomputable def loopK : Fr → X (SX × Fr) := keepK (loopP 12 headsK [leaveK])
noncomputable def runK : List SV → X SV := callF (tabJ []) (spOf spU) (bxOf [(5, 0, loopK)]) 400 12 5
noncomputable def modE (n : Nat) : IE := .rem (.wrap .u64 (.var n)) (.lit 5)
noncomputable def okKey (fs : List Fact) : Bool := allOf (runK [xsV, vi 6, vi 7] (slMem [xsE] (fs ++ slF 2 3 4 hi64) 10)) isTrue
noncomputable def okKeyN (fs : List Fact) : Bool := allOf (callF (tabJ []) (spOf spU) (bxOf []) 400 12 5 [.nils, vi 6, vi 7] (slMem [] fs 10)) isTrue
end Go.Proofs.Ytpgnpdejefpdbaa
