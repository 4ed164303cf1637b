/- what SkipWalks is run with: a head of its loop. -/
import Derived.Test.YtdngeccbmalbnaaBL
import Derived.Test.YtdngeccbmalbnaaE4
namespace Go.Proofs.Ytdngeccbmalbnaa
open Go.Sx Go
set_option maxRecDepth 100000
/-- a view of which all is known, of zeros: a view without keys -/
noncomputable def stF : St := [(.lit 0, .lit 0), (.lit 0, .lit 0), (.lit 0, .lit 0), (.lit 0, .lit 0), (.lit 0, .lit 0)]
noncomputable def form15 : Sx.Form := { args := [], mem := mem0 10, val := viewS stF, out := [], n := 2 }
theorem form15_ok : formRun (fun2 15) form15 = true := by kernel_rfl
/-- is the key there that an operation is about? -/
noncomputable def keyAt (a : Int) : SV → Option BE
  | .wr (.lit z) (.ite _ (.bv j) _ _ _) ws => cond (zEq z (6 + 2 * a)) (some (.var j)) (keyAt a ws)
  | .wr _ _ ws => keyAt a ws
  | _ => none
noncomputable def ask8 : List SV → Mem → Option BE
  | [.agg v, .agg (.cons (.int _ (.lit k)) (.cons (.int _ (.lit a)) _))], _ => if k = 6 ∨ k = 7 then match nthC 17 v with
    | some (.arr _ _ _ ws) => keyAt a ws
    | _ => none else none
  | _, _ => none
noncomputable def opOf : List SV → Option (Int × Int × Int)
  | [_, .agg (.cons (.int _ (.lit k)) (.cons (.int _ (.lit a)) (.cons _ (.cons (.int _ (.lit x)) _))))] => some (k, a, x)
  | _ => none
noncomputable def byKey (a : Int) (l : List FormZ) : Option FormZ := l[a.toNat]?
/-- which form tells of an operation; where a key is there, and where it is not -/
noncomputable def formY (o : Int × Int × Int) : Option FormZ := match o with
  | (6, a, x) => byKey (2 * a + x) [f_insY0_0, f_insY0_1, f_insY1_0, f_insY1_1, f_insY2_0, f_insY2_1, f_insY3_0, f_insY3_1, f_insY4_0, f_insY4_1]
  | (7, a, _) => byKey a [f_eraseY0, f_eraseY1, f_eraseY2, f_eraseY3, f_eraseY4]
  | (8, a, _) => byKey a [f_find0, f_find1, f_find2, f_find3, f_find4]
  | (9, _, _) => some f_min
  | (10, _, _) => some f_range
  | _ => none
noncomputable def formN (o : Int × Int × Int) : Option FormZ := match o with
  | (6, a, x) => byKey (2 * a + x) [f_insN0_0, f_insN0_1, f_insN1_0, f_insN1_1, f_insN2_0, f_insN2_1, f_insN3_0, f_insN3_1, f_insN4_0, f_insN4_1]
  | (7, a, _) => byKey a [f_eraseN0, f_eraseN1, f_eraseN2, f_eraseN3, f_eraseN4]
  | _ => none
theorem byKey_mem {a : Int} {l : List FormZ} {p : FormZ} (h : byKey a l = some p) : p ∈ l := List.mem_of_getElem? h
theorem formY_ok {o : Int × Int × Int} {p : FormZ} (h : formY o = some p) : SpecOk G0 Try.prog 8 (zX p) := by
  unfold formY at h
  split at h
  · have := byKey_mem h
    simp only [List.mem_cons, List.not_mem_nil, or_false] at this
    rcases this with rfl | rfl | rfl | rfl | rfl | rfl | rfl | rfl | rfl | rfl
    · exact s_insY0_0
    · exact s_insY0_1
    · exact s_insY1_0
    · exact s_insY1_1
    · exact s_insY2_0
    · exact s_insY2_1
    · exact s_insY3_0
    · exact s_insY3_1
    · exact s_insY4_0
    · exact s_insY4_1
  · have := byKey_mem h
    simp only [List.mem_cons, List.not_mem_nil, or_false] at this
    rcases this with rfl | rfl | rfl | rfl | rfl
    · exact s_eraseY0
    · exact s_eraseY1
    · exact s_eraseY2
    · exact s_eraseY3
    · exact s_eraseY4
  · have := byKey_mem h
    simp only [List.mem_cons, List.not_mem_nil, or_false] at this
    rcases this with rfl | rfl | rfl | rfl | rfl
    · exact s_find0
    · exact s_find1
    · exact s_find2
    · exact s_find3
    · exact s_find4
  · cases h; exact s_min
  · cases h; exact s_range
  · cases h
theorem formN_ok {o : Int × Int × Int} {p : FormZ} (h : formN o = some p) : SpecOk G0 Try.prog 8 (zX p) := by
  unfold formN at h
  split at h
  · have := byKey_mem h
    simp only [List.mem_cons, List.not_mem_nil, or_false] at this
    rcases this with rfl | rfl | rfl | rfl | rfl | rfl | rfl | rfl | rfl | rfl
    · exact s_insN0_0
    · exact s_insN0_1
    · exact s_insN1_0
    · exact s_insN1_1
    · exact s_insN2_0
    · exact s_insN2_1
    · exact s_insN3_0
    · exact s_insN3_1
    · exact s_insN4_0
    · exact s_insN4_1
  · have := byKey_mem h
    simp only [List.mem_cons, List.not_mem_nil, or_false] at this
    rcases this with rfl | rfl | rfl | rfl | rfl
    · exact s_eraseN0
    · exact s_eraseN1
    · exact s_eraseN2
    · exact s_eraseN3
    · exact s_eraseN4
  · cases h
noncomputable def gY (args : List SV) : Option (List SV → X SV) := match opOf args with
  | some o => match formY o with
    | some p => some (zX p)
    | none => none
  | none => none
noncomputable def gN (args : List SV) : Option (List SV → X SV) := match opOf args with
  | some o => match formN o with
    | some p => some (zX p)
    | none => none
  | none => none
theorem gY_ok (args : List SV) (s' : List SV → X SV) (h : gY args = some s') : SpecOk G0 Try.prog 8 s' := by
  unfold gY at h
  split at h
  · split at h
    · rename_i p hp; cases h; exact formY_ok hp
    · cases h
  · cases h
theorem gN_ok (args : List SV) (s' : List SV → X SV) (h : gN args = some s') : SpecOk G0 Try.prog 8 s' := by
  unfold gN at h
  split at h
  · split at h
    · rename_i p hp; cases h; exact formN_ok hp
    · cases h
  · cases h
noncomputable def w8 : List SV → X SV := litArgX 1 (preX ask8 (pickX gY (pickX gN b8)))
theorem w8_ok : SpecOk G0 Try.prog 8 w8 := litArgX_ok (preX_ok (pickX_ok (pickX_ok b8_ok gN_ok) gY_ok) ask8) 1
noncomputable def w15 : List SV → X SV := orX (formX form15) (fun2 15)
theorem w15_ok : SpecOk G0 Try.prog 15 w15 := orX_ok (formX_ok (fun2_ok 15) _ form15_ok) (fun2_ok 15)
noncomputable def spW : List (Nat × (List SV → X SV)) := [(8, w8), (15, w15)]
theorem okSpW : ∀ x ∈ spW, SpecOk G0 Try.prog x.1 x.2 := cons_ok (a := (8, w8)) w8_ok (one_ok (a := (15, w15)) w15_ok)
noncomputable def cxW : CX := callF (tabJ []) (spOf (spW ++ spL)) (bxOf []) 400 12
theorem cxW_ok : CallsOk G0 Try.prog cxW := by
  unfold cxW
  rw [callF_eq]
  exact callD_ok (spC_ok okSpW) noBx 400 12
noncomputable def boolC : SV := .cons (.bool (.var 20)) (.cons (.bool (.var 21)) (.cons (.bool (.var 22)) (.cons (.bool (.var 23)) (.cons (.bool (.var 24)) .nil))))
/-- a round's head: how many rounds were; which keys are there, and at which levels -/
noncomputable def headW : HeadP := {
  tm := slotsN 179 [(0, slV 1 2 3 4), (3, .ptr 20 0 (.lit 0)), (4, .ptr 21 0 (.lit 0)), (5, vi 12)]
  mem := { know := ⟨(.var 12, 0, 50) :: slF 2 3 4 hi64, []⟩, heap := [⟨20, 0, false, 25, .lit 0, Sx.nfS (knownL 16 (viewB stV)) fun c => c⟩, ⟨21, 0, false, 45, .lit 0, boolC⟩, slE 1 2 3 5 1], seg := 30, next := 0, nv := 400 }
  mu := .sub (.lit 50) (.var 12) }
noncomputable def leaveW : LeaveP := { e := .normal, tm := slotsN 179 [], mem := { know := ⟨[], []⟩, heap := [], seg := 30, next := 0, nv := 400 } }
noncomputable def eK : IE := .rem (.bit .and .i64 (.sel 5 (.var 12)) (.lit 1023)) (.lit 5)
noncomputable def eX : IE := .bit .and .i64 (.shr (.sel 5 (.var 12)) 10) (.lit 1)
noncomputable def eP : IE := .bit .and .i64 (.shr (.sel 5 (.var 12)) 11) (.lit 1)
noncomputable def wOk (c : List Fact × List BE) : Bool := headOk (tabJ []) cxW (fun _ => none) none 400 0 (loopBody 0 (bodyOf Try.f5)) 12 [headW] [leaveW] (headW.moreC c)
end Go.Proofs.Ytdngeccbmalbnaa
