/- views of keys: a key is there or not, with a link at the high level or not. -/
import Derived.Test.YtdngeccbmalbnaaR
import Derived.Test.YtdngeccbmalbnaaE4
namespace Go.Proofs.Ytdngeccbmalbnaa
open Go.Sx Go
set_option maxRecDepth 100000
/-- of each key: is it there, is it at the high level -/
abbrev St := List (IE × IE)
noncomputable def isE (c t e : IE) : IE := .ite false c (.lit 1) t e
/-- the link of a key's (or the head's) to the next one at a level: j is the next key's number -/
noncomputable def nxt0 : St → Int → IE
  | [], _ => .lit 0
  | (b, _) :: r, j => isE b (.lit (j + 1)) (nxt0 r (j + 1))
noncomputable def nxt1 : St → Int → IE
  | [], _ => .lit 0
  | (b, h) :: r, j => isE b (isE h (.lit (j + 1)) (nxt1 r (j + 1))) (nxt1 r (j + 1))
noncomputable def cellsZ : St → Int → SV
  | [], _ => .nil
  | (b, h) :: r, j => .wr (.lit (6 + 2 * j)) (isE b (nxt0 r (j + 1)) (.lit 0)) (.wr (.lit (7 + 2 * j)) (isE b (isE h (nxt1 r (j + 1)) (.lit 0)) (.lit 0)) (cellsZ r (j + 1)))
noncomputable def rowS (s : St) : SV := .wr (.lit 4) (nxt0 s 0) (.wr (.lit 5) (nxt1 s 0) (cellsZ s 0))
noncomputable def viewB (s : St) : SV := .cons (.arr .i64 0 (.lit 16) .nil) (.cons (.arr .i64 0 (.lit 16) (rowS s)) .nil)
noncomputable def viewS (s : St) : SV := nfS (.agg (knownL 16 (viewB s))) fun v => v
/-- the names of a state's tests -/
noncomputable def stV : St := [(.bv 20, .bv 30), (.bv 21, .bv 31), (.bv 22, .bv 32), (.bv 23, .bv 33), (.bv 24, .bv 34)]
/-- an ask that needs nothing: a view; its one answer stands in a block of its own, the name 50 -/
noncomputable def askB (s : St) : SV := .tup (.cons (.agg (.cons (.int .i64 (.lit (-1))) (knownL 16 (.cons (.arr .i64 0 (.lit 16) .nil) (.cons (.arr .i64 0 (.lit 16) (rowS s)) (.cons (.sli 50 0 (.lit 0) (.lit 1) (.lit 1)) .nil)))))) (.cons (.int .i64 (.lit 0)) .nil))
noncomputable def memB (cs : List BE) : Mem := { know := ⟨[], cs⟩, heap := [], seg := 0, next := 0, nv := 50 }
noncomputable def formB (cs : List BE) (oc : SV) (s : St) (code num : IE) : FormZ := { args := [viewS stV, .agg oc], mem := memB cs, val := askB s, t := 48, c := .cons (.int .i64 code) (.cons (.int .i64 num) .nil) }
/-- a view that may be, without another segment -/
noncomputable def viewF (n : Nat) : Sx.Form := { args := viewP.args, mem := viewP.mem, val := .bool (.lit true), out := [], n := n }
theorem viewF_ok : formRun (fun1 18) (viewF 3) = true := by kernel_rfl
noncomputable def v18 : List SV → X SV := orX (formX (viewF 3)) (mergeX (fun1 18))
theorem v18_ok : SpecOk G0 Try.prog 18 v18 := orX_ok (formX_ok (fun1_ok 18) _ viewF_ok) (mergeX_ok (fun1_ok 18))
/-- next of a link that is one of known numbers behind tests -/
noncomputable def leafMap (n : Int) : IE → Option IE
  | .lit v => nfZ (nextZ n (v + -1)) fun z => some (.lit z)
  | .ite k a b x y => match leafMap n x, leafMap n y with
    | some x, some y => some (.ite k a b x y)
    | _, _ => none
  | _ => none
theorem leafMap_ok (E : Env) (n : Int) : ∀ (e r : IE), leafMap n e = some r → ev E r = nextZ n (ev E e + -1) := by
  intro e
  induction e with
  | lit v => intro r h; unfold leafMap at h; rw [nfZ_eq] at h; cases h; rfl
  | ite k a b x y _ _ hx hy =>
    intro r h
    unfold leafMap at h
    split at h
    · rename_i x' y' h1 h2
      cases h
      rw [ev_ite, ev_ite, hx _ h1, hy _ h2]
      by_cases hq : (if k = true then decide (ev E a < ev E b) else decide (ev E a = ev E b)) = true
      · rw [if_pos hq, if_pos hq]
      · rw [if_neg hq, if_neg hq]
    · cases h
  | _ => intro r h; simp [leafMap] at h
noncomputable def asTree : List SV → SV → SV × List Fact
  | [_p, .int _k (.lit x), _q], .int kd (.ite k (.add e (.lit (.negSucc 0))) b c d) => cond (ieEq (.ite k (.add e (.lit (.negSucc 0))) b c d) (tmpl (x + 1) (.add e (.lit (.negSucc 0)))))
      (match leafMap (x + 1) e with
      | some r => (.int kd r, [])
      | none => (.int kd (.ite k (.add e (.lit (.negSucc 0))) b c d), [])) (.int kd (.ite k (.add e (.lit (.negSucc 0))) b c d), [])
  | _, v => (v, [])
theorem asTree_ok (E : Env) (args : List SV) (v : SV) (_ : E.f = G0) (_ : E.Ok) : dv E (asTree args v).1 = dv E v ∧ ∀ x ∈ (asTree args v).2, FactOk E x := by
  unfold asTree
  split
  · rename_i _ _ x _ kd k e b c d
    cases hc : (ieEq (.ite k (.add e (.lit (.negSucc 0))) b c d) (tmpl (x + 1) (.add e (.lit (.negSucc 0))))) with
    | false => exact ⟨rfl, fun _ h => (by cases h)⟩
    | true =>
      have hc := ieEq_ok hc
      dsimp only [cond]
      split
      · rename_i r hr
        refine ⟨?_, fun _ h => (by cases h)⟩
        rw [hc]
        show Value.int kd (ev E r) = Value.int kd (ev E (tmpl (x + 1) (.add e (.lit (.negSucc 0)))))
        rw [leafMap_ok E _ _ _ hr]
        unfold tmpl nextZ
        simp only [ite_lt, ite_eq, ev_lit, ev_add]
        congr 1
        have hm : (Int.negSucc 0 : Int) = -1 := rfl
        rw [hm]
        repeat' split
        all_goals omega
      · exact ⟨rfl, fun _ h => (by cases h)⟩
  · exact ⟨rfl, fun _ h => (by cases h)⟩
noncomputable def k38t : List SV → X SV := groupX (funK 38)
theorem k38t_ok : SpecOk G0 Try.prog 38 k38t := groupX_ok (funK_ok 38)
noncomputable def form38t (x lv : Int) : Sx.Form := { form38 x lv with val := .int .i64 (cond (decide (x = 4)) (.lit 5) (tmpl (x + 1) (linkE x lv))) }
theorem forms38t_ok : ((at12 form38t).all (formRun k38t)) = true := by kernel_rfl
noncomputable def b38 : List SV → X SV := litArgX 1 (splitX 1 (postX asTree (postHX 59 chainF (pickX (g12 form38t) k38t))))
theorem b38_ok : SpecOk G0 Try.prog 38 b38 := litArgX_ok (splitX_ok (postX_ok (postHX_ok (pickX_ok k38t_ok (g12_ok k38t_ok forms38t_ok)) 59 chainF_ok) asTree_ok) 1) 1
noncomputable def b51 : List SV → X SV := litArgX 0 (splitX 0 (litsX (fun0 51) cells51))
theorem b51_ok : SpecOk G0 Try.prog 51 b51 := litArgX_ok (splitX_ok (litsX_ok (fun0_ok 51) cells51_ok) 0) 0
noncomputable def b48 : List SV → X SV := litArgX 1 (splitX 1 (fun2 48))
theorem b48_ok : SpecOk G0 Try.prog 48 b48 := litArgX_ok (splitX_ok (fun2_ok 48) 1) 1
noncomputable def spB : List (Nat × (List SV → X SV)) := [(38, b38), (18, v18), (48, b48), (51, b51)]
theorem okB : ∀ x ∈ spB, SpecOk G0 Try.prog x.1 x.2 := cons_ok (a := (38, b38)) b38_ok (cons_ok (a := (18, v18)) v18_ok (cons_ok (a := (48, b48)) b48_ok (one_ok (a := (51, b51)) b51_ok)))
noncomputable def b8 : List SV → X SV := gcR (pruneX (funL spB 8))
theorem b8_ok : SpecOk G0 Try.prog 8 b8 := gcR_ok (pruneX_ok (funL_ok okB 8))
end Go.Proofs.Ytdngeccbmalbnaa
