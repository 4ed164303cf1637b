/- The executor's operations. -/
import Derived.Test.YtgjbhgdmgncoaaaSxC
import Derived.Laws.StructEq
namespace Go.Sx
open Go

def ofV : Value → Option SV
  | .agg cs => match ofCells cs.toList with
    | some c => some (.agg c)
    | none => none
  | v => ofCell v
theorem ofV_ok (E : Env) {v : Value} {s : SV} (h : ofV v = some s) : dv E s = v := by
  unfold ofV at h
  split at h
  · split at h
    · rename_i cs _ c hc
      cases h
      simp [dv, dl, ofCells_ok E _ _ hc]
    · cases h
  · exact (ofCell_ok E h).1

def opd (tm : List SV) : Operand → Option SV
  | .tmp t => some (tm.getD t .undef)
  | .const v => ofV v
  | .func f => some (.fn f .nil)
  | .global _ => none
theorem opd_ok {E : Env} {tm : List SV} {a : Act} (ha : a.tmps = (tm.map (dv E)).toArray) {x : Operand} {v : SV} (h : opd tm x = some v) : a.eval x = dv E v := by
  unfold opd at h
  split at h
  · rename_i t
    cases h
    simp only [Act.eval, ha]
    rw [Array.getD_eq_getD_getElem?, List.getElem?_toArray, List.getElem?_map, List.getD_eq_getElem?_getD]
    cases tm[t]? <;> rfl
  · simp only [Act.eval]; exact (ofV_ok E h).symm
  · cases h; rfl
  · cases h

/- numbers -/
theorem b_eq (x y : Int) : (x == y) = decide (x = y) := by rw [Bool.eq_iff_iff]; simp
theorem b_ne (x y : Int) : (x != y) = !decide (x = y) := by rw [Bool.eq_iff_iff]; simp
theorem b_le (x y : Int) : decide (x ≤ y) = !decide (y < x) := by rw [Bool.eq_iff_iff]; simp
theorem b_ge (x y : Int) : decide (x ≥ y) = !decide (x < y) := by rw [Bool.eq_iff_iff]; simp
def intBin (kn : Know) (op : BinOp) (k : IntKind) (a b : IE) : Option SV :=
  match op with
  | .add => some (.int k (mkWrap kn.facts k (mkAdd a b)))
  | .sub => some (.int k (mkWrap kn.facts k (mkSub a b)))
  | .mul => some (.int k (mkWrap kn.facts k (mkMul a b)))
  | .quo => if mkEq kn b (.lit 0) = .lit false then some (.int k (mkWrap kn.facts k (mkQuo a b))) else none
  | .rem => if mkEq kn b (.lit 0) = .lit false then some (.int k (mkRem kn.facts a b)) else none
  | .and => some (.int k (mkBit .and k a b))
  | .or => some (.int k (mkBit .or k a b))
  | .xor => some (.int k (mkBit .xor k a b))
  | .andNot => some (.int k (mkBit .andNot k a b))
  | .eql => some (.bool (mkEq kn a b))
  | .neq => some (.bool (mkNot (mkEq kn a b)))
  | .lss => some (.bool (mkLt kn a b))
  | .leq => some (.bool (mkNot (mkLt kn b a)))
  | .gtr => some (.bool (mkLt kn b a))
  | .geq => some (.bool (mkNot (mkLt kn a b)))
  | _ => none
theorem intBin_ok {E : Env} {kn : Know} (h : KnowOk E kn) {P : Program} {op : BinOp} {k : IntKind} {a b : IE} {r : SV} (hr : intBin kn op k a b = some r) (t : Nat) (w : World) :
    (binOp op t (.int k (ev E a)) (.int k (ev E b))).run P w = .ok (dv E r) w := by
  have hE := h.env
  have hf := h.facts
  unfold intBin at hr
  split at hr
  all_goals first | (cases hr; done) | skip
  all_goals try (
    cases hr
    simp [binOp, Op.intArith, Op.intBits, Op.intCmp, dv, dl, mkWrap_ok hE hf, mkAdd_ok, mkSub_ok, mkMul_ok, mkBit_ok, bitI, mkEq_ok h, mkLt_ok h, mkNot_ok]
    done)
  all_goals try (
    cases hr
    simp only [binOp, Op.intCmp, dv, dl, mkEq_ok h, mkLt_ok h, mkNot_ok, b_eq, b_ne, b_le, List.headD_cons, ne_eq, not_true_eq_false, if_false, Sem.run_pure]
    done)
  · split at hr
    · rename_i he
      cases hr
      have := mkEq_ok h b (.lit 0)
      rw [he] at this
      simp only [evB, ev_lit] at this
      have hne : ev E b ≠ 0 := of_decide_eq_false this.symm
      simp [binOp, Op.intDiv, hne, dv, dl, mkWrap_ok hE hf, mkQuo_ok]
    · cases hr
  · split at hr
    · rename_i he
      cases hr
      have := mkEq_ok h b (.lit 0)
      rw [he] at this
      simp only [evB, ev_lit] at this
      have hne : ev E b ≠ 0 := of_decide_eq_false this.symm
      simp [binOp, Op.intDiv, hne, dv, dl, mkRem_ok hE hf]
    · cases hr
end Go.Sx
