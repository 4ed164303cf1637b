/- how the arguments of a law are opened, and how a law is closed, whatever its parameters. -/
import Derived.Test.YtfmklmpbfahoeaaRows
import Derived.WalkKit
import Derived.ProofKit
import Derived.OpenShut
import Derived.Lib.SmallJoins
namespace Go.Proofs.Ytfmklmpbfahoeaa
open Go.ChangeShapes Go.WideShapes Go.ChangeAt Go.RowKit Go.Deep

theorem own : ownKnob Try.prog.godebug = none := by kernel_rfl
theorem laidOut : laidOutB Try.prog = true := by kernel_rfl

/-- A struct by value, all of whose fields are ints: its cells are ints that fit. -/
theorem open_ints_agg {H : Type} {enc : TypeId × Value → H} {P : Program} {w : World} {base : Nat} {spare : Nat → Bool} {held : Bool} {r : Reach} {b0 : Nat} {t : TypeId} {fs : Array Field} {v : Value} {d : DataW H} {p : List MemPlace}
    (hs : P.underlying t = some (.struct fs)) (hone : oneCellFields P fs = true) (hint : ∀ (j : Nat) (f : Field), fs[j]? = some f → P.underlying f.type = some (.int .i64)) (hC : P.cellsOf t = fs.size)
    (hv : Value.okWide P w r b0 t v) (h : DataW.Trod enc P w base spare held t v d p) :
    ∃ cs : Array Value, v = .agg cs ∧ cs.size = fs.size ∧ ∀ j, j < fs.size → ∃ z, cs[j]? = some (.int .i64 z) ∧ (Lit.int .i64 z).wf = true := by
  obtain ⟨cs, rfl, hsz⟩ := okWide_struct hs hv
  refine ⟨cs, rfl, hsz.trans hC, fun j hj => ?_⟩
  obtain ⟨fuel, hf⟩ := h
  obtain ⟨xs, n, _, _, _, hxl, hg⟩ := DataW.trod_struct hs hf
  have hjf : fs[j]? = some fs[j] := Array.getElem?_eq_getElem hj
  obtain ⟨ho, hk⟩ := hone_of hone j _ hjf
  have h1 := hg j _ hjf
  rw [ho, hk] at h1
  have hjc : j < cs.toList.length := by rw [Array.length_toList, hsz, hC]; exact hj
  have e1 : (((Value.agg cs).cells.toList).drop j).take 1 = [cs.toList[j]] := by
    show (cs.toList.drop j).take 1 = _
    rw [List.drop_eq_getElem_cons hjc]
    rfl
  have e2 : xs[j]? = some (xs[j]'(by rw [hxl]; exact hj)) := List.getElem?_eq_getElem _
  rw [e1, e2] at h1
  obtain ⟨z, e0, _, wz⟩ := DataW.trod_int (hint j _ hjf) h1
  refine ⟨z, ?_, wz⟩
  simp only [List.cons.injEq, and_true] at e0
  rw [← e0, ← Array.getElem?_toList]
  exact List.getElem?_eq_getElem hjc

theorem i64_bd {n : Int} (h : (Lit.int .i64 n).wf = true) : -9223372036854775808 ≤ n ∧ n ≤ 9223372036854775807 := by
  simp [Lit.wf] at h; have a : IntKind.i64.min = -9223372036854775808 := by decide
  have b : IntKind.i64.max = 9223372036854775807 := by decide
  omega
def isInt64 : Option TypeDesc → Bool | some (.int .i64) => true | _ => false
theorem isInt64_eq {o : Option TypeDesc} (h : isInt64 o = true) : o = some (.int .i64) := by
  unfold isInt64 at h
  split at h
  · rfl
  · cases h
theorem fields23 : Try.prog.underlying 23 = some (.struct (Try.prog.fieldsOf 23)) := by kernel_rfl
theorem open_word {H : Type} {enc : TypeId × Value → H} {w : World} {base : Nat} {spare : Nat → Bool} {held : Bool} {r : Reach} {b0 : Nat} {v : Value} {d : DataW H} {p : List MemPlace}
    (hv : Value.okWide Try.prog w r b0 23 v) (h : DataW.Trod enc Try.prog w base spare held 23 v d p) :
    ∃ k a s g e t q : Int, v = .agg #[.int .i64 k, .int .i64 a, .int .i64 s, .int .i64 g, .int .i64 e, .int .i64 t, .int .i64 q] := by
  have hall : ∀ (j : Nat) (f : Field), (Try.prog.fieldsOf 23)[j]? = some f → Try.prog.underlying f.type = some (.int .i64) := by
    have e : (Try.prog.fieldsOf 23).all (fun f => isInt64 (Try.prog.underlying f.type)) = true := by kernel_rfl
    intro j f hj
    rw [Array.all_eq_true] at e
    obtain ⟨hj1, rfl⟩ := Array.getElem?_eq_some_iff.1 hj
    exact isInt64_eq (e j hj1)
  obtain ⟨cs, rfl, hsz, hz⟩ := open_ints_agg fields23 (by kernel_rfl) hall (by kernel_rfl) hv h
  have h7 : (Try.prog.fieldsOf 23).size = 7 := by kernel_rfl
  rw [h7] at hsz hz
  obtain ⟨z0, e0, _⟩ := hz 0 (by omega)
  obtain ⟨z1, e1, _⟩ := hz 1 (by omega)
  obtain ⟨z2, e2, _⟩ := hz 2 (by omega)
  obtain ⟨z3, e3, _⟩ := hz 3 (by omega)
  obtain ⟨z4, e4, _⟩ := hz 4 (by omega)
  obtain ⟨z5, e5, _⟩ := hz 5 (by omega)
  obtain ⟨z6, e6, _⟩ := hz 6 (by omega)
  refine ⟨z0, z1, z2, z3, z4, z5, z6, congrArg Value.agg (Array.ext_getElem? fun i => ?_)⟩
  match i with
  | 0 => simpa using e0
  | 1 => simpa using e1
  | 2 => simpa using e2
  | 3 => simpa using e3
  | 4 => simpa using e4
  | 5 => simpa using e5
  | 6 => simpa using e6
  | n + 7 => rw [Array.getElem?_eq_none (by omega), Array.getElem?_eq_none (by simp)]
end Go.Proofs.Ytfmklmpbfahoeaa
