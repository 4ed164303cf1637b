/- what every law's closing needs; a slice of structs of ints, opened. -/
import Derived.Test.YtgjbhgdmgncoaaaF
import Derived.WalkKit
import Derived.ProofKit
import Derived.OpenShut
import Derived.Lib.SmallJoins
import Derived.Deep.Slices
import Derived.Deep.Fields
import Derived.ChangeSame
namespace Go.Proofs.Ytgjbhgdmgncoaaa
open Go.ChangeShapes Go.WideShapes Go.ChangeAt Go.RowKit Go.Deep

theorem own : ownKnob Try.prog.godebug = none := by kernel_rfl
theorem laidOut : laidOutB Try.prog = true := by kernel_rfl
theorem i64_bd {n : Int} (h : (Lit.int .i64 n).wf = true) : -9223372036854775808 ≤ n ∧ n ≤ 9223372036854775807 := by
  simp [Lit.wf] at h; have a : IntKind.i64.min = -9223372036854775808 := by decide
  have b : IntKind.i64.max = 9223372036854775807 := by decide
  omega
section
variable {H : Type} {enc : TypeId × Value → H} {P : Program} {w : World} {base : Nat} {spare : Nat → Bool} {held : Bool}
/-- a slice whose elements are structs of ints: its cells are ints, one after the other -/
theorem open_int_structs {t e : TypeId} {fs : Array Field} {r : Reach} {b0 : Nat} {v : Value} {d : DataW H} {p : List MemPlace} (ht : P.underlying t = some (.slice e)) (he : P.underlying e = some (.struct fs))
    (hone : oneCellFields P fs = true) (hint : ∀ (j : Nat) (f : Field), fs[j]? = some f → P.underlying f.type = some (.int .i64)) (hC : P.cellsOf e = fs.size)
    (hv : Value.okWide P w r b0 t v) (h : DataW.Trod enc P w base spare held t v d p) :
    v = .slice none 0 0 ∨ ∃ (b o len cap : Nat) (zs : List Int), v = .slice (some ⟨b, o, none⟩) len cap ∧ len ≤ cap ∧ cap ≤ maxLen ∧ b < w.heap.size ∧ zs.length = len * fs.size ∧
      (∀ z ∈ zs, -9223372036854775808 ≤ z ∧ z ≤ 9223372036854775807) ∧ ∀ j, j < zs.length → w.cell? ⟨b, o + j, none⟩ = some (.int .i64 (zs.getD j 0)) := by
  obtain ⟨fuel, hf⟩ := h
  have hcells : v.cells.toList = [v] ∨ ∃ cs, v = .agg cs := by
    cases v <;> first | exact .inl rfl | exact .inr ⟨_, rfl⟩
  have hagg : ∀ cs, v ≠ .agg cs := by
    rintro cs rfl
    unfold Value.okWide Cell.okWide at hv
    rw [ht] at hv
    unfold Cell.ok at hv
    rw [ht] at hv
    exact hv
  have hc : v.cells.toList = [v] := hcells.resolve_right (fun ⟨cs, h⟩ => hagg cs h)
  rw [hc] at hf
  rcases open_slice ht hf with ⟨h0, _⟩ | ⟨a, len, cap, m, n, D, Pl, hcs, hb, hl, hm, hmm, hx, hi⟩
  · left; simpa using h0
  · right
    have hv' : v = .slice (some a) len cap := by simpa using hcs
    subst hv'
    have hok : len ≤ cap ∧ (cap : Int) ≤ IntKind.i64.max ∧ w.has P r b0 a e cap := by
      unfold Value.okWide Cell.okWide at hv
      rw [ht] at hv
      unfold Cell.ok at hv
      rw [ht] at hv
      exact hv
    obtain ⟨_, _, _, hsp, row, cells, hsh, _⟩ := hok
    have hlt : a.block < w.heap.size := by
      unfold World.shape? at hsh
      rcases Nat.lt_or_ge a.block w.heap.size with h | h
      · exact h
      · simp [Array.getElem?_eq_none h] at hsh
    have hle : len ≤ m := by rw [hmm]; split <;> omega
    have ha : ∀ k, a.add k = ⟨a.block, a.off + k, none⟩ := by
      intro k; unfold Addr.add; split
      · rename_i hk; subst hk; cases a; simp_all
      · rfl
    have each : ∀ i j, i < len → j < fs.size → ∃ z, w.cell? ⟨a.block, a.off + (i * fs.size + j), none⟩ = some (.int .i64 z) ∧ (Lit.int .i64 z).wf = true := by
      intro i j hil hjl
      obtain ⟨cs', hc, ht'⟩ := hi i (by omega)
      rw [hC] at hc
      obtain ⟨ys, n', hn', hy, hlen, hyl, hg⟩ := DataW.trod_struct he ht'
      obtain ⟨_, hcl, hat⟩ := World.cells?_some hc
      have hjf : fs[j]? = some fs[j] := Array.getElem?_eq_getElem hjl
      obtain ⟨ho, hk⟩ := hone_of hone j _ hjf
      have h1 := hg j _ hjf
      rw [ho, hk] at h1
      have hone' : (cs'.drop j).take 1 = [cs'[j]'(by omega)] := by
        rw [List.drop_eq_getElem_cons (by omega)]
        rfl
      rw [hone', List.getElem?_eq_getElem (show j < ys.length by omega)] at h1
      obtain ⟨z, e0, _, wz⟩ := DataW.trod_int (hint j _ hjf) h1
      refine ⟨z, ?_, wz⟩
      have hcell := hat j hjl
      rw [Go.Deep.add_add, ha, List.getElem?_eq_getElem (show j < cs'.length by omega)] at hcell
      simp only [List.cons.injEq, and_true] at e0
      rw [hcell, e0]
    have hall : ∀ j, j < len * fs.size → ∃ z, w.cell? ⟨a.block, a.off + j, none⟩ = some (.int .i64 z) ∧ (Lit.int .i64 z).wf = true := by
      intro j hj
      have hpos : 0 < fs.size := by
        rcases Nat.eq_zero_or_pos fs.size with h | h
        · rw [h] at hj; omega
        · exact h
      obtain ⟨z, h1, h2⟩ := each (j / fs.size) (j % fs.size) (Nat.div_lt_of_lt_mul (by rw [Nat.mul_comm]; exact hj)) (Nat.mod_lt _ hpos)
      refine ⟨z, ?_, h2⟩
      rw [← h1, Nat.div_add_mod' j fs.size]
    let zs : List Int := (List.range (len * fs.size)).map fun j => match w.cell? ⟨a.block, a.off + j, none⟩ with | some (.int _ z) => z | _ => 0
    have hz : ∀ j, j < len * fs.size → w.cell? ⟨a.block, a.off + j, none⟩ = some (.int .i64 (zs.getD j 0)) ∧ (Lit.int .i64 (zs.getD j 0)).wf = true := by
      intro j hj
      obtain ⟨z, h1, h2⟩ := hall j hj
      have : zs.getD j 0 = z := by
        simp only [zs, List.getD_eq_getElem?_getD, List.getElem?_map, List.getElem?_range hj, Option.map_some, h1, Option.getD_some]
      rw [this]; exact ⟨h1, h2⟩
    have hzl : zs.length = len * fs.size := by simp [zs]
    refine ⟨a.block, a.off, len, cap, zs, by cases a; simp_all, hl, hm, hlt, hzl, ?_, fun j hj => (hz j (by rw [← hzl]; exact hj)).1⟩
    intro z hzm
    obtain ⟨j, hj, rfl⟩ := List.getElem_of_mem hzm
    have := (hz j (by rw [← hzl]; exact hj)).2
    rw [List.getD_eq_getElem?_getD, List.getElem?_eq_getElem hj, Option.getD_some] at this
    exact i64_bd this
end
def isInt64 : Option TypeDesc → Bool | some (.int .i64) => true | _ => false
theorem isInt64_eq {o : Option TypeDesc} (h : isInt64 o = true) : o = some (.int .i64) := by
  unfold isInt64 at h
  split at h
  · rfl
  · cases h
end Go.Proofs.Ytgjbhgdmgncoaaa
