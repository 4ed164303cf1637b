/- a law over accesses: its call, whatever slice came in. -/
import Derived.Test.YtgjbhgdmgncoaaaD
namespace Go.Proofs.Ytgjbhgdmgncoaaa
open Go.Sx Go Go.RowKit

def envA (w : World) (b o len cap : Nat) (zs : List Int) : Env where
  i k := if k = 3 then len else if k = 4 then cap else 0
  b _ := false
  l k := if k = 5 then zs else []
  base k := if k = 1 then b else w.heap.size
  o k := if k = 1 then o else 0
  v _ := .tuple #[]
  f _ _ := 0
theorem envA_ok {w : World} {b o len cap : Nat} {zs : List Int} (h1 : len ≤ cap) (h2 : cap ≤ maxLen) (hz : ∀ z ∈ zs, -9223372036854775808 ≤ z ∧ z ≤ 9223372036854775807) : (envA w b o len cap zs).Ok := by
  unfold maxLen at h2
  refine ⟨fun k => ?_, fun k x hx => ?_, fun _ _ => (by simp [envA, in64, lo64, hi64])⟩
  · simp only [envA, in64, lo64, hi64]
    split
    · omega
    · split <;> omega
  · simp only [envA] at hx
    split at hx
    · exact hz x hx
    · cases hx
theorem memA_ok {w : World} {b o len cap : Nat} {zs : List Int} (h1 : len ≤ cap) (h2 : cap ≤ maxLen) (hz : ∀ z ∈ zs, -9223372036854775808 ≤ z ∧ z ≤ 9223372036854775807) (nv : Nat) :
    MemOk (fun _ => False) w (envA w b o len cap zs) (mem0 nv) w :=
  ⟨⟨envA_ok h1 h2 hz, fun _ hf => (by cases hf), fun _ hc => (by cases hc)⟩, rfl, fun _ he => (by cases he), List.Pairwise.nil, fun _ he => (by cases he), Ext.refl _ _, rfl⟩
theorem actsMem_ok {w : World} {b o len cap : Nat} {zs : List Int} (h0 : 1 ≤ len) (h1 : len ≤ cap) (h2 : cap ≤ maxLen) (hb : b < w.heap.size) (hl : zs.length = len * 4)
    (hz : ∀ z ∈ zs, -9223372036854775808 ≤ z ∧ z ≤ 9223372036854775807) (hc : ∀ j, j < zs.length → w.cell? ⟨b, o + j, none⟩ = some (.int .i64 (zs.getD j 0))) :
    MemOk (fun _ => False) w (envA w b o len cap zs) actsMem w := by
  have hok := envA_ok (w := w) (b := b) (o := o) h1 h2 hz
  unfold maxLen at h2
  have e2 : ev (envA w b o len cap zs) (.var 2) = 0 := rfl
  have e3 : ev (envA w b o len cap zs) (.var 3) = len := rfl
  have e4 : ev (envA w b o len cap zs) (.var 4) = cap := rfl
  refine ⟨⟨hok, ?_, fun _ h => (by cases h)⟩, rfl, ?_, ?_, ?_, Ext.refl _ _, rfl⟩
  · intro f hf
    simp only [actsMem, List.mem_cons, List.not_mem_nil, or_false] at hf
    rcases hf with rfl | rfl | rfl
    · show (0 : Int) ≤ ev _ (.var 2) ∧ ev _ (.var 2) ≤ hi
      rw [e2]; exact ⟨by omega, by decide⟩
    · show (1 : Int) ≤ ev _ (.var 3) ∧ ev _ (.var 3) ≤ hi
      rw [e3]; simp only [hi]; omega
    · show (0 : Int) ≤ ev _ (.var 4) ∧ ev _ (.var 4) ≤ hi
      rw [e4]; simp only [hi]; omega
  · intro e he
    simp only [actsMem, List.mem_cons, List.not_mem_nil, or_false] at he
    subst he
    have hn : (ev (envA w b o len cap zs) (.mul (.var 3) (.lit 4))).toNat = len * 4 := by
      rw [ev_mul, e3, ev_lit]; omega
    refine ⟨hb, fun _ j v hj => ?_, fun h => (by cases h)⟩
    simp only [dl, hn, List.append_nil] at hj
    have hjl : j < len * 4 := by
      have := (List.getElem?_eq_some_iff.1 hj).1
      rwa [arrCells_len] at this
    rw [arrCells_get _ _ _ _ _ _ hjl] at hj
    cases hj
    have hcell := hc j (by omega)
    have hadr : (⟨Ent.blk (envA w b o len cap zs) actsE, (envA w b o len cap zs).o actsE.s + ((ev (envA w b o len cap zs) actsE.base).toNat + j), none⟩ : Addr) = ⟨b, o + j, none⟩ := by
      show (⟨b + 0, o + ((0 : Int).toNat + j), none⟩ : Addr) = _
      simp
    rw [hadr, hcell]
    rfl
  · exact List.pairwise_singleton _ _
  · intro e he hr
    simp only [actsMem, List.mem_cons, List.not_mem_nil, or_false] at he
    subst he
    cases hr
/-- the fields of an access -/
theorem fields28 : Try.prog.underlying 28 = some (.struct (Try.prog.fieldsOf 28)) := by kernel_rfl
theorem acts_walk {f : Nat} {s s1 : List SV → X SV} (hs : SpecOk Try.prog f s) (hs1 : SpecOk Try.prog f s1) (hrun : allOf (s [actsS] actsMem) isTrue = true) (hnil : allOf (s1 [.nils] (mem0 10)) isTrue = true) (hemp : allOf (s1 [emptyS] (mem0 10)) isTrue = true)
    {H : Type} {enc : TypeId × Value → H} {w : World} {base : Nat} {spare : Nat → Bool} {held : Bool} {r : Reach} {b0 : Nat} {v : Value} {d : DataW H} {p : List MemPlace}
    (hv : Value.okWide Try.prog w r b0 22 v) (h : DataW.Trod enc Try.prog w base spare held 22 v d p) :
    Calls Try.prog f #[v] w fun r w' => r = .returned (.bool true) ∧ Below w.heap.size w w' := by
  have hint : ∀ (j : Nat) (f : Field), (Try.prog.fieldsOf 28)[j]? = some f → Try.prog.underlying f.type = some (.int .i64) := by
    have e : (Try.prog.fieldsOf 28).all (fun f => isInt64 (Try.prog.underlying f.type)) = true := by kernel_rfl
    intro j f hj
    rw [Array.all_eq_true] at e
    obtain ⟨hj1, rfl⟩ := Array.getElem?_eq_some_iff.1 hj
    exact isInt64_eq (e j hj1)
  have h4 : (Try.prog.fieldsOf 28).size = 4 := by kernel_rfl
  rcases open_int_structs (show Try.prog.underlying 22 = some (.slice 28) by kernel_rfl) fields28 (by kernel_rfl) hint (by kernel_rfl) hv h with rfl | ⟨b, o, len, cap, zs, rfl, hl, hc, hb, hzl, hz, hcell⟩
  · exact law_ok hs1 hnil (E := envA w 0 0 0 0 []) (memA_ok (Nat.le_refl _) (Nat.zero_le _) (fun z hz => (by cases hz)) 10)
  · rw [h4] at hzl
    rcases Nat.eq_zero_or_pos len with h0 | h0
    · subst h0
      have := law_ok hs1 hemp (E := envA w b o 0 cap zs) (memA_ok hl hc hz 10)
      have e : ([emptyS].map (dv (envA w b o 0 cap zs))).toArray = #[Value.slice (some ⟨b, o, none⟩) 0 cap] := by
        show #[Value.slice (some ⟨b + 0, o + (0 : Int).toNat, none⟩) (0 : Int).toNat (Int.toNat (cap : Int))] = _
        simp
      rw [e] at this
      exact this
    · have := law_ok hs hrun (E := envA w b o len cap zs) (actsMem_ok h0 hl hc hb hzl hz hcell)
      have e : ([actsS].map (dv (envA w b o len cap zs))).toArray = #[Value.slice (some ⟨b, o, none⟩) len cap] := by
        show #[Value.slice (some ⟨b + 0, o + (0 : Int).toNat, none⟩) (Int.toNat (len : Int)) (Int.toNat (cap : Int))] = _
        simp
      rw [e] at this
      exact this
end Go.Proofs.Ytgjbhgdmgncoaaa
