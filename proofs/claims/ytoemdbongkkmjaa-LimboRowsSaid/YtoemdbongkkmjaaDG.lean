/- rows of slots that wait, as they come in. -/
import Derived.Test.YtoemdbongkkmjaaD
import Derived.Test.YtoemdbongkkmjaaG
namespace Go.Proofs.Ytoemdbongkkmjaa
open Go.Sx Go Go.ChangeShapes Go.WideShapes Go.ChangeAt Go.RowKit Go.Deep
set_option maxRecDepth 100000
section
variable {H : Type} {enc : TypeId × Value → H} {w : World} {base : Nat} {spare : Nat → Bool} {held : Bool} {r : Reach} {b0 : Nat}
theorem open_rs {v : Value} {d : DataW H} {p : List MemPlace} (k : Value.okWide Try.prog w r b0 22 v) (h : DataW.Trod enc Try.prog w base spare held 22 v d p) (hw : ∀ n ∈ d.weights Try.prog 22, n ≤ reachBytes) : v = .slice none 0 0 ∨ ∃ b o len cap zs, SlIn w 2 v b o len cap zs ∧ (len : Int) ≤ most := by
 have hint : ∀ (j : Nat) (f : Field), (Try.prog.fieldsOf 44)[j]? = some f → Try.prog.underlying f.type = some (.int .i64) := by
  have e : (Try.prog.fieldsOf 44).all (fun f => isInt64 (Try.prog.underlying f.type)) = true := by kernel_rfl
  intro j f hj
  rw [Array.all_eq_true] at e
  obtain ⟨hj1, rfl⟩ := Array.getElem?_eq_some_iff.1 hj
  exact isInt64_eq (e j hj1)
 have hs : (Try.prog.fieldsOf 44).size = 2 := by kernel_rfl
 have hby : Try.prog.bytesOf 44 = 16 := by kernel_rfl
 have hu : Try.prog.underlying 22 = some (.slice 44) := by kernel_rfl
 rcases open_int_structs hu (show Try.prog.underlying 44 = some (.struct (Try.prog.fieldsOf 44)) by kernel_rfl) (by kernel_rfl) hint (by kernel_rfl) k h with rfl | ⟨b, o, len, cap, zs, rfl, ⟨elems, sp, rfl, hlen⟩, h1, h2, h3, h4, h5, h6⟩
 ·exact .inl rfl
 ·refine .inr ⟨b, o, len, cap, zs, ⟨rfl, h1, h2, h3, by rw [h4, hs], h5, h6⟩, ?_⟩
  have hmem : (elems.length + sp.length) * Try.prog.bytesOf 44 ∈ DataW.weights Try.prog 22 (.slice elems sp) := by
   unfold DataW.weights
   rw [hu]
   exact List.mem_cons_self
  have := hw _ hmem
  rw [hby, hlen] at this
  unfold reachBytes at this
  unfold most
  omega
end
noncomputable def envG (N : List Int) (ep : Int) (w : World) (b o cap : Nat) (slot : Int) : Env := { i := fun j => if j = 22 then (Go.LimboNum.many N : Int) else if j = 23 then (cap : Int) else if j = 1 then slot else if j = 2 then ep else 0, b := fun _ => false, l := fun _ => [], base := fun s => if s = 20 then b else w.heap.size, o := fun s => if s = 20 then o else 0, v := fun _ => .tuple #[], f := G0 N ep }
theorem envG_ok {N : List Int} {ep : Int} {w : World} {b o cap : Nat} {slot : Int} (hm : (Go.LimboNum.many N : Int) ≤ most) (hc : cap ≤ maxLen) (hs : in64 slot) (he : in64 ep) : (envG N ep w b o cap slot).Ok := by
 refine ⟨fun j => ?_, fun _ _ hx => (by cases hx), G0_in N ep⟩
 unfold most at hm
 unfold maxLen at hc
 show in64 (if j = 22 then (Go.LimboNum.many N : Int) else if j = 23 then (cap : Int) else if j = 1 then slot else if j = 2 then ep else 0)
 split
 ·unfold in64 lo64 hi64; omega
 split
 ·unfold in64 lo64 hi64; omega
 split
 ·exact hs
 split
 ·exact he
 ·constructor <;> decide
theorem inG {w : World} {v : Value} {b o len cap : Nat} {zs : List Int} {ep : Int} (h : SlIn w 2 v b o len cap zs) (hl : (len : Int) ≤ most) (he : in64 ep) : In zs ep ∧ Go.LimboNum.many zs = len := by
 have hm : Go.LimboNum.many zs = len := by
  unfold Go.LimboNum.many
  rw [h.size]
  omega
 exact ⟨⟨h.nums, by rw [hm, h.size]; omega, by rw [hm]; exact hl, he⟩, hm⟩
section
variable {w : World} {v : Value} {b o len cap : Nat} {zs : List Int} {ep slot : Int} (h : SlIn w 2 v b o len cap zs) (hl : (len : Int) ≤ most) (he : in64 ep)
noncomputable def argG (b o len cap : Nat) (zs : List Int) : SlArg := ⟨20, 21, 22, 23, 1000001, 2, b, o, len, cap, zs⟩
include h in
theorem holdsG : (argG b o len cap zs).Holds w := ⟨h.block, h.room, h.max, h.size, h.nums, h.cells⟩
include h hl he
theorem namedG : (argG b o len cap zs).Named (envG zs ep w b o cap slot) := by
 obtain ⟨hi, hm⟩ := inG h hl he
 refine ⟨rfl, rfl, rfl, ?_, rfl, rowA hi rfl, by show (1000001 : Nat) ≠ 0; decide⟩
 show (Go.LimboNum.many zs : Int) = len
 rw [hm]
theorem valG : dv (envG zs ep w b o cap slot) (slR 20) = v := by
 rw [h.val]
 exact SlArg.val (namedG h hl he)
theorem entG : ∀ e ∈ [enR 20], e.ro = true ∧ EntOk (envG zs ep w b o cap slot) w e := fun e hx => by
 rcases List.mem_singleton.1 hx with rfl
 exact ⟨rfl, SlArg.ent (namedG h hl he) (holdsG h)⟩
theorem factsG (h1 : 1 ≤ len) : ∀ f ∈ factG, FactOk (envG zs ep w b o cap slot) f := fun f hf => by
 obtain ⟨hi, hm⟩ := inG h hl he
 have hE : (envG zs ep w b o cap slot).f = G0 zs ep := rfl
 unfold factG at hf
 simp only [List.mem_cons] at hf
 unfold FactOk
 have v22 : ev (envG zs ep w b o cap slot) (.var 22) = len := by
  show (Go.LimboNum.many zs : Int) = len
  rw [hm]
 rcases hf with rfl | rfl | rfl | rfl | rfl | rfl | hf
 ·dsimp only; rw [ev_minus, ev1105 hi hE, v22, hm]; omega
 ·dsimp only; rw [v22]; omega
 ·dsimp only; rw [ev_minus, ev1104 hi hE, show ev (envG zs ep w b o cap slot) (.var 2) = ep from rfl]; omega
 ·dsimp only
  rw [ev1103 hi hE]
  have := Go.LimboNum.goods_le (N := zs) (Go.LimboNum.many zs)
  omega
 ·dsimp only; rw [ev1101 hi hE (by rw [ev_lit]; omega), ev_lit]; exact ⟨Int.le_refl 0, Int.le_refl 0⟩
 ·dsimp only; rw [ev1102 hi hE (by rw [ev_lit]; omega), ev_lit]; exact ⟨Int.le_refl 0, Int.le_refl 0⟩
 ·exact SlArg.facts (namedG h hl he) (holdsG h) (most := most) hl f hf
theorem goodsG : ∃ b1, ∀ f ∈ goodG b1, FactOk (envG zs ep w b o cap slot) f := by
 obtain ⟨hi, hm⟩ := inG h hl he
 have hE : (envG zs ep w b o cap slot).f = G0 zs ep := rfl
 have hle := Go.LimboNum.goods_le (N := zs) (Go.LimboNum.many zs)
 by_cases hg : Go.LimboNum.goods zs (Go.LimboNum.many zs) = Go.LimboNum.many zs
 ·refine ⟨true, fun f hf => ?_⟩
  simp only [goodG, cond, goodF, List.mem_cons, List.not_mem_nil, or_false] at hf
  unfold FactOk
  rcases hf with rfl | rfl | rfl
  ·dsimp only; rw [ev_sub, ev1103 hi hE, ev1105 hi hE]; omega
  ·dsimp only; rw [ev_sub, ev1103 hi hE, ev1105 hi hE]; omega
  ·dsimp only; rw [ev_minus, ev1103 hi hE, ev1105 hi hE]; omega
 ·refine ⟨false, fun f hf => ?_⟩
  simp only [goodG, cond, gapM, List.mem_cons, List.not_mem_nil, or_false] at hf
  unfold FactOk
  rcases hf with rfl | rfl | rfl
  ·dsimp only; rw [ev_minus, ev1103 hi hE, ev1105 hi hE]; omega
  ·dsimp only; rw [ev_sub, ev1103 hi hE, ev1105 hi hE]; omega
  ·dsimp only; rw [ev_sub, ev1103 hi hE, ev1105 hi hE]; omega
end
theorem three_ep {E : Env} (he : in64 (E.i 2)) : ∃ k ∈ [0, 1, 2], FactOk E (epG k) := by
 unfold in64 at he
 by_cases h1 : E.i 2 < 0
 ·exact ⟨0, by simp, by show lo64 ≤ E.i 2 ∧ E.i 2 ≤ -1; omega⟩
 by_cases h2 : E.i 2 ≤ 1073741823
 ·exact ⟨1, by simp, by show 0 ≤ E.i 2 ∧ E.i 2 ≤ 1073741823; omega⟩
 ·exact ⟨2, by simp, by show 1073741824 ≤ E.i 2 ∧ E.i 2 ≤ hi64; omega⟩
theorem three_sl {E : Env} (he : in64 (E.i 1)) : ∃ k ∈ [0, 1, 2], FactOk E (slG k) := by
 unfold in64 at he
 by_cases h1 : E.i 1 < 0
 ·exact ⟨0, by simp, by show lo64 ≤ E.i 1 ∧ E.i 1 ≤ -1; omega⟩
 by_cases h2 : E.i 1 ≤ 11
 ·exact ⟨1, by simp, by show 0 ≤ E.i 1 ∧ E.i 1 ≤ 11; omega⟩
 ·exact ⟨2, by simp, by show 12 ≤ E.i 1 ∧ E.i 1 ≤ hi64; omega⟩
end Go.Proofs.Ytoemdbongkkmjaa
