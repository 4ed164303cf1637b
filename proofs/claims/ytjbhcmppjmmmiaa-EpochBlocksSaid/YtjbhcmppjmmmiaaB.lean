/- EpochBlocks: what a thread says gets a name; the runs' contracts. -/
import Derived.Test.YtjbhcmppjmmmiaaP
namespace Go.Proofs.Ytjbhcmppjmmmiaa
open Go.Sx Go
set_option maxRecDepth 100000
noncomputable def nameQ (ck : Nat) (lo hi : Int) (q : (SX × Fr) × Mem) : (SX × Fr) × Mem := match q.1.2.toL[ck]? with
 | some (.int .i64 e) => cond (q.2.nm q.2.nv && (q.1.2.toL.all (SV.nm q.2.nv) && (factIn q.2.know e lo hi && decide (q.2.seg < q.2.nv))))
   (nfN (q.2.nv + 1) fun n' => nfFM (Fr.ofL (q.1.2.toL.set ck (.int .i64 (.var q.2.nv))), { q.2 with know := ⟨q.2.know.facts ++ [(.var q.2.nv, lo, hi)], q.2.know.conds⟩, nv := n' }) fun p => ((q.1.1, p.1), p.2)) q
 | _ => q
theorem nameQ_ok {F : Nat → Prop} {w0 w : World} {E : Env} {ck : Nat} {lo hi : Int} {q : (SX × Fr) × Mem} {a : Act} (hm : MemOk F w0 E q.2 w) (hf : FrOk E q.1.2 a) (h64 : lo64 ≤ lo ∧ hi ≤ hi64) :
  ∃ E', Later q.2.nv (nameQ ck lo hi q).2.nv E E' ∧ (nameQ ck lo hi q).1.1 = q.1.1 ∧ FrOk E' (nameQ ck lo hi q).1.2 a ∧ MemOk F w0 E' (nameQ ck lo hi q).2 w := by
 unfold nameQ
 split
 case h_2 => exact ⟨E, ⟨Agree.refl _ _, Nat.le_refl _, fun _ => rfl⟩, rfl, hf, hm⟩
 rename_i e he
 cases hc : (q.2.nm q.2.nv && (q.1.2.toL.all (SV.nm q.2.nv) && (factIn q.2.know e lo hi && decide (q.2.seg < q.2.nv)))) with
 | false => exact ⟨E, ⟨Agree.refl _ _, Nat.le_refl _, fun _ => rfl⟩, rfl, hf, hm⟩
 | true =>
 simp only [Bool.and_eq_true, decide_eq_true_eq, List.all_eq_true] at hc
 obtain ⟨c1, c2, c3, c4⟩ := hc
 have hr := factIn_ok hm.know c3
 dsimp only [cond]
 rw [nfN_eq, nfFM_eq]
 let E' : Env := { E with i := fun j => if j = q.2.nv then ev E e else E.i j }
 have hi' : ∀ k, k < q.2.nv → E'.i k = E.i k := fun k hk => by
  show (if k = q.2.nv then ev E e else E.i k) = E.i k
  rw [if_neg (by omega)]
 have hv : E'.i q.2.nv = ev E e := by
  show (if q.2.nv = q.2.nv then ev E e else _) = _
  rw [if_pos rfl]
 have hA : Agree q.2.nv E E' := ⟨hi', fun _ _ => rfl, fun _ _ => rfl, fun _ _ => rfl, fun _ _ => rfl, fun _ _ => rfl, rfl⟩
 have hE : E'.Ok := ⟨fun j => (by
  show in64 (if j = q.2.nv then ev E e else E.i j)
  split
  ·exact ⟨by omega, by omega⟩
  ·exact hm.know.env.i j), hm.know.env.l, hm.know.env.f⟩
 have hm2 : MemOk F w0 E' { q.2 with seg := q.2.seg, next := q.2.next, nv := q.2.nv + 1 } w := hm.moved c1 hA hE (Ext.refl _ _) hm.size hm.seg0
 refine ⟨E', ⟨hA, by show q.2.nv ≤ q.2.nv + 1; omega, fun h => by have h : q.2.nv + 1 = q.2.nv := h; omega⟩, rfl, ?_, ⟨⟨hE, fun f hf' => ?_, hm2.know.conds⟩, hm2.size, hm2.ents, hm2.apart, hm2.mine, hm2.ext, hm2.seg0⟩⟩
 ·refine hf.slots ⟨List.length_set, fun i => ?_⟩
  by_cases hi : i = ck
  ·subst hi
   have hlt : i < q.1.2.toL.length := (List.getElem?_eq_some_iff.1 he).1
   right
   rw [List.getD_eq_getElem?_getD, List.getD_eq_getElem?_getD, List.getElem?_set_self hlt, he]
   refine ⟨(by intro h; cases h), ?_⟩
   show Value.int .i64 (E'.i q.2.nv) = .int .i64 (ev E e)
   rw [hv]
  ·rw [List.getD_eq_getElem?_getD, List.getD_eq_getElem?_getD, List.getElem?_set_ne (fun h => hi h.symm)]
   by_cases hn : (q.1.2.toL[i]?).getD .undef = .nil
   ·exact .inl hn
   ·refine .inr ⟨hn, dv_agree hA ?_⟩
    cases hx : q.1.2.toL[i]? with
    | none => rfl
    | some v => exact c2 v (List.mem_of_getElem? hx)
 ·rcases List.mem_append.1 hf' with hf' | hf'
  ·exact hm2.know.facts f hf'
  ·rcases List.mem_singleton.1 hf' with rfl
   show lo ≤ E'.i q.2.nv ∧ E'.i q.2.nv ≤ hi
   rw [hv]
   exact hr
noncomputable def nameB {P : Program} (T : Tab P) (cx : CX) (bx : BX) (jm : Option Nat) (fuel ck : Nat) (lo hi : Int) (c : Code) : Fr → X (SX × Fr) := fun tm m => match runC T cx bx jm fuel c tm m with
 | some outs => some (outs.map (nameQ ck lo hi))
 | none => none
theorem nameB_ok {G : Gf} {P : Program} {T : Tab P} {cx : CX} (hcx : CallsOk G P cx) {bx : BX} {jm : Option Nat} (fuel ck : Nat) {lo hi : Int} (h64 : lo64 ≤ lo ∧ hi ≤ hi64) {c : Code} (hb : BlocksOk G P bx c) : CodeOk G P c (nameB T cx bx jm fuel ck lo hi c) := by
 intro F w0 E tm a m w outs' hgf ho hm ha
 unfold nameB at ho
 split at ho
 case h_2 => cases ho
 rename_i outs hr
 cases ho
 refine wp_mono ((runC_ok hcx fuel).1 c hb F w0 E tm a m w outs hgf hr hm ha) ?_
 rintro e a' w' ⟨q, hq, E', hL, he, hf, hm'⟩
 obtain ⟨E2, h1, h2, h3, h4⟩ := nameQ_ok (ck := ck) hm' hf h64
 exact ⟨_, List.mem_map.2 ⟨q, hq, rfl⟩, E2, hL.trans h1, by rw [h2]; exact he, h3, h4⟩
noncomputable def m62 : Fr → X (SX × Fr) := nameB (tabJ []) cxF (fun _ => none) (deadT 6) 400 14 0 65536 (theBlock 2 (bodyOf Try.f6))
theorem m62_ok : LxOk G0 Try.prog (6, 2, m62) := lxB_ok Try.func6 (c := bodyOf Try.f6) rfl (b := theBlock 2 (bodyOf Try.f6)) (by kernel_rfl) (nameB_ok cxF_ok 400 14 (by decide) (noBlocks_ok _ _))
noncomputable def funB : List SV → X SV := callF (tabJ []) (spOf spF) (bxOf [(6, 2, m62)]) 400 12 6
theorem funB_ok : SpecOk G0 Try.prog 6 funB := callF_ok (spOf_ok okSpF) (bxOf_ok (by
 intro y hy
 rcases List.mem_singleton.1 hy with rfl
 exact m62_ok)) 400 12 6
noncomputable def kF (k : Int) : Fact := (.bit .and .i64 (.var 2) (.lit 3), k, k)
noncomputable def lF (n h : Int) : Fact := (.var 22, n, h)
noncomputable def okB (k n h : Int) : Bool := allOf (funB [vi 1, slW 20, vi 2] (slMem [enW 20] (kF k :: lF n h :: faW 20) 60)) isTrue
noncomputable def okZ (k : Int) : Bool := allOf (funB [vi 1, .nils, vi 2] (slMem [] [kF k] 60)) isTrue
end Go.Proofs.Ytjbhcmppjmmmiaa
