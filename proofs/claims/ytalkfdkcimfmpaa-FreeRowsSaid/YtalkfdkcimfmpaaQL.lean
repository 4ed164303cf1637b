/- FreeRows: its loop by the rounds. -/
import Derived.Test.YtalkfdkcimfmpaaQa
import Derived.Test.YtalkfdkcimfmpaaQb
import Derived.Test.YtalkfdkcimfmpaaQc
import Derived.Test.YtalkfdkcimfmpaaQd
import Derived.Test.YtalkfdkcimfmpaaQe
import Derived.Test.YtalkfdkcimfmpaaQf
import Derived.Test.YtalkfdkcimfmpaaQg
import Derived.Test.YtalkfdkcimfmpaaQh
namespace Go.Proofs.Ytalkfdkcimfmpaa
open Go.Sx Go Go.FreeInv
set_option maxRecDepth 100000
noncomputable def dos : List Do := [.none, .has, .pops, .puts]
theorem in_dos (d : Do) : d ∈ dos := by cases d <;> simp [dos]
noncomputable def allQ : List HeadP := dos.flatMap fun a => dos.flatMap fun b => dos.map fun c => headQ a b c
theorem in_allQ (a b c : Do) : headQ a b c ∈ allQ := List.mem_flatMap.2 ⟨a, in_dos a, List.mem_flatMap.2 ⟨b, in_dos b, List.mem_map.2 ⟨c, in_dos c, rfl⟩⟩⟩
theorem headOk_sub {P : Program} {T : Tab P} {cx : CX} {bx : BX} {jm : Option Nat} {fuel id : Nat} {body : Code} {n : Nat} {hs hs' : List HeadP} {ls : List LeaveP} {h : HeadP} (hsub : ∀ x ∈ hs, x ∈ hs') (hk : headOk T cx bx jm fuel id body n hs ls h = true) : headOk T cx bx jm fuel id body n hs' ls h = true := by
 unfold headOk at hk ⊢
 split at hk
 ·cases hk
 rename_i outs hr
 rw [List.all_eq_true] at hk ⊢
 intro q hq
 have h1 := hk q hq
 revert h1
 split
 ·exact anyS_sub hsub
 ·exact fun h => h
theorem goals_sub (k : Nat) (a b c : Do) : ∀ x ∈ goals k a b c, x ∈ allQ := fun x hx => by
 obtain ⟨d, _, rfl⟩ := List.mem_map.1 hx
 exact in_allQ _ _ _
theorem okQ_all (k : Nat) (hk : k < 3) (a b c : Do) : okQ k a b c = true := by
 rcases (by omega : k = 0 ∨ k = 1 ∨ k = 2) with rfl | rfl | rfl <;> cases a <;> cases b <;> cases c
 ·exact q0_nonono
 ·exact q0_nonoha
 ·exact q0_nonopo
 ·exact q0_nonopu
 ·exact q0_nohano
 ·exact q0_nohaha
 ·exact q0_nohapo
 ·exact q0_nohapu
 ·exact q0_nopono
 ·exact q0_nopoha
 ·exact q0_nopopo
 ·exact q0_nopopu
 ·exact q0_nopuno
 ·exact q0_nopuha
 ·exact q0_nopupo
 ·exact q0_nopupu
 ·exact q0_hanono
 ·exact q0_hanoha
 ·exact q0_hanopo
 ·exact q0_hanopu
 ·exact q0_hahano
 ·exact q0_hahaha
 ·exact q0_hahapo
 ·exact q0_hahapu
 ·exact q0_hapono
 ·exact q0_hapoha
 ·exact q0_hapopo
 ·exact q0_hapopu
 ·exact q0_hapuno
 ·exact q0_hapuha
 ·exact q0_hapupo
 ·exact q0_hapupu
 ·exact q0_ponono
 ·exact q0_ponoha
 ·exact q0_ponopo
 ·exact q0_ponopu
 ·exact q0_pohano
 ·exact q0_pohaha
 ·exact q0_pohapo
 ·exact q0_pohapu
 ·exact q0_popono
 ·exact q0_popoha
 ·exact q0_popopo
 ·exact q0_popopu
 ·exact q0_popuno
 ·exact q0_popuha
 ·exact q0_popupo
 ·exact q0_popupu
 ·exact q0_punono
 ·exact q0_punoha
 ·exact q0_punopo
 ·exact q0_punopu
 ·exact q0_puhano
 ·exact q0_puhaha
 ·exact q0_puhapo
 ·exact q0_puhapu
 ·exact q0_pupono
 ·exact q0_pupoha
 ·exact q0_pupopo
 ·exact q0_pupopu
 ·exact q0_pupuno
 ·exact q0_pupuha
 ·exact q0_pupupo
 ·exact q0_pupupu
 ·exact q1_nonono
 ·exact q1_nonoha
 ·exact q1_nonopo
 ·exact q1_nonopu
 ·exact q1_nohano
 ·exact q1_nohaha
 ·exact q1_nohapo
 ·exact q1_nohapu
 ·exact q1_nopono
 ·exact q1_nopoha
 ·exact q1_nopopo
 ·exact q1_nopopu
 ·exact q1_nopuno
 ·exact q1_nopuha
 ·exact q1_nopupo
 ·exact q1_nopupu
 ·exact q1_hanono
 ·exact q1_hanoha
 ·exact q1_hanopo
 ·exact q1_hanopu
 ·exact q1_hahano
 ·exact q1_hahaha
 ·exact q1_hahapo
 ·exact q1_hahapu
 ·exact q1_hapono
 ·exact q1_hapoha
 ·exact q1_hapopo
 ·exact q1_hapopu
 ·exact q1_hapuno
 ·exact q1_hapuha
 ·exact q1_hapupo
 ·exact q1_hapupu
 ·exact q1_ponono
 ·exact q1_ponoha
 ·exact q1_ponopo
 ·exact q1_ponopu
 ·exact q1_pohano
 ·exact q1_pohaha
 ·exact q1_pohapo
 ·exact q1_pohapu
 ·exact q1_popono
 ·exact q1_popoha
 ·exact q1_popopo
 ·exact q1_popopu
 ·exact q1_popuno
 ·exact q1_popuha
 ·exact q1_popupo
 ·exact q1_popupu
 ·exact q1_punono
 ·exact q1_punoha
 ·exact q1_punopo
 ·exact q1_punopu
 ·exact q1_puhano
 ·exact q1_puhaha
 ·exact q1_puhapo
 ·exact q1_puhapu
 ·exact q1_pupono
 ·exact q1_pupoha
 ·exact q1_pupopo
 ·exact q1_pupopu
 ·exact q1_pupuno
 ·exact q1_pupuha
 ·exact q1_pupupo
 ·exact q1_pupupu
 ·exact q2_nonono
 ·exact q2_nonoha
 ·exact q2_nonopo
 ·exact q2_nonopu
 ·exact q2_nohano
 ·exact q2_nohaha
 ·exact q2_nohapo
 ·exact q2_nohapu
 ·exact q2_nopono
 ·exact q2_nopoha
 ·exact q2_nopopo
 ·exact q2_nopopu
 ·exact q2_nopuno
 ·exact q2_nopuha
 ·exact q2_nopupo
 ·exact q2_nopupu
 ·exact q2_hanono
 ·exact q2_hanoha
 ·exact q2_hanopo
 ·exact q2_hanopu
 ·exact q2_hahano
 ·exact q2_hahaha
 ·exact q2_hahapo
 ·exact q2_hahapu
 ·exact q2_hapono
 ·exact q2_hapoha
 ·exact q2_hapopo
 ·exact q2_hapopu
 ·exact q2_hapuno
 ·exact q2_hapuha
 ·exact q2_hapupo
 ·exact q2_hapupu
 ·exact q2_ponono
 ·exact q2_ponoha
 ·exact q2_ponopo
 ·exact q2_ponopu
 ·exact q2_pohano
 ·exact q2_pohaha
 ·exact q2_pohapo
 ·exact q2_pohapu
 ·exact q2_popono
 ·exact q2_popoha
 ·exact q2_popopo
 ·exact q2_popopu
 ·exact q2_popuno
 ·exact q2_popuha
 ·exact q2_popupo
 ·exact q2_popupu
 ·exact q2_punono
 ·exact q2_punoha
 ·exact q2_punopo
 ·exact q2_punopu
 ·exact q2_puhano
 ·exact q2_puhaha
 ·exact q2_puhapo
 ·exact q2_puhapu
 ·exact q2_pupono
 ·exact q2_pupoha
 ·exact q2_pupopo
 ·exact q2_pupopu
 ·exact q2_pupuno
 ·exact q2_pupuha
 ·exact q2_pupupo
 ·exact q2_pupupu
noncomputable def casesQ (a b c : Do) : List (List Fact × List BE) := ((caseQ 0 a).map fun f => (kQ 0 :: f, [])) ++ (((caseQ 1 b).map fun f => (kQ 1 :: f, [])) ++ ((caseQ 2 c).map fun f => (kQ 2 :: f, [])))
theorem moreC_nil (h : HeadP) (f : List Fact) : h.moreC (f, []) = h.more f := rfl
theorem casesQ_ok (a b c : Do) : ∀ x ∈ casesQ a b c, headOk (tabJ []) cxN (fun _ => none) none 400 0 bodyQ 100 allQ [leaveQ] ((headQ a b c).moreC x) = true := fun x hx => by
 unfold casesQ at hx
 rw [List.mem_append, List.mem_append] at hx
 rcases hx with hx | hx | hx
 ·obtain ⟨f, hf, rfl⟩ := List.mem_map.1 hx
  exact headOk_sub (goals_sub 0 a b c) (List.all_eq_true.1 (okQ_all 0 (by decide) a b c) f hf)
 ·obtain ⟨f, hf, rfl⟩ := List.mem_map.1 hx
  exact headOk_sub (goals_sub 1 a b c) (List.all_eq_true.1 (okQ_all 1 (by decide) a b c) f hf)
 ·obtain ⟨f, hf, rfl⟩ := List.mem_map.1 hx
  exact headOk_sub (goals_sub 2 a b c) (List.all_eq_true.1 (okQ_all 2 (by decide) a b c) f hf)
theorem caseQ_ok {E : Env} (hgf : E.f = G0) {a b c : Do} (hg : FactOk E (.app 750 (argsE (listQ a b c)), 1, 1)) {t : Nat} (ht : t < 3) {d : Do} (hd : gT (listQ a b c) t = thQ t d) (hf : ∀ f ∈ faQ t d, FactOk E f) : ∃ f ∈ caseQ t d, ∀ g ∈ f, FactOk E g := by
 have h1 : ev E (.app 750 (argsE (listQ a b c))) = 1 := by
  have := hg.1
  have := hg.2
  dsimp only at *
  omega
 rw [ev_app, argsE_ev, hgf] at h1
 obtain ⟨_, L, hL⟩ := f750 h1
 rw [rowOf_ev] at hL
 have k : ThOk (sysR (rowE E (gi (listQ a b c)) (gW (listQ a b c)) (gT (listQ a b c)))) (thL ((gT (listQ a b c) t).map (ev E))) := hL.inv.ths t ht
 obtain ⟨c1, c2, c3, c4⟩ := hL.w_in
 have cle := hL.le
 generalize sysR (rowE E (gi (listQ a b c)) (gW (listQ a b c)) (gT (listQ a b c))) = S at *
 rw [hd] at k
 cases d with
 | none => exact ⟨[], List.mem_singleton_self _, fun _ h => absurd h List.not_mem_nil⟩
 | has => exact ⟨[], List.mem_singleton_self _, fun _ h => absurd h List.not_mem_nil⟩
 | pops =>
  have hr : 0 ≤ ev E (vQ t 0) ∧ ev E (vQ t 0) ≤ 2 := hf (vQ t 0, 0, 2) (by simp [faQ])
  have hm : (thL ((thQ t .pops).map (ev E))).mode = 1 := rfl
  have e0 : (thL ((thQ t .pops).map (ev E))).pc = ev E (vQ t 0) := rfl
  have e1 : (thL ((thQ t .pops).map (ev E))).hc = ev E (vQ t 1) := rfl
  have e2 : (thL ((thQ t .pops).map (ev E))).hf = ev E (vQ t 2) := rfl
  have e3 : (thL ((thQ t .pops).map (ev E))).x = ev E (vQ t 3) := rfl
  have k1 := k.head (.inl hm)
  have k2 := k.some1 hm
  have k3 := k.next1 hm
  rw [e0] at k1 k2 k3
  rw [e1, e2] at k1
  rw [e2] at k2
  rw [e3] at k3
  rcases (by omega : ev E (vQ t 0) = 0 ∨ ev E (vQ t 0) = 1 ∨ ev E (vQ t 0) = 2) with h | h | h
  ·exact ⟨_, List.mem_of_getElem? (i := 0) rfl, fun g hg => by
    simp only [List.mem_cons, List.not_mem_nil, or_false] at hg
    rcases hg with rfl
    unfold FactOk; dsimp only; omega⟩
  ·obtain ⟨a1, a2, a3, a4, _⟩ := k1 (by omega)
   have a5 := k2 (by omega)
   exact ⟨_, List.mem_of_getElem? (i := 1) rfl, fun g hg => by
    simp only [List.mem_cons, List.not_mem_nil, or_false] at hg
    unfold FactOk
    rcases hg with rfl | rfl | rfl <;> (dsimp only; omega)⟩
  ·obtain ⟨a1, a2, a3, a4, _⟩ := k1 (by omega)
   have a5 := k2 (by omega)
   obtain ⟨a6, a7, _⟩ := k3 (by omega)
   exact ⟨_, List.mem_of_getElem? (i := 2) rfl, fun g hg => by
    simp only [List.mem_cons, List.not_mem_nil, or_false] at hg
    unfold FactOk
    rcases hg with rfl | rfl | rfl | rfl <;> (dsimp only; omega)⟩
 | puts =>
  have hr : 0 ≤ ev E (vQ t 0) ∧ ev E (vQ t 0) ≤ 2 := hf (vQ t 0, 0, 2) (by simp [faQ])
  have hm : (thL ((thQ t .puts).map (ev E))).mode = 2 := rfl
  have e0 : (thL ((thQ t .puts).map (ev E))).pc = ev E (vQ t 0) := rfl
  have e1 : (thL ((thQ t .puts).map (ev E))).hc = ev E (vQ t 1) := rfl
  have e2 : (thL ((thQ t .puts).map (ev E))).hf = ev E (vQ t 2) := rfl
  have k1 := k.head (.inr hm)
  rw [e0, e1, e2] at k1
  rcases (by omega : ev E (vQ t 0) = 0 ∨ ev E (vQ t 0) = 1 ∨ ev E (vQ t 0) = 2) with h | h | h
  ·exact ⟨_, List.mem_of_getElem? (i := 0) rfl, fun g hg => by
    simp only [List.mem_cons, List.not_mem_nil, or_false] at hg
    rcases hg with rfl
    unfold FactOk; dsimp only; omega⟩
  ·obtain ⟨a1, a2, a3, a4, _⟩ := k1 (by omega)
   exact ⟨_, List.mem_of_getElem? (i := 1) rfl, fun g hg => by
    simp only [List.mem_cons, List.not_mem_nil, or_false] at hg
    unfold FactOk
    rcases hg with rfl | rfl | rfl <;> (dsimp only; omega)⟩
  ·obtain ⟨a1, a2, a3, a4, _⟩ := k1 (by omega)
   exact ⟨_, List.mem_of_getElem? (i := 2) rfl, fun g hg => by
    simp only [List.mem_cons, List.not_mem_nil, or_false] at hg
    unfold FactOk
    rcases hg with rfl | rfl | rfl <;> (dsimp only; omega)⟩
theorem gT_listQ (a b c : Do) : gT (listQ a b c) 0 = thQ 0 a ∧ gT (listQ a b c) 1 = thQ 1 b ∧ gT (listQ a b c) 2 = thQ 2 c := by
 cases a <;> cases b <;> cases c <;> exact ⟨rfl, rfl, rfl⟩
theorem coverQ {E : Env} (hgf : E.f = G0) (hE : E.Ok) {a b c : Do} (hf : ∀ f ∈ (headQ a b c).mem.know.facts, FactOk E f) : ∃ x ∈ casesQ a b c, (∀ f ∈ x.1, FactOk E f) ∧ ∀ y ∈ x.2, evB E y = true := by
 have hg : FactOk E (.app 750 (argsE (listQ a b c)), 1, 1) := hf _ (List.mem_cons_of_mem _ List.mem_cons_self)
 obtain ⟨g0, g1, g2⟩ := gT_listQ a b c
 have f0 : ∀ f ∈ faQ 0 a, FactOk E f := fun f h => hf f (List.mem_cons_of_mem _ (List.mem_cons_of_mem _ (List.mem_append_left _ h)))
 have f1 : ∀ f ∈ faQ 1 b, FactOk E f := fun f h => hf f (List.mem_cons_of_mem _ (List.mem_cons_of_mem _ (List.mem_append_right _ (List.mem_append_left _ h))))
 have f2 : ∀ f ∈ faQ 2 c, FactOk E f := fun f h => hf f (List.mem_cons_of_mem _ (List.mem_cons_of_mem _ (List.mem_append_right _ (List.mem_append_right _ (List.mem_append_left _ h)))))
 have h := rng_ok hE (fs := []) (fun _ h => (by cases h)) (.rem (.bit .and .i64 (.sel 14 iQ) (.lit 1023)) (.lit 3))
 rw [show rng [] (.rem (.bit .and .i64 (.sel 14 iQ) (.lit 1023)) (.lit 3)) = (0, 2) by kernel_rfl] at h
 dsimp only at h
 have put : ∀ {k : Int} {f : List Fact}, ev E (.rem (.bit .and .i64 (.sel 14 iQ) (.lit 1023)) (.lit 3)) = k → (∀ g ∈ f, FactOk E g) → ∀ g ∈ kQ k :: f, FactOk E g := fun hk hf g hg => by
  rcases List.mem_cons.1 hg with rfl | hg
  ·unfold FactOk kQ
   dsimp only
   omega
  ·exact hf g hg
 unfold casesQ
 rcases (by omega : ev E (.rem (.bit .and .i64 (.sel 14 iQ) (.lit 1023)) (.lit 3)) = 0 ∨ ev E (.rem (.bit .and .i64 (.sel 14 iQ) (.lit 1023)) (.lit 3)) = 1 ∨ ev E (.rem (.bit .and .i64 (.sel 14 iQ) (.lit 1023)) (.lit 3)) = 2) with h | h | h
 ·obtain ⟨f, hm, hk⟩ := caseQ_ok hgf hg (by decide : 0 < 3) g0 f0
  exact ⟨(kQ 0 :: f, []), List.mem_append_left _ (List.mem_map.2 ⟨f, hm, rfl⟩), put h hk, fun _ h => absurd h List.not_mem_nil⟩
 ·obtain ⟨f, hm, hk⟩ := caseQ_ok hgf hg (by decide : 1 < 3) g1 f1
  exact ⟨(kQ 1 :: f, []), List.mem_append_right _ (List.mem_append_left _ (List.mem_map.2 ⟨f, hm, rfl⟩)), put h hk, fun _ h => absurd h List.not_mem_nil⟩
 ·obtain ⟨f, hm, hk⟩ := caseQ_ok hgf hg (by decide : 2 < 3) g2 f2
  exact ⟨(kQ 2 :: f, []), List.mem_append_right _ (List.mem_append_right _ (List.mem_map.2 ⟨f, hm, rfl⟩)), put h hk, fun _ h => absurd h List.not_mem_nil⟩
def list0 : List Int := 0 :: ([4, 8, 12, 16, 20, 24, 28, 32, 36, 40, 44, 48, 0] ++ ([-1, 0, 0, 0, 0, 0] ++ ([-1, 0, 0, 0, 0, 0] ++ [-1, 0, 0, 0, 0, 0])))
theorem run0 : Run list0 := by
 refine ⟨rfl, [0, 1, 2, 3, 4, 5, 6, 7, 8, 9, 10, 11], rfl, by decide, by decide, by decide, ⟨by simp only [Chain]; decide, by decide, by decide, fun t ht => .inl ?_, fun t u ht hu _ hne => ?_, by decide, by decide, by decide, by decide, fun t ht => ?_⟩⟩
 ·rcases (by omega : t = 0 ∨ t = 1 ∨ t = 2) with rfl | rfl | rfl <;> rfl
 ·refine absurd ?_ hne
  rcases (by omega : t = 0 ∨ t = 1 ∨ t = 2) with rfl | rfl | rfl <;> rfl
 ·rcases (by omega : t = 0 ∨ t = 1 ∨ t = 2) with rfl | rfl | rfl <;> exact th_mode0 (.inl rfl) rfl
noncomputable def ghost3 : Fact := (.app 750 (argsE (list0.map IE.lit)), 1, 1)
theorem ghost3_ok (E : Env) (hgf : E.f = G0) : FactOk E ghost3 := by
 have h : ev E (.app 750 (argsE (list0.map IE.lit))) = 1 := by
  rw [ev_app, argsE_ev, hgf, List.map_map]
  have e : list0.map (ev E ∘ IE.lit) = list0 := rfl
  rw [e]
  exact f750_of run0
 unfold FactOk ghost3
 dsimp only
 omega
noncomputable def loopQ : Fr → X (SX × Fr) := liftB 100 (factB [ghost3] (loopP 100 allQ [leaveQ]))
theorem loopQ_all : CodeOk G0 Try.prog (.block 0 (.loop bodyQ)) loopQ := liftB_ok (factB_ok (loopPe_ok (T := tabJ []) (cx := cxN) cxN_ok (jm := none) (fuel := 400) (noBlocks_ok _ _) (fun h hh => by
 obtain ⟨a, _, hh⟩ := List.mem_flatMap.1 hh
 obtain ⟨b, _, hh⟩ := List.mem_flatMap.1 hh
 obtain ⟨c, _, rfl⟩ := List.mem_map.1 hh
 exact ⟨casesQ a b c, fun E hgf hE hf => coverQ hgf hE hf, casesQ_ok a b c⟩)) (fun E hgf f hf => by
 rcases List.mem_singleton.1 hf with rfl
 exact ghost3_ok E hgf))
noncomputable def funQ : List SV → X SV := callF (tabJ []) (spOf spN) (bxOf [(4, 0, loopQ)]) 400 12 4
theorem funQ_ok : SpecOk G0 Try.prog 4 funQ := callF_ok (spOf_ok okSpN) (bxOf_ok (by
 intro y hy
 rcases List.mem_singleton.1 hy with rfl
 exact lx_ok Try.func4 (c := bodyOf Try.f4) rfl (b := bodyQ) (by kernel_rfl) loopQ_all)) 400 12 4
theorem rows_run : allOf (funQ [slW 10] (slMem [enW 10] (faW 10) 60)) isTrue = true := by kernel_rfl
theorem rows_nil : allOf (funL spF 4 [.nils] (slMem [] [] 60)) isTrue = true := by kernel_rfl
end Go.Proofs.Ytalkfdkcimfmpaa
