/- The law Limbos: for every input the call returns true, and each argument reads afterwards as it read before; no condition. -/
import Derived.Test.YtoemdbongkkmjaaDG
namespace Go.Proofs.Ytoemdbongkkmjaa
open Go.Sx Go Go.LimboNum Go.ChangeShapes Go.WideShapes Go.ChangeAt Go.RowKit Go.Deep
set_option maxRecDepth 100000
theorem limbos_walk {w : World} {r : Reach} {b0 : Nat} {v0 v1 v2 : Value} {H : Type} {enc : TypeId × Value → H} {base : Nat} {spare : Nat → Bool} {held : Bool} {d0 d1 d2 : DataW H} {p0 p1 p2 : List MemPlace} {ts : List TypeId}
  (k0 : Value.okWide Try.prog w r b0 22 v0) (h0 : DataW.Trod enc Try.prog w base spare held 22 v0 d0 p0)
  (k1 : Value.okWide Try.prog w r b0 3 v1) (h1 : DataW.Trod enc Try.prog w base spare held 3 v1 d1 p1)
  (k2 : Value.okWide Try.prog w r b0 3 v2) (h2 : DataW.Trod enc Try.prog w base spare held 3 v2 d2 p2)
  (hsz : (DataW.weightsEach Try.prog ([22, 3, 3] ++ ts) ([d0, d1, d2] ++ [])).all (· ≤ reachBytes) = true) :
  Calls Try.prog 3 #[v0, v1, v2] w fun r w' => r = .returned (.bool true) ∧ Below w.heap.size w w' := by
 obtain ⟨x, rfl, _, _, wx⟩ := open_int Try.underlying3 k1 h1
 obtain ⟨y, rfl, _, _, wy⟩ := open_int Try.underlying3 k2 h2
 rw [List.all_eq_true] at hsz
 have hw : ∀ n ∈ d0.weights Try.prog 22, n ≤ reachBytes := fun n hn => by
  have : n ∈ DataW.weightsEach Try.prog ([22, 3, 3] ++ ts) ([d0, d1, d2] ++ []) := by
   show n ∈ d0.weights Try.prog 22 ++ _
   exact List.mem_append_left _ hn
  exact of_decide_eq_true (hsz n this)
 rcases open_rs k0 h0 hw with rfl | ⟨b, o, len, cap, zs, hs, hl⟩
 ·have hE : (envG [] y w 0 0 0 x).Ok := envG_ok (by show (0 : Int) ≤ most; decide) (Nat.zero_le _) (i64_bd wx) (i64_bd wy)
  have := law_ok (funB_ok okSpB 3) g00 (E := envG [] y w 0 0 0 x) (w := w) rfl (slMem_ok (ents := []) (fs := fa0) 60 hE rfl rfl (fun _ h => (by cases h)) (fun f hf => by
   simp only [fa0, List.mem_cons, List.not_mem_nil, or_false] at hf
   rcases hf with rfl | rfl <;> exact show (0 : Int) ≤ 0 ∧ (0 : Int) ≤ hi64 from ⟨by decide, by decide⟩))
  exact this
 by_cases hz : len = 0
 ·subst hz
  have hE : (envG [] y w b o cap x).Ok := envG_ok (by show (0 : Int) ≤ most; decide) hs.max (i64_bd wx) (i64_bd wy)
  have := law_ok (funB_ok okSpB 3) g01 (E := envG [] y w b o cap x) (w := w) rfl (slMem_ok (ents := []) (fs := fa0) 60 hE rfl rfl (fun _ h => (by cases h)) (fun f hf => by
   simp only [fa0, List.mem_cons, List.not_mem_nil, or_false] at hf
   have hm := hs.max
   unfold maxLen at hm
   rcases hf with rfl | rfl
   ·exact show (0 : Int) ≤ 0 ∧ (0 : Int) ≤ hi64 from ⟨by decide, by decide⟩
   ·show (0 : Int) ≤ cap ∧ (cap : Int) ≤ hi64
    unfold hi64
    omega))
  rw [show (([sl0 false, vi 1, vi 2] : List SV).map (dv (envG [] y w b o cap x))).toArray = #[v0, .int .i64 x, .int .i64 y] by
   show #[Value.slice (some ⟨b + 0, o + (0 : Int).toNat, none⟩) (0 : Int).toNat ((cap : Int)).toNat, .int .i64 x, .int .i64 y] = _
   rw [hs.val]
   simp] at this
  exact this
 obtain ⟨hi, hm⟩ := inG hs hl (i64_bd wy)
 have hE : (envG zs y w b o cap x).Ok := envG_ok (by rw [hm]; exact hl) hs.max (i64_bd wx) (i64_bd wy)
 obtain ⟨b1, hg⟩ := goodsG (slot := x) hs hl (i64_bd wy)
 obtain ⟨k, hk, he⟩ := three_ep (E := envG zs y w b o cap x) (i64_bd wy)
 obtain ⟨j, hj, hj2⟩ := three_sl (E := envG zs y w b o cap x) (i64_bd wx)
 have hrun : okG b1 [slG j, epG k] = true := by
  cases b1 with
  | true => exact List.all_eq_true.1 (List.all_eq_true.1 gg j hj) k hk
  | false => exact List.all_eq_true.1 (List.all_eq_true.1 gb j hj) k hk
 have := law_ok (funG_ok hi 3) hrun (E := envG zs y w b o cap x) (w := w) rfl (slMem_ok 60 hE rfl rfl (entG hs hl (i64_bd wy)) (fun f hf => by
  rcases List.mem_append.1 hf with hf | hf
  ·simp only [List.mem_cons, List.not_mem_nil, or_false] at hf
   rcases hf with rfl | rfl
   ·exact hj2
   ·exact he
  rcases List.mem_append.1 hf with hf | hf
  ·exact hg f hf
  ·exact factsG hs hl (i64_bd wy) (by omega) f hf))
 rw [show (([slR 20, vi 1, vi 2] : List SV).map (dv (envG zs y w b o cap x))).toArray = #[v0, .int .i64 x, .int .i64 y] by
  show #[dv _ (slR 20), .int .i64 x, .int .i64 y] = _
  rw [valG hs hl (i64_bd wy)]] at this
 exact this
end Go.Proofs.Ytoemdbongkkmjaa
namespace Go.Proofs.Ytoemdbongkkmjaa.limbos
open Go.ChangeShapes Go.WideShapes Go.ChangeAt Go.RowKit Go.Deep
set_option maxRecDepth 100000 in
theorem lifted (os : Os) (started : os.Started) (H : Type) (enc : TypeId × Value → H) :
  ReturnsInHanded {} Try.checked os 3 .any (Rows.limbosSpec.pre6 enc Try.prog Try.f3 Rows.limbosRow.domain false) (Rows.limbosSpec.post enc Try.prog Try.f3 false true false false) := by
 refine returnsInHanded_of_change_sized (C := Try.checked) own started (by kernel_rfl) Try.func3
  (ChangeSpec.witness6 (enc := enc) (C := Try.checked) false ⟨#[], #[.slice none 0 0, .int .i64 0, .int .i64 0], []⟩ 60 (by kernel_rfl) (by kernel_rfl) (by kernel_rfl) (by kernel_rfl)) ?_
 intro W base args ds gs before hval0 hW _ hsz0 _
 have hval : ∀ (j : Nat) t v, Try.f3.params[j]? = some t → args[j]? = some v → Value.okWide Try.prog W .any base t v := hval0
 have hsz : (DataW.weightsEach Try.prog (Try.f3.params.toList ++ Rows.limbosSpec.plain.varTypes Try.prog) (ds ++ gs)).all (· ≤ reachBytes) = true := hsz0
 have hW' := hW
 obtain ⟨p, q, hA0, hV, rfl, _, _⟩ := hW
 have hA : DataW.TrodAll enc Try.prog W 0 (fun _ => true) true Try.f3.params.toList args.toList ds p := hA0
 rw [Try.params3] at hA hval hsz
 obtain ⟨v0, vs0, d0, ds0, p0, q0, hargs, rfl, rfl, h0, r0⟩ := trodAll_cons hA
 obtain ⟨v1, vs1, d1, ds1, p1, q1, rfl, rfl, rfl, h1, r1⟩ := trodAll_cons r0
 obtain ⟨v2, vs2, d2, ds2, p2, q2, rfl, rfl, rfl, h2, r2⟩ := trodAll_cons r1
 obtain ⟨rfl, rfl, rfl⟩ := trodAll_nil r2
 obtain rfl : args = #[v0, v1, v2] := by cases args; simp_all
 obtain ⟨rfl, rfl⟩ := trodVars_none hV
 have tl0 : ∀ x ∈ p0, x.block < W.heap.size := by obtain ⟨m, hm⟩ := h0; exact DataW.trod_lt m _ _ _ hm
 have tl1 : ∀ x ∈ p1, x.block < W.heap.size := by obtain ⟨m, hm⟩ := h1; exact DataW.trod_lt m _ _ _ hm
 have tl2 : ∀ x ∈ p2, x.block < W.heap.size := by obtain ⟨m, hm⟩ := h2; exact DataW.trod_lt m _ _ _ hm
 clear hA0 hval0
 refine (limbos_walk (hval 0 22 v0 rfl rfl) h0 (hval 1 3 v1 rfl rfl) h1 (hval 2 3 v2 rfl rfl) h2 hsz).mono fun e W' ⟨he, bel⟩ => ?_
 subst he
 exact ⟨_, rfl, _, _, _, [], _, [], hW', trodAll_mk1 (shut_bool Try.underlying4 _), (trodAll_cons_mk (Below.trod laidOut (by kernel_rfl) (of_decide_eq_true (by kernel_rfl)) h0 bel tl0) (trodAll_cons_mk (Below.trod laidOut (by kernel_rfl) (of_decide_eq_true (by kernel_rfl)) h1 bel tl1) (trodAll_cons_mk (Below.trod laidOut (by kernel_rfl) (of_decide_eq_true (by kernel_rfl)) h2 bel tl2) trodAll_mk0))), rfl, bel.frame _, fun h => by cases h⟩
theorem over : Rows.limbosRow.holds Try.pinned (OpenSpec.ofChange Rows.limbosSpec) :=
 OpenClaim.holds_of_wide 3 Try.f3 rfl rfl rfl rfl rfl rfl rfl ⟨rfl, rfl, rfl, rfl, rfl⟩ rfl rfl rfl rfl rfl (by kernel_rfl) Try.func3 (by kernel_rfl)
  (of_decide_eq_true (by kernel_rfl)) (by unfold Func.isWrapper; first | (rw [if_pos (by decide +kernel)]; kernel_rfl) | (rw [if_neg (by decide +kernel)]; exact ⟨rfl, rfl⟩))
  (fun os started H enc _ => lifted os started H enc)
theorem proved : Rows.LimbosSaid := over
#print axioms proved
end Go.Proofs.Ytoemdbongkkmjaa.limbos
