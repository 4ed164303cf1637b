/- The law LimboRows: for every input the call returns true, and each argument reads afterwards as it read before; no condition. -/
import Derived.Test.YtoemdbongkkmjaaRX
import Derived.Test.YtoemdbongkkmjaaDG
namespace Go.Proofs.Ytoemdbongkkmjaa
open Go.Sx Go Go.LimboNum Go.ChangeShapes Go.WideShapes Go.ChangeAt Go.RowKit Go.Deep
set_option maxRecDepth 100000
theorem limboRows_walk {w : World} {r : Reach} {b0 : Nat} {v0 v1 : Value} {H : Type} {enc : TypeId × Value → H} {base : Nat} {spare : Nat → Bool} {held : Bool} {d0 d1 : DataW H} {p0 p1 : List MemPlace} {ts : List TypeId}
  (k0 : Value.okWide Try.prog w r b0 22 v0) (h0 : DataW.Trod enc Try.prog w base spare held 22 v0 d0 p0)
  (k1 : Value.okWide Try.prog w r b0 3 v1) (h1 : DataW.Trod enc Try.prog w base spare held 3 v1 d1 p1)
  (hsz : (DataW.weightsEach Try.prog ([22, 3] ++ ts) ([d0, d1] ++ [])).all (· ≤ reachBytes) = true) :
  Calls Try.prog 6 #[v0, v1] w fun r w' => r = .returned (.bool true) ∧ Below w.heap.size w w' := by
 obtain ⟨y, rfl, _, _, wy⟩ := open_int Try.underlying3 k1 h1
 rw [List.all_eq_true] at hsz
 have hw : ∀ n ∈ d0.weights Try.prog 22, n ≤ reachBytes := fun n hn => by
  have : n ∈ DataW.weightsEach Try.prog ([22, 3] ++ ts) ([d0, d1] ++ []) := by
   show n ∈ d0.weights Try.prog 22 ++ _
   exact List.mem_append_left _ hn
  exact of_decide_eq_true (hsz n this)
 rcases open_rs k0 h0 hw with rfl | ⟨b, o, len, cap, zs, hs, hl⟩
 ·have hE : (envG [] y w 0 0 0 0).Ok := envG_ok (by show (0 : Int) ≤ most; decide) (Nat.zero_le _) zero_in (i64_bd wy)
  have := law_ok (funB_ok okSpB 6) w0n (E := envG [] y w 0 0 0 0) (w := w) rfl (slMem_ok (ents := []) (fs := fa0) 60 hE rfl rfl (fun _ h => (by cases h)) (fun f hf => by
   simp only [fa0, List.mem_cons, List.not_mem_nil, or_false] at hf
   rcases hf with rfl | rfl <;> exact show (0 : Int) ≤ 0 ∧ (0 : Int) ≤ hi64 from ⟨by decide, by decide⟩))
  exact this
 by_cases hz : len = 0
 ·subst hz
  have hE : (envG [] y w b o cap 0).Ok := envG_ok (by show (0 : Int) ≤ most; decide) hs.max zero_in (i64_bd wy)
  have := law_ok (funB_ok okSpB 6) w0s (E := envG [] y w b o cap 0) (w := w) rfl (slMem_ok (ents := []) (fs := fa0) 60 hE rfl rfl (fun _ h => (by cases h)) (fun f hf => by
   simp only [fa0, List.mem_cons, List.not_mem_nil, or_false] at hf
   have hm := hs.max
   unfold maxLen at hm
   rcases hf with rfl | rfl
   ·exact show (0 : Int) ≤ 0 ∧ (0 : Int) ≤ hi64 from ⟨by decide, by decide⟩
   ·show (0 : Int) ≤ cap ∧ (cap : Int) ≤ hi64
    unfold hi64
    omega))
  rw [show (([sl0 false, vi 2] : List SV).map (dv (envG [] y w b o cap 0))).toArray = #[v0, .int .i64 y] by
   show #[Value.slice (some ⟨b + 0, o + (0 : Int).toNat, none⟩) (0 : Int).toNat ((cap : Int)).toNat, .int .i64 y] = _
   rw [hs.val]
   simp] at this
  exact this
 obtain ⟨hi, hm⟩ := inG hs hl (i64_bd wy)
 have hE : (envG zs y w b o cap 0).Ok := envG_ok (by rw [hm]; exact hl) hs.max zero_in (i64_bd wy)
 obtain ⟨b1, hg⟩ := goodsG (slot := 0) hs hl (i64_bd wy)
 obtain ⟨k, hk, he⟩ := three_ep (E := envG zs y w b o cap 0) (i64_bd wy)
 have hrun : okWr b1 k = true := by
  cases b1 with
  | true => exact List.all_eq_true.1 wr1 k hk
  | false => exact List.all_eq_true.1 wr0 k hk
 have := law_ok (funW_ok hi) hrun (E := envG zs y w b o cap 0) (w := w) rfl (slMem_ok 60 hE rfl rfl (entG hs hl (i64_bd wy)) (fun f hf => by
  rcases List.mem_cons.1 hf with rfl | hf
  ·exact he
  rcases List.mem_append.1 hf with hf | hf
  ·exact hg f hf
  ·exact factsG hs hl (i64_bd wy) (by omega) f hf))
 rw [show (([slR 20, vi 2] : List SV).map (dv (envG zs y w b o cap 0))).toArray = #[v0, .int .i64 y] by
  show #[dv _ (slR 20), .int .i64 y] = _
  rw [valG hs hl (i64_bd wy)]] at this
 exact this
end Go.Proofs.Ytoemdbongkkmjaa
namespace Go.Proofs.Ytoemdbongkkmjaa.limboRows
open Go.ChangeShapes Go.WideShapes Go.ChangeAt Go.RowKit Go.Deep
set_option maxRecDepth 100000 in
theorem lifted (os : Os) (started : os.Started) (H : Type) (enc : TypeId × Value → H) :
  ReturnsInHanded {} Try.checked os 6 .any (Rows.limboRowsSpec.pre6 enc Try.prog Try.f6 Rows.limboRowsRow.domain false) (Rows.limboRowsSpec.post enc Try.prog Try.f6 false true false false) := by
 refine returnsInHanded_of_change_sized (C := Try.checked) own started (by kernel_rfl) Try.func6
  (ChangeSpec.witness6 (enc := enc) (C := Try.checked) false ⟨#[], #[.slice none 0 0, .int .i64 0], []⟩ 60 (by kernel_rfl) (by kernel_rfl) (by kernel_rfl) (by kernel_rfl)) ?_
 intro W base args ds gs before hval0 hW _ hsz0 _
 have hval : ∀ (j : Nat) t v, Try.f6.params[j]? = some t → args[j]? = some v → Value.okWide Try.prog W .any base t v := hval0
 have hsz : (DataW.weightsEach Try.prog (Try.f6.params.toList ++ Rows.limboRowsSpec.plain.varTypes Try.prog) (ds ++ gs)).all (· ≤ reachBytes) = true := hsz0
 have hW' := hW
 obtain ⟨p, q, hA0, hV, rfl, _, _⟩ := hW
 have hA : DataW.TrodAll enc Try.prog W 0 (fun _ => true) true Try.f6.params.toList args.toList ds p := hA0
 rw [Try.params6] at hA hval hsz
 obtain ⟨v0, vs0, d0, ds0, p0, q0, hargs, rfl, rfl, h0, r0⟩ := trodAll_cons hA
 obtain ⟨v1, vs1, d1, ds1, p1, q1, rfl, rfl, rfl, h1, r1⟩ := trodAll_cons r0
 obtain ⟨rfl, rfl, rfl⟩ := trodAll_nil r1
 obtain rfl : args = #[v0, v1] := by cases args; simp_all
 obtain ⟨rfl, rfl⟩ := trodVars_none hV
 have tl0 : ∀ x ∈ p0, x.block < W.heap.size := by obtain ⟨m, hm⟩ := h0; exact DataW.trod_lt m _ _ _ hm
 have tl1 : ∀ x ∈ p1, x.block < W.heap.size := by obtain ⟨m, hm⟩ := h1; exact DataW.trod_lt m _ _ _ hm
 clear hA0 hval0
 refine (limboRows_walk (hval 0 22 v0 rfl rfl) h0 (hval 1 3 v1 rfl rfl) h1 hsz).mono fun e W' ⟨he, bel⟩ => ?_
 subst he
 exact ⟨_, rfl, _, _, _, [], _, [], hW', trodAll_mk1 (shut_bool Try.underlying4 _), (trodAll_cons_mk (Below.trod laidOut (by kernel_rfl) (of_decide_eq_true (by kernel_rfl)) h0 bel tl0) (trodAll_cons_mk (Below.trod laidOut (by kernel_rfl) (of_decide_eq_true (by kernel_rfl)) h1 bel tl1) trodAll_mk0)), rfl, bel.frame _, fun h => by cases h⟩
theorem over : Rows.limboRowsRow.holds Try.pinned (OpenSpec.ofChange Rows.limboRowsSpec) :=
 OpenClaim.holds_of_wide 6 Try.f6 rfl rfl rfl rfl rfl rfl rfl ⟨rfl, rfl, rfl, rfl, rfl⟩ rfl rfl rfl rfl rfl (by kernel_rfl) Try.func6 (by kernel_rfl)
  (of_decide_eq_true (by kernel_rfl)) (by unfold Func.isWrapper; first | (rw [if_pos (by decide +kernel)]; kernel_rfl) | (rw [if_neg (by decide +kernel)]; exact ⟨rfl, rfl⟩))
  (fun os started H enc _ => lifted os started H enc)
theorem proved : Rows.LimboRowsSaid := over
#print axioms proved
end Go.Proofs.Ytoemdbongkkmjaa.limboRows
