/- views, taken apart. -/
import Derived.Test.YtojpmbkbeoolcaaKP
import Derived.Test.YtojpmbkbeoolcaaT
namespace Go.Proofs.Ytojpmbkbeoolcaa.K
open Go.Sx Go
set_option maxRecDepth 100000
structure VIn where
 fl : List BE
 r1 : Nat
 w1 : SV
 r2 : Nat
 w2 : SV
noncomputable def viewOf : SV → Option VIn
 | .agg ch => match unB 16 ch with
  | some (fl, .cons (.arr k1 r1 (.lit z1) w1) (.cons (.arr k2 r2 (.lit z2) w2) .nil)) => cond (Nat.beq (kindNo k1) (kindNo .i64) && Nat.beq (kindNo k2) (kindNo .i64) && zEq z1 16 && zEq z2 16) (some ⟨fl, r1, w1, r2, w2⟩) none
  | _ => none
 | _ => none
theorem viewOf_ok (E : Env) {v : SV} {V : VIn} (h : viewOf v = some V) : V.fl.length = 16 ∧ dv E v = .agg (V.fl.map (fun b => Value.bool (evB E b)) ++ (arrCells E .i64 V.r1 16 V.w1 ++ arrCells E .i64 V.r2 16 V.w2)).toArray := by
 unfold viewOf at h
 split at h
 ·rename_i ch
  split at h
  ·rename_i fl k1 r1 z1 w1 k2 r2 z2 w2 hu
   cases hc : (Nat.beq (kindNo k1) (kindNo .i64) && Nat.beq (kindNo k2) (kindNo .i64) && zEq z1 16 && zEq z2 16) with
   | false => rw [hc] at h; cases h
   | true =>
    rw [hc] at h
    cases h
    simp only [Bool.and_eq_true] at hc
    obtain ⟨⟨⟨h1, h2⟩, h3⟩, h4⟩ := hc
    have h1 := kindNo_eq h1
    have h2 := kindNo_eq h2
    have h3 := zEq_ok h3
    have h4 := zEq_ok h4
    subst h1 h2 h3 h4
    obtain ⟨l1, l2⟩ := unB_ok E hu
    refine ⟨l1, ?_⟩
    show Value.agg (dl E ch).toArray = _
    rw [l2]
    simp only [dl, ev_lit, List.append_nil]
    rfl
  ·cases h
 ·cases h
noncomputable def boolsV : List BE → SV → SV
 | [], r => r
 | b :: l, r => .cons (.bool b) (boolsV l r)
theorem boolsV_ok (E : Env) : ∀ (l : List BE) (r : SV), dl E (boolsV l r) = l.map (fun b => Value.bool (evB E b)) ++ dl E r
 | [], r => rfl
 | b :: l, r => by
  show [Value.bool (evB E b)] ++ dl E (boolsV l r) = _
  rw [boolsV_ok E l r]; rfl
noncomputable def askX (tup : Bool) (need : IE) (V : VIn) (now rest : SV) : SV :=
 cond tup (okT (.agg (.cons (.int .i64 need) (boolsV V.fl (.cons (.arr .i64 V.r1 (.lit 16) V.w1) (.cons (.arr .i64 V.r2 (.lit 16) now) (.cons rest .nil)))))))
  (.agg (.cons (.int .i64 need) (boolsV V.fl (.cons (.arr .i64 V.r1 (.lit 16) V.w1) (.cons (.arr .i64 V.r2 (.lit 16) now) (.cons rest .nil))))))
theorem askX_ok (E : Env) (tup : Bool) (need : IE) (V : VIn) (now rest : SV) (v : Value) (hr : dl E rest = [v]) :
  dv E (askX tup need V now rest) = wrapV tup (askVal (ev E need) (V.fl.map (evB E)) ((List.range 16).map (wsVal E V.r1 V.w1)) ((List.range 16).map (wsVal E V.r2 now)) v) := by
 have h : dv E (.agg (.cons (.int .i64 need) (boolsV V.fl (.cons (.arr .i64 V.r1 (.lit 16) V.w1) (.cons (.arr .i64 V.r2 (.lit 16) now) (.cons rest .nil)))))) = askVal (ev E need) (V.fl.map (evB E)) ((List.range 16).map (wsVal E V.r1 V.w1)) ((List.range 16).map (wsVal E V.r2 now)) v := by
  unfold dv askVal
  simp only [dl, boolsV_ok, hr, arrCells, ev_lit, List.headD_cons, List.append_nil, List.cons_append, List.nil_append, List.map_map]
  rfl
 cases tup with
 | true =>
  show dv E (okT _) = _
  rw [dv_okT _ _ (by unfold dv; simp only [dl, List.headD_cons]), h]
 | false => exact h
theorem unB_nm {N : Nat} : ∀ {n : Nat} {v : SV} {l : List BE} {q : SV}, unB n v = some (l, q) → v.nm N = true → (∀ b ∈ l, b.nm N = true) ∧ q.nm N = true
 | 0, v, l, q, h, hv => by cases h; exact ⟨fun _ h => (by cases h), hv⟩
 | n + 1, v, l, q, h, hv => by
  unfold unB at h
  split at h
  ·rename_i hz; omega
  ·rename_i n' b r hn
   cases hn
   split at h
   ·rename_i l' q' h'
    cases h
    have hv : (SV.nm N (.bool b) && SV.nm N r) = true := hv
    rw [Bool.and_eq_true] at hv
    obtain ⟨h1, h2⟩ := unB_nm h' hv.2
    exact ⟨fun c hc => (List.mem_cons.1 hc).elim (fun e => e ▸ hv.1) (h1 c), h2⟩
   ·cases h
  ·cases h
theorem viewOf_nm {N : Nat} {v : SV} {V : VIn} (h : viewOf v = some V) (hv : v.nm N = true) : (∀ b ∈ V.fl, b.nm N = true) ∧ (decide (V.r1 = 0) || decide (V.r1 < N)) = true ∧ V.w1.nm N = true ∧ (decide (V.r2 = 0) || decide (V.r2 < N)) = true ∧ V.w2.nm N = true := by
 unfold viewOf at h
 split at h
 ·rename_i ch
  split at h
  ·rename_i fl k1 r1 z1 w1 k2 r2 z2 w2 hu
   cases hc : (Nat.beq (kindNo k1) (kindNo .i64) && Nat.beq (kindNo k2) (kindNo .i64) && zEq z1 16 && zEq z2 16) with
   | false => rw [hc] at h; cases h
   | true =>
    rw [hc] at h
    cases h
    obtain ⟨h1, h2⟩ := unB_nm hu (show ch.nm N = true from hv)
    simp only [SV.nm, Bool.and_eq_true] at h2
    exact ⟨h1, h2.1.1.1, h2.1.2, h2.2.1.1.1, h2.2.1.2⟩
  ·cases h
 ·cases h
end Go.Proofs.Ytojpmbkbeoolcaa.K
