/- an operation upon a view of an image: what is run, what is looked at. -/
import Derived.Test.YtojpmbkbeoolcaaKL
import Derived.Test.YtojpmbkbeoolcaaM
import Derived.Test.YtojpmbkbeoolcaaP
import Derived.Test.YtojpmbkbeoolcaaC
import Derived.Test.YtojpmbkbeoolcaaE5
namespace Go.Proofs.Ytojpmbkbeoolcaa
open Go.Sx Go
set_option maxRecDepth 100000
noncomputable def spS : List (Nat × (List SV → X SV)) := [(59, mapX mapC), (55, K.v18)]
theorem okSpS : ∀ x ∈ spS, SpecOk G0 Try.prog x.1 x.2 := cons_ok (a := (59, mapX mapC)) spec16 (one_ok (a := (55, K.v18)) K.v18_ok)
noncomputable def s30 : List SV → X SV := funL spS 38
theorem s30_ok : SpecOk G0 Try.prog 38 s30 := funL_ok okSpS 38
noncomputable def truesV : Nat → SV → SV
 | 0, r => r
 | n + 1, r => .cons (.bool (.lit true)) (truesV n r)
noncomputable def viewT (now : SV) : SV := .agg (truesV 16 (.cons (.arr .i64 6 (.lit 16) .nil) (.cons (.arr .i64 7 (.lit 16) now) .nil)))
noncomputable def askT (now rest : SV) : SV := .agg (.cons (.int .i64 (.lit (-1))) (truesV 16 (.cons (.arr .i64 6 (.lit 16) .nil) (.cons (.arr .i64 7 (.lit 16) now) (.cons rest .nil)))))
noncomputable def accF (r : Nat) : List Fact := [(.sel r (.lit 0), 0, 1048576), (.sel r (.lit 1), 0, 1048576), (.sel r (.lit 2), 0, 1048576), (.sel r (.lit 3), 0, 1048576)]
noncomputable def memV (k : Int) : Mem := { know := ⟨(.var 9, 0, limX k) :: (accF 7 ++ K.rngs 6 16 (K.rngs 7 16 [])), []⟩, heap := [], seg := 0, next := 0, nv := 41 }
noncomputable def oneAns : SV := .sli 40 0 (.lit 0) (.lit 1) (.lit 1)
noncomputable def blC (i : Int) : IE := .add (.sel 7 (.lit i)) (.lit (-1))
noncomputable def plus1 : IE → IE
 | .ite kd a b x y => .ite kd a b (plus1 x) (plus1 y)
 | e => norm (.add e (.lit 1))
theorem ev_plus1 (E : Env) : ∀ e, ev E (plus1 e) = ev E e + 1 := by
 intro e
 induction e with
 | ite kd a b x y _ _ hx hy =>
  unfold plus1
  rw [ev_ite, ev_ite, hx, hy]
  cases (if kd = true then decide (ev E a < ev E b) else decide (ev E a = ev E b)) <;> rfl
 | _ => unfold plus1; rw [norm_ok, ev_add]; rfl
noncomputable def wrC (k a b : Int) : List Nat → SV
 | [] => .nil
 | i :: l => .wr (.lit (.ofNat i)) (plus1 (quantG blC (2 + i) k a b)) (wrC k a b l)
noncomputable def form30 (k a b : Int) : FormY := { args := [viewT .nil, opX k a b], mem := memV k, e := .lit (-1), val := K.okT (askT (wrC k a b [0, 1, 2, 3]) oneAns), t := 76, c := .cons (.int .i64 (quantG blC 0 k a b)) (.cons (.int .i64 (quantG blC 1 k a b)) .nil), no := .nil }
noncomputable def ok30 (k a b : Int) : Bool := vRun 40 s30 ((form30 k a b).more [])
noncomputable def ysOf (a0 a1 a2 a3 : Int) (xs : List Int) (k a b x : Int) : List Int := [a0 - 1, a1 - 1, a2 - 1, a3 - 1] ++ (xs.take 5 ++ [k, a, b, x])
noncomputable def nextOf (ys xs : List Int) (k a b x : Int) : List Int := ((List.range 5).map fun j => G0 (306 + j) ys) ++ (List.range 5).map fun j => G0 (460 + j) (xs ++ [k, a, b, x])
noncomputable def pureL : IE → Bool
 | .lit _ => true
 | .sel r (.lit (.ofNat c)) => Nat.beq r 7 && (Nat.ble 4 c && Nat.ble c 15)
 | .bv j => Nat.ble 20 j && Nat.ble j 35
 | .add a b => pureL a && pureL b
 | .sub a b => pureL a && pureL b
 | .mul a b => pureL a && pureL b
 | .ite _ a b x y => pureL a && pureL b && pureL x && pureL y
 | .app f (.arg a .noarg) => Nat.ble 100 f && Nat.ble f 105 && pureL a
 | _ => false
structure SameL (E E' : Env) : Prop where
 b : ∀ j, 20 ≤ j → j ≤ 35 → E.b j = E'.b j
 l : ∀ c : Nat, 4 ≤ c → c ≤ 15 → (E.row 7).getD c 0 = (E'.row 7).getD c 0
 f : E.f = E'.f
theorem pureL_ev {E E' : Env} (h : SameL E E') : ∀ e : IE, pureL e = true → ev E e = ev E' e
 | .lit _, _ => rfl
 | .sel r (.lit (.ofNat c)), hp => by
  simp only [pureL, Bool.and_eq_true] at hp
  have h1 := Nat.eq_of_beq_eq_true hp.1
  subst h1
  rw [ev_sel, ev_sel]
  exact h.l c (Nat.le_of_ble_eq_true hp.2.1) (Nat.le_of_ble_eq_true hp.2.2)
 | .bv j, hp => by
  simp only [pureL, Bool.and_eq_true] at hp
  rw [ev_bv, ev_bv, h.b j (Nat.le_of_ble_eq_true hp.1) (Nat.le_of_ble_eq_true hp.2)]
 | .add a b, hp => by
  simp only [pureL, Bool.and_eq_true] at hp
  rw [ev_add, ev_add, pureL_ev h a hp.1, pureL_ev h b hp.2]
 | .sub a b, hp => by
  simp only [pureL, Bool.and_eq_true] at hp
  rw [ev_sub, ev_sub, pureL_ev h a hp.1, pureL_ev h b hp.2]
 | .mul a b, hp => by
  simp only [pureL, Bool.and_eq_true] at hp
  rw [ev_mul, ev_mul, pureL_ev h a hp.1, pureL_ev h b hp.2]
 | .ite k a b x y, hp => by
  simp only [pureL, Bool.and_eq_true] at hp
  rw [ev_ite, ev_ite, pureL_ev h a hp.1.1.1, pureL_ev h b hp.1.1.2, pureL_ev h x hp.1.2, pureL_ev h y hp.2]
 | .app f (.arg a .noarg), hp => by
  simp only [pureL, Bool.and_eq_true] at hp
  rw [ev_app, ev_app, evA_arg, evA_arg, evA_no, evA_no, pureL_ev h a hp.2, h.f]
noncomputable def envC (N : List Int) : Env := { i := fun _ => 0, b := fun _ => true, l := fun r => if r = 7 then N else [], base := fun _ => 0, o := fun _ => 0, v := fun _ => .tuple #[], f := G0 }
noncomputable def chkP (k a b x : Int) : Bool := (List.range 3).all (fun i => pureL (K.quant i k a b x)) && (List.range 12).all (fun c => pureL (K.quant (7 + c) k a b x)) && (List.range 4).all fun c => ieEq (K.quant (3 + c) k a b x) (.sel 7 (.lit (.ofNat c)))
noncomputable def chkX (k a b x : Int) (xs : List Int) : Bool := forceL ([0, 0, 0, 0] ++ linksZ xs) fun N => forceL (ysOf 1 1 1 1 xs k a b x) fun ys => forceL (nextOf ys xs k a b x) fun nx => forceL (linksZ (nrm nx)) fun L =>
 zEq (ev (envC N) (K.quant 0 k a b x)) (-1) && zEq (ev (envC N) (K.quant 1 k a b x)) (tellZ 0 ys) && zEq (ev (envC N) (K.quant 2 k a b x)) (tellZ 1 ys) && (List.range 12).all fun c => zEq (ev (envC N) (K.quant (7 + c) k a b x)) (L.getD c 0)
noncomputable def chkC (k a b x : Int) : Bool := chkP k a b x && cfgs.all fun xs => chkX k a b x xs
end Go.Proofs.Ytojpmbkbeoolcaa
