/- the map that says what each kind of operation does. -/
import Derived.Test.YtdngeccbmalbnaaTab
import Derived.Carry
import Derived.WalkKit
import Derived.MapKept
import Derived.Test.YtdngeccbmalbnaaE4
namespace Go.Proofs.Ytdngeccbmalbnaa
open Go.RowKit Go.Sx
set_option maxRecDepth 100000
theorem run_ins {P : Program} {mt kt et : TypeId} {d : TypeDesc} {w : World} {r : Nat} {es : Array MapEntry} {clock : Nat} {k v : Value} (hm : P.underlying mt = some (.map kt et)) (hd : P.underlying kt = some d) (hk : MapKept.IsKey d k)
    (hb : w.heap[r]? = some (.map es clock)) (hn : Instr.findNow d k es.toList 0 = some none) :
    (Instr.mapUpdate mt (.map (some r)) k v).run P w = .ok () { w with heap := w.heap.setIfInBounds r (.map (es.push { key := k, val := v, born := clock }) (clock + 1)) } := by
  simp only [Instr.mapUpdate, Sem.run_bind, run_underlying hm, Result.andThen_ok, MapKept.run_getObj_map hb, MapKept.run_checkKey hd hk, MapKept.run_findKey hd hn, MapKept.run_setObj_map _ hb]
theorem ins16 (w : World) (es : Array MapEntry) (n : Nat) (z : Int) (f : Nat) (hz : Instr.findNow (.int .i64) (.int .i64 z) es.toList 0 = some none) :
    (Instr.mapUpdate 54 (.map (some w.heap.size)) (.int .i64 z) (.func (.func f) #[] #[])).run Try.prog (w.alloc (.map es n)) = .ok () (w.alloc (.map (es.push (⟨.int .i64 z, .func (.func f) #[] #[], n⟩ : MapEntry)) (n + 1))) := by
  have hb : (w.alloc (.map es n)).heap[w.heap.size]? = some (.map es n) := by simp only [World.alloc, Array.getElem?_push_size]
  have hk : MapKept.IsKey (.int .i64) (.int .i64 z) := rfl
  rw [run_ins (mt := 54) (kt := 3) (et := 52) (d := .int .i64) (by kernel_rfl) (by kernel_rfl) hk hb hz]
  simp only [World.alloc, Array.setIfInBounds_def, Array.size_push, Nat.lt_add_one, dite_true, Array.set_push]
  simp
theorem f16 (w : World) :
    Calls Try.prog 16 #[] w fun r w' => r = .returned (.map (some w.heap.size)) ∧ w' = w.alloc (mapObj [.int .i64 6, .func (.func 23) #[] #[], .int .i64 7, .func (.func 24) #[] #[], .int .i64 8, .func (.func 25) #[] #[], .int .i64 9, .func (.func 26) #[] #[], .int .i64 10, .func (.func 27) #[] #[]]) := by
  have hmm := @run_makeMap Try.prog
  have h0 : (Instr.mapUpdate 54 (.map (some w.heap.size)) (.int .i64 6) (.func (.func 23) #[] #[])).run Try.prog (w.alloc (.map #[] 0)) = .ok () (w.alloc (.map #[(⟨.int .i64 6, .func (.func 23) #[] #[], 0⟩ : MapEntry)] 1)) := ins16 w #[] 0 6 23 rfl
  have h1 : (Instr.mapUpdate 54 (.map (some w.heap.size)) (.int .i64 7) (.func (.func 24) #[] #[])).run Try.prog (w.alloc (.map #[(⟨.int .i64 6, .func (.func 23) #[] #[], 0⟩ : MapEntry)] 1)) = .ok () (w.alloc (.map #[(⟨.int .i64 6, .func (.func 23) #[] #[], 0⟩ : MapEntry), (⟨.int .i64 7, .func (.func 24) #[] #[], 1⟩ : MapEntry)] 2)) := ins16 w #[(⟨.int .i64 6, .func (.func 23) #[] #[], 0⟩ : MapEntry)] 1 7 24 rfl
  have h2 : (Instr.mapUpdate 54 (.map (some w.heap.size)) (.int .i64 8) (.func (.func 25) #[] #[])).run Try.prog (w.alloc (.map #[(⟨.int .i64 6, .func (.func 23) #[] #[], 0⟩ : MapEntry), (⟨.int .i64 7, .func (.func 24) #[] #[], 1⟩ : MapEntry)] 2)) = .ok () (w.alloc (.map #[(⟨.int .i64 6, .func (.func 23) #[] #[], 0⟩ : MapEntry), (⟨.int .i64 7, .func (.func 24) #[] #[], 1⟩ : MapEntry), (⟨.int .i64 8, .func (.func 25) #[] #[], 2⟩ : MapEntry)] 3)) := ins16 w #[(⟨.int .i64 6, .func (.func 23) #[] #[], 0⟩ : MapEntry), (⟨.int .i64 7, .func (.func 24) #[] #[], 1⟩ : MapEntry)] 2 8 25 rfl
  have h3 : (Instr.mapUpdate 54 (.map (some w.heap.size)) (.int .i64 9) (.func (.func 26) #[] #[])).run Try.prog (w.alloc (.map #[(⟨.int .i64 6, .func (.func 23) #[] #[], 0⟩ : MapEntry), (⟨.int .i64 7, .func (.func 24) #[] #[], 1⟩ : MapEntry), (⟨.int .i64 8, .func (.func 25) #[] #[], 2⟩ : MapEntry)] 3)) = .ok () (w.alloc (.map #[(⟨.int .i64 6, .func (.func 23) #[] #[], 0⟩ : MapEntry), (⟨.int .i64 7, .func (.func 24) #[] #[], 1⟩ : MapEntry), (⟨.int .i64 8, .func (.func 25) #[] #[], 2⟩ : MapEntry), (⟨.int .i64 9, .func (.func 26) #[] #[], 3⟩ : MapEntry)] 4)) := ins16 w #[(⟨.int .i64 6, .func (.func 23) #[] #[], 0⟩ : MapEntry), (⟨.int .i64 7, .func (.func 24) #[] #[], 1⟩ : MapEntry), (⟨.int .i64 8, .func (.func 25) #[] #[], 2⟩ : MapEntry)] 3 9 26 rfl
  have h4 : (Instr.mapUpdate 54 (.map (some w.heap.size)) (.int .i64 10) (.func (.func 27) #[] #[])).run Try.prog (w.alloc (.map #[(⟨.int .i64 6, .func (.func 23) #[] #[], 0⟩ : MapEntry), (⟨.int .i64 7, .func (.func 24) #[] #[], 1⟩ : MapEntry), (⟨.int .i64 8, .func (.func 25) #[] #[], 2⟩ : MapEntry), (⟨.int .i64 9, .func (.func 26) #[] #[], 3⟩ : MapEntry)] 4)) = .ok () (w.alloc (.map #[(⟨.int .i64 6, .func (.func 23) #[] #[], 0⟩ : MapEntry), (⟨.int .i64 7, .func (.func 24) #[] #[], 1⟩ : MapEntry), (⟨.int .i64 8, .func (.func 25) #[] #[], 2⟩ : MapEntry), (⟨.int .i64 9, .func (.func 26) #[] #[], 3⟩ : MapEntry), (⟨.int .i64 10, .func (.func 27) #[] #[], 4⟩ : MapEntry)] 5)) := ins16 w #[(⟨.int .i64 6, .func (.func 23) #[] #[], 0⟩ : MapEntry), (⟨.int .i64 7, .func (.func 24) #[] #[], 1⟩ : MapEntry), (⟨.int .i64 8, .func (.func 25) #[] #[], 2⟩ : MapEntry), (⟨.int .i64 9, .func (.func 26) #[] #[], 3⟩ : MapEntry)] 4 10 27 rfl
  go_enter Try.func16, Try.ntmps16
  go_wp2
  go_ret
  exact ⟨rfl, rfl⟩
/-- next of a key (its number and 1 is n), by its link less 1 -/
noncomputable def nextZ (n a : Int) : Int := if n ≤ a ∧ a ≤ 4 then a else 5
/-- the unknown functions: 100 and on is next -/
noncomputable def G0 : Gf := fun f xs => match xs with
  | [a] => if 100 ≤ f ∧ f ≤ 105 then nextZ ((f : Int) - 100) a else 0
  | _ => 0
theorem G0_in (f : Nat) (xs : List Int) : in64 (G0 f xs) := by
  unfold G0
  split
  · split
    · unfold nextZ; split <;> (constructor <;> simp only [lo64, hi64] <;> omega)
    · constructor <;> decide
  · constructor <;> decide
theorem G0_next {n : Nat} (hn : n ≤ 5) (a : Int) : G0 (100 + n) [a] = nextZ n a := by
  show (if 100 ≤ 100 + n ∧ 100 + n ≤ 105 then nextZ (((100 + n : Nat) : Int) - 100) a else 0) = _
  rw [if_pos (by omega)]
  congr 1
  omega
noncomputable def mapC : SV := (.cons (.int .i64 (.lit 6)) (.cons (.fn 23 .nil) (.cons (.int .i64 (.lit 7)) (.cons (.fn 24 .nil) (.cons (.int .i64 (.lit 8)) (.cons (.fn 25 .nil) (.cons (.int .i64 (.lit 9)) (.cons (.fn 26 .nil) (.cons (.int .i64 (.lit 10)) (.cons (.fn 27 .nil) .nil))))))))))
theorem spec16 : SpecOk G0 Try.prog 16 (mapX mapC) := mapX_ok (fun _ => rfl) f16
end Go.Proofs.Ytdngeccbmalbnaa
