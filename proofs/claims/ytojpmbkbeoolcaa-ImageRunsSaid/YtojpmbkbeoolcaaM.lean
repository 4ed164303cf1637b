/- the map that says what each kind of operation does. -/
import Derived.Test.YtojpmbkbeoolcaaTab
import Derived.Carry
import Derived.WalkKit
import Derived.MapKept
import Derived.Test.YtojpmbkbeoolcaaG
namespace Go.Proofs.Ytojpmbkbeoolcaa
open Go.RowKit Go.Sx
set_option maxRecDepth 100000
theorem run_ins {P : Program} {mt kt et : TypeId} {d : TypeDesc} {w : World} {r : Nat} {es : Array MapEntry} {clock : Nat} {k v : Value} (hm : P.underlying mt = some (.map kt et)) (hd : P.underlying kt = some d) (hk : MapKept.IsKey d k)
  (hb : w.heap[r]? = some (.map es clock)) (hn : Instr.findNow d k es.toList 0 = some none) :
  (Instr.mapUpdate mt (.map (some r)) k v).run P w = .ok () { w with heap := w.heap.setIfInBounds r (.map (es.push { key := k, val := v, born := clock }) (clock + 1)) } := by
 simp only [Instr.mapUpdate, Sem.run_bind, run_underlying hm, Result.andThen_ok, MapKept.run_getObj_map hb, MapKept.run_checkKey hd hk, MapKept.run_findKey hd hn, MapKept.run_setObj_map _ hb]
theorem ins16 (w : World) (es : Array MapEntry) (n : Nat) (z : Int) (f : Nat) (hz : Instr.findNow (.int .i64) (.int .i64 z) es.toList 0 = some none) :
  (Instr.mapUpdate 107 (.map (some w.heap.size)) (.int .i64 z) (.func (.func f) #[] #[])).run Try.prog (w.alloc (.map es n)) = .ok () (w.alloc (.map (es.push (⟨.int .i64 z, .func (.func f) #[] #[], n⟩ : MapEntry)) (n + 1))) := by
 have hb : (w.alloc (.map es n)).heap[w.heap.size]? = some (.map es n) := by simp only [World.alloc, Array.getElem?_push_size]
 have hk : MapKept.IsKey (.int .i64) (.int .i64 z) := rfl
 rw [run_ins (mt := 107) (kt := 3) (et := 105) (d := .int .i64) (by kernel_rfl) (by kernel_rfl) hk hb hz]
 simp only [World.alloc, Array.setIfInBounds_def, Array.size_push, Nat.lt_add_one, dite_true, Array.set_push]
 simp
theorem f16 (w : World) :
  Calls Try.prog 59 #[] w fun r w' => r = .returned (.map (some w.heap.size)) ∧ w' = w.alloc (mapObj [.int .i64 6, .func (.func 73) #[] #[], .int .i64 7, .func (.func 74) #[] #[], .int .i64 8, .func (.func 75) #[] #[], .int .i64 9, .func (.func 76) #[] #[], .int .i64 10, .func (.func 77) #[] #[]]) := by
 have hmm := @run_makeMap Try.prog
 have h0 : (Instr.mapUpdate 107 (.map (some w.heap.size)) (.int .i64 6) (.func (.func 73) #[] #[])).run Try.prog (w.alloc (.map #[] 0)) = .ok () (w.alloc (.map #[(⟨.int .i64 6, .func (.func 73) #[] #[], 0⟩ : MapEntry)] 1)) := ins16 w #[] 0 6 73 rfl
 have h1 : (Instr.mapUpdate 107 (.map (some w.heap.size)) (.int .i64 7) (.func (.func 74) #[] #[])).run Try.prog (w.alloc (.map #[(⟨.int .i64 6, .func (.func 73) #[] #[], 0⟩ : MapEntry)] 1)) = .ok () (w.alloc (.map #[(⟨.int .i64 6, .func (.func 73) #[] #[], 0⟩ : MapEntry), (⟨.int .i64 7, .func (.func 74) #[] #[], 1⟩ : MapEntry)] 2)) := ins16 w #[(⟨.int .i64 6, .func (.func 73) #[] #[], 0⟩ : MapEntry)] 1 7 74 rfl
 have h2 : (Instr.mapUpdate 107 (.map (some w.heap.size)) (.int .i64 8) (.func (.func 75) #[] #[])).run Try.prog (w.alloc (.map #[(⟨.int .i64 6, .func (.func 73) #[] #[], 0⟩ : MapEntry), (⟨.int .i64 7, .func (.func 74) #[] #[], 1⟩ : MapEntry)] 2)) = .ok () (w.alloc (.map #[(⟨.int .i64 6, .func (.func 73) #[] #[], 0⟩ : MapEntry), (⟨.int .i64 7, .func (.func 74) #[] #[], 1⟩ : MapEntry), (⟨.int .i64 8, .func (.func 75) #[] #[], 2⟩ : MapEntry)] 3)) := ins16 w #[(⟨.int .i64 6, .func (.func 73) #[] #[], 0⟩ : MapEntry), (⟨.int .i64 7, .func (.func 74) #[] #[], 1⟩ : MapEntry)] 2 8 75 rfl
 have h3 : (Instr.mapUpdate 107 (.map (some w.heap.size)) (.int .i64 9) (.func (.func 76) #[] #[])).run Try.prog (w.alloc (.map #[(⟨.int .i64 6, .func (.func 73) #[] #[], 0⟩ : MapEntry), (⟨.int .i64 7, .func (.func 74) #[] #[], 1⟩ : MapEntry), (⟨.int .i64 8, .func (.func 75) #[] #[], 2⟩ : MapEntry)] 3)) = .ok () (w.alloc (.map #[(⟨.int .i64 6, .func (.func 73) #[] #[], 0⟩ : MapEntry), (⟨.int .i64 7, .func (.func 74) #[] #[], 1⟩ : MapEntry), (⟨.int .i64 8, .func (.func 75) #[] #[], 2⟩ : MapEntry), (⟨.int .i64 9, .func (.func 76) #[] #[], 3⟩ : MapEntry)] 4)) := ins16 w #[(⟨.int .i64 6, .func (.func 73) #[] #[], 0⟩ : MapEntry), (⟨.int .i64 7, .func (.func 74) #[] #[], 1⟩ : MapEntry), (⟨.int .i64 8, .func (.func 75) #[] #[], 2⟩ : MapEntry)] 3 9 76 rfl
 have h4 : (Instr.mapUpdate 107 (.map (some w.heap.size)) (.int .i64 10) (.func (.func 77) #[] #[])).run Try.prog (w.alloc (.map #[(⟨.int .i64 6, .func (.func 73) #[] #[], 0⟩ : MapEntry), (⟨.int .i64 7, .func (.func 74) #[] #[], 1⟩ : MapEntry), (⟨.int .i64 8, .func (.func 75) #[] #[], 2⟩ : MapEntry), (⟨.int .i64 9, .func (.func 76) #[] #[], 3⟩ : MapEntry)] 4)) = .ok () (w.alloc (.map #[(⟨.int .i64 6, .func (.func 73) #[] #[], 0⟩ : MapEntry), (⟨.int .i64 7, .func (.func 74) #[] #[], 1⟩ : MapEntry), (⟨.int .i64 8, .func (.func 75) #[] #[], 2⟩ : MapEntry), (⟨.int .i64 9, .func (.func 76) #[] #[], 3⟩ : MapEntry), (⟨.int .i64 10, .func (.func 77) #[] #[], 4⟩ : MapEntry)] 5)) := ins16 w #[(⟨.int .i64 6, .func (.func 73) #[] #[], 0⟩ : MapEntry), (⟨.int .i64 7, .func (.func 74) #[] #[], 1⟩ : MapEntry), (⟨.int .i64 8, .func (.func 75) #[] #[], 2⟩ : MapEntry), (⟨.int .i64 9, .func (.func 76) #[] #[], 3⟩ : MapEntry)] 4 10 77 rfl
 go_enter Try.func59, Try.ntmps59
 go_wp2
 go_ret
 exact ⟨rfl, rfl⟩
noncomputable def mapC : SV := (.cons (.int .i64 (.lit 6)) (.cons (.fn 73 .nil) (.cons (.int .i64 (.lit 7)) (.cons (.fn 74 .nil) (.cons (.int .i64 (.lit 8)) (.cons (.fn 75 .nil) (.cons (.int .i64 (.lit 9)) (.cons (.fn 76 .nil) (.cons (.int .i64 (.lit 10)) (.cons (.fn 77 .nil) .nil))))))))))
theorem spec16 : SpecOk G0 Try.prog 59 (mapX mapC) := mapX_ok (fun _ => rfl) f16
end Go.Proofs.Ytojpmbkbeoolcaa
