/- an operation's call upon a state, by the program's functions. -/
import Derived.Test.YtojpmbkbeoolcaaP
namespace Go.Proofs.Ytojpmbkbeoolcaa
open Go.Sx Go
set_option maxRecDepth 100000
theorem kt0 : chkK (fun0 40) 0 = true := by kernel_rfl
theorem kt1 : chkK (fun0 41) 1 = true := by kernel_rfl
theorem kt2 : chkK (fun0 42) 2 = true := by kernel_rfl
theorem kt3 : chkK (fun0 43) 3 = true := by kernel_rfl
theorem kt4 : chkK (fun0 44) 4 = true := by kernel_rfl
theorem kt5 : chkK (fun0 45) 5 = true := by kernel_rfl
theorem kt6 : chkK (fun0 46) 6 = true := by kernel_rfl
theorem kt7 : chkK (fun0 47) 7 = true := by kernel_rfl
theorem kt8 : chkK (fun0 48) 8 = true := by kernel_rfl
theorem kt9 : chkK (fun0 49) 9 = true := by kernel_rfl
theorem kt10 : chkK (fun0 50) 10 = true := by kernel_rfl
theorem chkK_use {s : List SV → X SV} {k a b x : Int} (h : chkK s k = true) (hm : mayZ k a b x = 1) : chkR s k a b = true := by
 unfold chkK at h
 rw [List.all_eq_true] at h
 have := h _ (combo_mem hm)
 rw [show zEq k k = true by rw [zEq_of]; exact decide_eq_true rfl] at this
 exact this
theorem kindT {f : Nat} {K : Int} (h : chkK (fun0 f) K = true) : SpecOk G0 Try.prog f (appT K K) := appT_ok fun k a b x hm h1 h2 => by
 obtain rfl : k = K := by omega
 exact semT (fun0_ok f) hm (chkK_use h hm)
theorem k0_ok : SpecOk G0 Try.prog 40 (appT 0 0) := kindT kt0
theorem k1_ok : SpecOk G0 Try.prog 41 (appT 1 1) := kindT kt1
theorem k2_ok : SpecOk G0 Try.prog 42 (appT 2 2) := kindT kt2
theorem k3_ok : SpecOk G0 Try.prog 43 (appT 3 3) := kindT kt3
theorem k4_ok : SpecOk G0 Try.prog 44 (appT 4 4) := kindT kt4
theorem k5_ok : SpecOk G0 Try.prog 45 (appT 5 5) := kindT kt5
theorem k6_ok : SpecOk G0 Try.prog 46 (appT 6 6) := kindT kt6
theorem k7_ok : SpecOk G0 Try.prog 47 (appT 7 7) := kindT kt7
theorem k8_ok : SpecOk G0 Try.prog 48 (appT 8 8) := kindT kt8
theorem k9_ok : SpecOk G0 Try.prog 49 (appT 9 9) := kindT kt9
theorem k10_ok : SpecOk G0 Try.prog 50 (appT 10 10) := kindT kt10
end Go.Proofs.Ytojpmbkbeoolcaa
