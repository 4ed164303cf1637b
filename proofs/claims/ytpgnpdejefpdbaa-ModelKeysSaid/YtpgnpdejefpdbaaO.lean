/- an operation's call upon a state, by the program's functions and by the reference's. -/
import Derived.Test.YtpgnpdejefpdbaaP
namespace Go.Proofs.Ytpgnpdejefpdbaa
open Go.Sx Go
set_option maxRecDepth 100000
theorem kt0 : chkK (fun0 28) 0 = true := by kernel_rfl
theorem kt1 : chkK (fun0 29) 1 = true := by kernel_rfl
theorem kt2 : chkK (fun0 30) 2 = true := by kernel_rfl
theorem kt3 : chkK (fun0 31) 3 = true := by kernel_rfl
theorem kt4 : chkK (fun0 32) 4 = true := by kernel_rfl
theorem kt5 : chkK (fun0 33) 5 = true := by kernel_rfl
theorem kt6 : chkK (fun0 34) 6 = true := by kernel_rfl
theorem kt7 : chkK (fun0 35) 7 = true := by kernel_rfl
theorem kt8 : chkK (fun0 36) 8 = true := by kernel_rfl
theorem kt9 : chkK (fun0 37) 9 = true := by kernel_rfl
theorem kt10 : chkK (fun0 38) 10 = true := by kernel_rfl
theorem rt0 : chkK (fun0 24) 0 = true := by kernel_rfl
theorem rt1 : chkK (fun0 24) 1 = true := by kernel_rfl
theorem rt2 : chkK (fun0 24) 2 = true := by kernel_rfl
theorem rt3 : chkK (fun0 24) 3 = true := by kernel_rfl
theorem rt4 : chkK (fun0 24) 4 = true := by kernel_rfl
theorem rt5 : chkK (fun0 24) 5 = true := by kernel_rfl
theorem rt6 : chkK (fun0 24) 6 = true := by kernel_rfl
theorem rt7 : chkK (fun0 24) 7 = true := by kernel_rfl
theorem rt8 : chkK (fun0 24) 8 = true := by kernel_rfl
theorem rt9 : chkK (fun0 24) 9 = true := by kernel_rfl
theorem rt10 : chkK (fun0 24) 10 = true := by kernel_rfl
theorem chkK_use {s : List SV → X SV} {k a b x : Int} (h : chkK s k = true) (hm : mayZ k a b x = 1) : chkR s k a b = true := by
 unfold chkK at h
 rw [List.all_eq_true] at h
 have := h _ (combo_mem hm)
 rw [show zEq k k = true by rw [zEq_of]; exact decide_eq_true rfl] at this
 exact this
theorem kindT {f : Nat} {K : Int} (h : chkK (fun0 f) K = true) : SpecOk G0 Try.prog f (appT K K) := appT_ok fun k a b x hm h1 h2 => by
 obtain rfl : k = K := by omega
 exact semT (fun0_ok f) hm (chkK_use h hm)
theorem told_ok : SpecOk G0 Try.prog 24 (appT 0 10) := appT_ok fun k a b x hm h1 h2 => by
 rcases (by omega : k = 0 ∨ k = 1 ∨ k = 2 ∨ k = 3 ∨ k = 4 ∨ k = 5 ∨ k = 6 ∨ k = 7 ∨ k = 8 ∨ k = 9 ∨ k = 10) with rfl | rfl | rfl | rfl | rfl | rfl | rfl | rfl | rfl | rfl | rfl
 ·exact semT (fun0_ok 24) hm (chkK_use rt0 hm)
 ·exact semT (fun0_ok 24) hm (chkK_use rt1 hm)
 ·exact semT (fun0_ok 24) hm (chkK_use rt2 hm)
 ·exact semT (fun0_ok 24) hm (chkK_use rt3 hm)
 ·exact semT (fun0_ok 24) hm (chkK_use rt4 hm)
 ·exact semT (fun0_ok 24) hm (chkK_use rt5 hm)
 ·exact semT (fun0_ok 24) hm (chkK_use rt6 hm)
 ·exact semT (fun0_ok 24) hm (chkK_use rt7 hm)
 ·exact semT (fun0_ok 24) hm (chkK_use rt8 hm)
 ·exact semT (fun0_ok 24) hm (chkK_use rt9 hm)
 ·exact semT (fun0_ok 24) hm (chkK_use rt10 hm)
theorem k28_ok : SpecOk G0 Try.prog 28 (appT 0 0) := kindT kt0
theorem k29_ok : SpecOk G0 Try.prog 29 (appT 1 1) := kindT kt1
theorem k30_ok : SpecOk G0 Try.prog 30 (appT 2 2) := kindT kt2
theorem k31_ok : SpecOk G0 Try.prog 31 (appT 3 3) := kindT kt3
theorem k32_ok : SpecOk G0 Try.prog 32 (appT 4 4) := kindT kt4
theorem k33_ok : SpecOk G0 Try.prog 33 (appT 5 5) := kindT kt5
theorem k34_ok : SpecOk G0 Try.prog 34 (appT 6 6) := kindT kt6
theorem k35_ok : SpecOk G0 Try.prog 35 (appT 7 7) := kindT kt7
theorem k36_ok : SpecOk G0 Try.prog 36 (appT 8 8) := kindT kt8
theorem k37_ok : SpecOk G0 Try.prog 37 (appT 9 9) := kindT kt9
theorem k38_ok : SpecOk G0 Try.prog 38 (appT 10 10) := kindT kt10
end Go.Proofs.Ytpgnpdejefpdbaa
