/- the law WordForms: its walk, part by part. -/
import Derived.Test.YtfmklmpbfahoeaaM
namespace Go.Proofs.Ytfmklmpbfahoeaa
open Go.RowKit

theorem balloc {w w1 : World} (h : Below w.heap.size w w1) (o : Obj) : Below w.heap.size w (w1.alloc o) := h.alloc h.size o
theorem put_e (w : World) : Calls Try.prog 8 #[wd 1 0 11 65535 15 3 1048575] w fun r w' => r = .returned (.tuple #[.int .i64 281473902968829, .int .i64 0]) ∧ Below w.heap.size w w' :=
  put_t 1 0 11 65535 15 3 1048575 w (by decide)
theorem get_e (w : World) : Calls Try.prog 10 #[.int .i64 281473902968829] w fun r w' => r = .returned (.tuple #[wd 1 0 11 65535 15 3 1048575, .int .i64 0]) ∧ Below w.heap.size w w' :=
  get_t 281473902968829 w (by decide) (by decide)
theorem may_e (w : World) : Calls Try.prog 13 #[wd 1 0 11 65535 15 3 1048575] w fun r w' => r = .returned (.bool true) ∧ Below w.heap.size w w' :=
  may_t 1 0 11 65535 15 3 1048575 w (by decide)
theorem eq_wds (k v s g e t q : Int) (w : World) : (binOp .eql 23 (wd k v s g e t q) (wd k v s g e t q)).run Try.prog w = .ok (.bool true) w := by
  rw [eq_wd, show eqw k v s g e t q k v s g e t q = true by simp [eqw]]
end Go.Proofs.Ytfmklmpbfahoeaa
