/- a helper's steps: forms. -/
import Derived.Test.YtdchpckikclmlaaSP
namespace Go.Proofs.Ytdchpckikclmlaa
open Go.Sx Go
set_option maxRecDepth 100000
noncomputable def setL : List (Nat × SV) → Nat → SV → SV
 | [], _, c => c
 | p :: l, i, .cons a r => cond (Nat.beq p.1 i) (.cons p.2 (setL l (i + 1) r)) (.cons a (setL (p :: l) (i + 1) r))
 | _, _, c => c
noncomputable def stF (d : Nat) (w : StW) (over : Bool) (h f : List (Nat × SV)) (ws : SV) (t : List SV) (n : Nat) : Sx.Form := { args := argW, mem := memW d w .nili, val := .tup (.cons (.bool (.lit over)) (.cons (il 0) .nil)), out := [⟨100, 0, 80, setL h 0 (hC d w.tt)⟩, ⟨102, 0, cond (Nat.beq w.tt 85) 90 107, setL f 0 (frC w .nili)⟩, ⟨40, 0, 84, arC ws t⟩], n := n }
noncomputable def w_m0o : StW := { tt := 85, a := 0, fs := [], cs := [.eq (xa (atB 0)) (stW 0)] }
noncomputable def w_m5o : StW := { tt := 85, a := 5, fs := [], cs := [.eq (xa (atB 0)) (stW 0)] }
noncomputable def w_s2o : StW := { tt := 105, a := 2, fs := [], cs := [.eq (xa (atB 0)) (stW 0)] }
noncomputable def w_m0w : StW := { tt := 85, a := 0, fs := [], cs := [.eq (xa (atB 0)) (stW 1)] }
noncomputable def w_m5w : StW := { tt := 85, a := 5, fs := [], cs := [.eq (xa (atB 0)) (stW 1)] }
noncomputable def w_s2w : StW := { tt := 105, a := 2, fs := [], cs := [.eq (xa (atB 0)) (stW 1)] }
noncomputable def w_m13w : StW := { tt := 85, a := 13, fs := [], cs := [.eq (xa (atB 0)) (stW 1)] }
noncomputable def w_m0l : StW := { tt := 85, a := 0, fs := [], cs := [.eq (xa (atB 0)) (stW 2)] }
noncomputable def w_m5l : StW := { tt := 85, a := 5, fs := [], cs := [.eq (xa (atB 0)) (stW 2)] }
noncomputable def w_s2l : StW := { tt := 105, a := 2, fs := [], cs := [.eq (xa (atB 0)) (stW 2)] }
noncomputable def w_m13l : StW := { tt := 85, a := 13, fs := [], cs := [.eq (xa (atB 0)) (stW 2)] }
noncomputable def w_m1z : StW := { tt := 85, a := 1, fs := valF (xa (atB 1)) 0 0, cs := [] }
noncomputable def w_m1k : StW := { tt := 85, a := 1, fs := valF (xa (atB 1)) 1 16, cs := [] }
noncomputable def w_m9z : StW := { tt := 85, a := 9, fs := valF (xa (atB 1)) 0 0, cs := [] }
noncomputable def w_m9k : StW := { tt := 85, a := 9, fs := valF (xa (atB 1)) 1 16, cs := [] }
noncomputable def w_m2 : StW := { tt := 85, a := 2, fs := valF (xa (atE 0)) 0 15, cs := [] }
noncomputable def w_m10 : StW := { tt := 85, a := 10, fs := valF (xa (atE 0)) 0 15, cs := [] }
noncomputable def w_s0 : StW := { tt := 105, a := 0, fs := valF (xa (atE 0)) 0 15, cs := [] }
noncomputable def w_m3 : StW := { tt := 85, a := 3, fs := valF (xa (atE 1)) 0 1099511627775, cs := [] }
noncomputable def w_s1 : StW := { tt := 105, a := 1, fs := valF (xa (atE 1)) 0 1099511627775, cs := [] }
noncomputable def w_m4e : StW := { tt := 85, a := 4, fs := [], cs := [.eq (xa (.var 73)) (.var 74)] }
noncomputable def w_m4ml : StW := { tt := 85, a := 4, fs := [], cs := [.not (.eq (xa (.var 73)) (.var 74)), .eq (xa (.var 73)) mineW, lastC true] }
noncomputable def w_m4mn : StW := { tt := 85, a := 4, fs := [], cs := [.not (.eq (xa (.var 73)) (.var 74)), .eq (xa (.var 73)) mineW, lastC false] }
noncomputable def w_m4v : StW := { tt := 85, a := 4, fs := valF (xa (.var 73)) 0 1099511627775, cs := [.not (.eq (xa (.var 73)) (.var 74)), .not (.eq (xa (.var 73)) mineW)] }
noncomputable def w_m6ttt : StW := { tt := 85, a := 6, opn := .lit true, fs := [], cs := [isC true (xa (.var 73)) (.var 77), lastC true] }
noncomputable def w_m6ttf : StW := { tt := 85, a := 6, opn := .lit true, fs := [], cs := [isC true (xa (.var 73)) (.var 77), lastC false] }
noncomputable def w_s3tt : StW := { tt := 105, a := 3, opn := .lit true, fs := [], cs := [isC true (xa (.var 73)) (.var 77)] }
noncomputable def w_m6tft : StW := { tt := 85, a := 6, opn := .lit true, fs := [], cs := [isC false (xa (.var 73)) (.var 77), lastC true] }
noncomputable def w_m6tff : StW := { tt := 85, a := 6, opn := .lit true, fs := [], cs := [isC false (xa (.var 73)) (.var 77), lastC false] }
noncomputable def w_s3tf : StW := { tt := 105, a := 3, opn := .lit true, fs := [], cs := [isC false (xa (.var 73)) (.var 77)] }
noncomputable def w_m6ftt : StW := { tt := 85, a := 6, opn := .lit false, fs := [], cs := [isC true (xa (.var 73)) (.var 77), lastC true] }
noncomputable def w_m6ftf : StW := { tt := 85, a := 6, opn := .lit false, fs := [], cs := [isC true (xa (.var 73)) (.var 77), lastC false] }
noncomputable def w_s3ft : StW := { tt := 105, a := 3, opn := .lit false, fs := [], cs := [isC true (xa (.var 73)) (.var 77)] }
noncomputable def w_m6fft : StW := { tt := 85, a := 6, opn := .lit false, fs := [], cs := [isC false (xa (.var 73)) (.var 77), lastC true] }
noncomputable def w_m6fff : StW := { tt := 85, a := 6, opn := .lit false, fs := [], cs := [isC false (xa (.var 73)) (.var 77), lastC false] }
noncomputable def w_s3ff : StW := { tt := 105, a := 3, opn := .lit false, fs := [], cs := [isC false (xa (.var 73)) (.var 77)] }
noncomputable def w_m7t : StW := { tt := 85, a := 7, fs := [], cs := [isC true (xa (atB 0)) (stW 0)] }
noncomputable def w_m7f : StW := { tt := 85, a := 7, fs := [], cs := [isC false (xa (atB 0)) (stW 0)] }
noncomputable def w_m8t : StW := { tt := 85, a := 8, fs := [], cs := [isC true (xa (atB 0)) (stW 0)] }
noncomputable def w_m8f : StW := { tt := 85, a := 8, fs := [], cs := [isC false (xa (atB 0)) (stW 0)] }
noncomputable def w_m11t : StW := { tt := 85, a := 11, won := .lit true, fs := valF (xa (atE 2)) 0 1099511627775, cs := [] }
noncomputable def w_m12tt : StW := { tt := 85, a := 12, fs := [], cs := [isC true (xa (.var 73)) mineW, lastC true] }
noncomputable def w_m12ft : StW := { tt := 85, a := 12, fs := [], cs := [isC false (xa (.var 73)) mineW, lastC true] }
noncomputable def w_m11f : StW := { tt := 85, a := 11, won := .lit false, fs := valF (xa (atE 1)) 0 1099511627775, cs := [] }
noncomputable def w_m12tf : StW := { tt := 85, a := 12, fs := [], cs := [isC true (xa (.var 73)) mineW, lastC false] }
noncomputable def w_m12ff : StW := { tt := 85, a := 12, fs := [], cs := [isC false (xa (.var 73)) mineW, lastC false] }
noncomputable def f1_m0o : Sx.Form := stF 1 w_m0o false [(4, vi 70), (5, vi 71)] [(2, il 1)] (.nil) [il 0, il 0, .int .i64 (.add (.mul (.var 70) (.lit 50)) (.lit 34)), .int .i64 (.sel 41 (.add (.mul (.var 70) (.lit 50)) (.lit 34))), .int .i64 (.sel 41 (.add (.mul (.var 70) (.lit 50)) (.lit 34))), il 0, il 0, il 0, .bool (.lit true)] 21
noncomputable def f1_m5o : Sx.Form := stF 1 w_m5o false [(4, vi 70), (5, vi 71)] [(2, il 6), (6, .bool (.lit true))] (.nil) [il 0, il 0, .int .i64 (.add (.mul (.var 70) (.lit 50)) (.lit 34)), .int .i64 (.sel 41 (.add (.mul (.var 70) (.lit 50)) (.lit 34))), .int .i64 (.sel 41 (.add (.mul (.var 70) (.lit 50)) (.lit 34))), il 0, il 0, il 0, .bool (.lit true)] 21
noncomputable def f1_s2o : Sx.Form := stF 1 w_s2o false [(4, vi 70), (5, vi 71)] [(2, il 3), (6, .bool (.lit true))] (.nil) [il 0, il 0, .int .i64 (.add (.mul (.var 70) (.lit 50)) (.lit 34)), .int .i64 (.sel 41 (.add (.mul (.var 70) (.lit 50)) (.lit 34))), .int .i64 (.sel 41 (.add (.mul (.var 70) (.lit 50)) (.lit 34))), il 0, il 0, il 0, .bool (.lit true)] 21
noncomputable def f1_m0w : Sx.Form := stF 1 w_m0w false [(4, vi 70), (5, vi 71)] [(2, il 9), (10, .bool (.lit true))] (.nil) [il 0, il 0, .int .i64 (.add (.mul (.var 70) (.lit 50)) (.lit 34)), .int .i64 (.sel 41 (.add (.mul (.var 70) (.lit 50)) (.lit 34))), .int .i64 (.sel 41 (.add (.mul (.var 70) (.lit 50)) (.lit 34))), il 0, il 0, il 0, .bool (.lit true)] 29
noncomputable def f1_m5w : Sx.Form := stF 1 w_m5w false [(4, vi 70), (5, vi 71)] [(2, il 6), (6, .bool (.lit false))] (.nil) [il 0, il 0, .int .i64 (.add (.mul (.var 70) (.lit 50)) (.lit 34)), .int .i64 (.sel 41 (.add (.mul (.var 70) (.lit 50)) (.lit 34))), .int .i64 (.sel 41 (.add (.mul (.var 70) (.lit 50)) (.lit 34))), il 0, il 0, il 0, .bool (.lit true)] 29
noncomputable def f1_s2w : Sx.Form := stF 1 w_s2w false [(4, vi 70), (5, vi 71)] [(2, il 3), (6, .bool (.lit false))] (.nil) [il 0, il 0, .int .i64 (.add (.mul (.var 70) (.lit 50)) (.lit 34)), .int .i64 (.sel 41 (.add (.mul (.var 70) (.lit 50)) (.lit 34))), .int .i64 (.sel 41 (.add (.mul (.var 70) (.lit 50)) (.lit 34))), il 0, il 0, il 0, .bool (.lit true)] 29
noncomputable def f1_m13w : Sx.Form := stF 1 w_m13w false [(4, vi 70), (5, vi 71)] [(2, il 9), (10, .bool (.lit true))] (.nil) [il 0, il 0, .int .i64 (.add (.mul (.var 70) (.lit 50)) (.lit 34)), .int .i64 (.sel 41 (.add (.mul (.var 70) (.lit 50)) (.lit 34))), .int .i64 (.sel 41 (.add (.mul (.var 70) (.lit 50)) (.lit 34))), il 0, il 0, il 0, .bool (.lit true)] 29
noncomputable def f1_m0l : Sx.Form := stF 1 w_m0l false [(4, vi 70), (5, vi 71)] [(2, il 9), (10, .bool (.lit false))] (.nil) [il 0, il 0, .int .i64 (.add (.mul (.var 70) (.lit 50)) (.lit 34)), .int .i64 (.sel 41 (.add (.mul (.var 70) (.lit 50)) (.lit 34))), .int .i64 (.sel 41 (.add (.mul (.var 70) (.lit 50)) (.lit 34))), il 0, il 0, il 0, .bool (.lit true)] 29
noncomputable def f1_m5l : Sx.Form := stF 1 w_m5l false [(4, vi 70), (5, vi 71)] [(2, il 6), (6, .bool (.lit false))] (.nil) [il 0, il 0, .int .i64 (.add (.mul (.var 70) (.lit 50)) (.lit 34)), .int .i64 (.sel 41 (.add (.mul (.var 70) (.lit 50)) (.lit 34))), .int .i64 (.sel 41 (.add (.mul (.var 70) (.lit 50)) (.lit 34))), il 0, il 0, il 0, .bool (.lit true)] 29
noncomputable def f1_s2l : Sx.Form := stF 1 w_s2l false [(4, vi 70), (5, vi 71)] [(2, il 3), (6, .bool (.lit false))] (.nil) [il 0, il 0, .int .i64 (.add (.mul (.var 70) (.lit 50)) (.lit 34)), .int .i64 (.sel 41 (.add (.mul (.var 70) (.lit 50)) (.lit 34))), .int .i64 (.sel 41 (.add (.mul (.var 70) (.lit 50)) (.lit 34))), il 0, il 0, il 0, .bool (.lit true)] 29
noncomputable def f1_m13l : Sx.Form := stF 1 w_m13l false [(4, vi 70), (5, vi 71)] [(2, il 9), (10, .bool (.lit false))] (.nil) [il 0, il 0, .int .i64 (.add (.mul (.var 70) (.lit 50)) (.lit 34)), .int .i64 (.sel 41 (.add (.mul (.var 70) (.lit 50)) (.lit 34))), .int .i64 (.sel 41 (.add (.mul (.var 70) (.lit 50)) (.lit 34))), il 0, il 0, il 0, .bool (.lit true)] 29
noncomputable def f1_m1z : Sx.Form := stF 1 w_m1z false [(4, vi 70), (5, vi 71)] [(2, il 7), (3, il 0), (7, il 0)] (.nil) [il 0, il 0, .int .i64 (.add (.mul (.var 70) (.lit 50)) (.lit 35)), .int .i64 (.sel 41 (.add (.mul (.var 70) (.lit 50)) (.lit 35))), .int .i64 (.sel 41 (.add (.mul (.var 70) (.lit 50)) (.lit 35))), il 0, il 0, il 0, .bool (.lit true)] 5
noncomputable def f1_m1k : Sx.Form := stF 1 w_m1k false [(4, vi 70), (5, vi 71)] [(2, il 2), (3, il 0), (7, .int .i64 (.quo (.sel 41 (.add (.mul (.var 70) (.lit 50)) (.lit 35))) (.lit 4)))] (.nil) [il 0, il 0, .int .i64 (.add (.mul (.var 70) (.lit 50)) (.lit 35)), .int .i64 (.sel 41 (.add (.mul (.var 70) (.lit 50)) (.lit 35))), .int .i64 (.sel 41 (.add (.mul (.var 70) (.lit 50)) (.lit 35))), il 0, il 0, il 0, .bool (.lit true)] 5
noncomputable def f1_m9z : Sx.Form := stF 1 w_m9z true [(3, .sli 101 0 (.lit 0) (.lit 0) (.var 62)), (4, vi 70), (5, vi 71)] [(2, il 14), (3, il 0), (7, il 0)] (.nil) [il 0, il 0, .int .i64 (.add (.mul (.var 70) (.lit 50)) (.lit 35)), .int .i64 (.sel 41 (.add (.mul (.var 70) (.lit 50)) (.lit 35))), .int .i64 (.sel 41 (.add (.mul (.var 70) (.lit 50)) (.lit 35))), il 0, il 0, il 0, .bool (.lit true)] 5
noncomputable def f1_m9k : Sx.Form := stF 1 w_m9k false [(4, vi 70), (5, vi 71)] [(2, il 10), (3, il 0), (7, .int .i64 (.quo (.sel 41 (.add (.mul (.var 70) (.lit 50)) (.lit 35))) (.lit 4)))] (.nil) [il 0, il 0, .int .i64 (.add (.mul (.var 70) (.lit 50)) (.lit 35)), .int .i64 (.sel 41 (.add (.mul (.var 70) (.lit 50)) (.lit 35))), .int .i64 (.sel 41 (.add (.mul (.var 70) (.lit 50)) (.lit 35))), il 0, il 0, il 0, .bool (.lit true)] 5
noncomputable def f1_m2 : Sx.Form := stF 1 w_m2 false [(4, vi 70), (5, vi 71)] [(2, il 3), (4, .int .i64 (.quo (.sel 41 (.add (.add (.mul (.var 70) (.lit 50)) (.mul (.var 72) (.lit 3))) (.lit 36))) (.lit 4)))] (.nil) [il 0, il 0, .int .i64 (.add (.add (.mul (.var 70) (.lit 50)) (.mul (.var 72) (.lit 3))) (.lit 36)), .int .i64 (.sel 41 (.add (.add (.mul (.var 70) (.lit 50)) (.mul (.var 72) (.lit 3))) (.lit 36))), .int .i64 (.sel 41 (.add (.add (.mul (.var 70) (.lit 50)) (.mul (.var 72) (.lit 3))) (.lit 36))), il 0, il 0, il 0, .bool (.lit true)] 5
noncomputable def f1_m10 : Sx.Form := stF 1 w_m10 false [(4, vi 70), (5, vi 71)] [(2, il 11), (4, .int .i64 (.quo (.sel 41 (.add (.add (.mul (.var 70) (.lit 50)) (.mul (.var 72) (.lit 3))) (.lit 36))) (.lit 4)))] (.nil) [il 0, il 0, .int .i64 (.add (.add (.mul (.var 70) (.lit 50)) (.mul (.var 72) (.lit 3))) (.lit 36)), .int .i64 (.sel 41 (.add (.add (.mul (.var 70) (.lit 50)) (.mul (.var 72) (.lit 3))) (.lit 36))), .int .i64 (.sel 41 (.add (.add (.mul (.var 70) (.lit 50)) (.mul (.var 72) (.lit 3))) (.lit 36))), il 0, il 0, il 0, .bool (.lit true)] 5
noncomputable def f1_s0 : Sx.Form := stF 1 w_s0 false [(4, vi 70), (5, vi 71)] [(2, il 1), (4, .int .i64 (.quo (.sel 41 (.add (.add (.mul (.var 70) (.lit 50)) (.mul (.var 72) (.lit 3))) (.lit 36))) (.lit 4)))] (.nil) [il 0, il 0, .int .i64 (.add (.add (.mul (.var 70) (.lit 50)) (.mul (.var 72) (.lit 3))) (.lit 36)), .int .i64 (.sel 41 (.add (.add (.mul (.var 70) (.lit 50)) (.mul (.var 72) (.lit 3))) (.lit 36))), .int .i64 (.sel 41 (.add (.add (.mul (.var 70) (.lit 50)) (.mul (.var 72) (.lit 3))) (.lit 36))), il 0, il 0, il 0, .bool (.lit true)] 5
noncomputable def f1_m3 : Sx.Form := stF 1 w_m3 false [(4, vi 70), (5, vi 71)] [(2, il 4), (5, .int .i64 (.mul (.quo (.sel 41 (.add (.add (.mul (.var 70) (.lit 50)) (.mul (.var 72) (.lit 3))) (.lit 37))) (.lit 4)) (.lit 4)))] (.nil) [il 0, il 0, .int .i64 (.add (.add (.mul (.var 70) (.lit 50)) (.mul (.var 72) (.lit 3))) (.lit 37)), .int .i64 (.sel 41 (.add (.add (.mul (.var 70) (.lit 50)) (.mul (.var 72) (.lit 3))) (.lit 37))), .int .i64 (.sel 41 (.add (.add (.mul (.var 70) (.lit 50)) (.mul (.var 72) (.lit 3))) (.lit 37))), il 0, il 0, il 0, .bool (.lit true)] 13
noncomputable def f1_s1 : Sx.Form := stF 1 w_s1 false [(4, vi 70), (5, vi 71)] [(2, il 2), (5, .int .i64 (.mul (.quo (.sel 41 (.add (.add (.mul (.var 70) (.lit 50)) (.mul (.var 72) (.lit 3))) (.lit 37))) (.lit 4)) (.lit 4)))] (.nil) [il 0, il 0, .int .i64 (.add (.add (.mul (.var 70) (.lit 50)) (.mul (.var 72) (.lit 3))) (.lit 37)), .int .i64 (.sel 41 (.add (.add (.mul (.var 70) (.lit 50)) (.mul (.var 72) (.lit 3))) (.lit 37))), .int .i64 (.sel 41 (.add (.add (.mul (.var 70) (.lit 50)) (.mul (.var 72) (.lit 3))) (.lit 37))), il 0, il 0, il 0, .bool (.lit true)] 13
noncomputable def f1_m4e : Sx.Form := stF 1 w_m4e false [(1, .int .i64 (.rem (.add (.var 61) (.lit 1)) (.lit 1048576))), (4, vi 70), (5, vi 71)] [(2, il 5), (8, .int .i64 (.add (.mul (.add (.mul (.add (.var 60) (.mul (.add (.mul (.add (.var 70) (.mul (.var 71) (.lit 16))) (.lit 16)) (.var 72)) (.lit 4))) (.lit 1048576)) (.var 61)) (.lit 4)) (.lit 1)))] (.wr (.var 73) (.add (.mul (.add (.mul (.add (.var 60) (.mul (.add (.mul (.add (.var 70) (.mul (.var 71) (.lit 16))) (.lit 16)) (.var 72)) (.lit 4))) (.lit 1048576)) (.var 61)) (.lit 4)) (.lit 1)) .nil) [il 0, il 2, vi 73, .int .i64 (.sel 41 (.var 73)), .int .i64 (.add (.mul (.add (.mul (.add (.var 60) (.mul (.add (.mul (.add (.var 70) (.mul (.var 71) (.lit 16))) (.lit 16)) (.var 72)) (.lit 4))) (.lit 1048576)) (.var 61)) (.lit 4)) (.lit 1)), il 0, il 0, il 0, .bool (.lit true)] 14
noncomputable def f1_m4ml : Sx.Form := stF 1 w_m4ml false [(1, .int .i64 (.rem (.add (.var 61) (.lit 1)) (.lit 1048576))), (4, vi 70), (5, vi 71)] [(2, il 7), (3, .int .i64 (.add (.var 72) (.lit 1))), (8, .int .i64 (.add (.mul (.add (.mul (.add (.var 60) (.mul (.add (.mul (.add (.var 70) (.mul (.var 71) (.lit 16))) (.lit 16)) (.var 72)) (.lit 4))) (.lit 1048576)) (.var 61)) (.lit 4)) (.lit 1)))] (.nil) [il 0, il 2, vi 73, .int .i64 (.sel 41 (.var 73)), .int .i64 (.sel 41 (.var 73)), il 0, il 0, il 0, .bool (.lit true)] 23
noncomputable def f1_m4mn : Sx.Form := stF 1 w_m4mn false [(1, .int .i64 (.rem (.add (.var 61) (.lit 1)) (.lit 1048576))), (4, vi 70), (5, vi 71)] [(2, il 2), (3, .int .i64 (.add (.var 72) (.lit 1))), (8, .int .i64 (.add (.mul (.add (.mul (.add (.var 60) (.mul (.add (.mul (.add (.var 70) (.mul (.var 71) (.lit 16))) (.lit 16)) (.var 72)) (.lit 4))) (.lit 1048576)) (.var 61)) (.lit 4)) (.lit 1)))] (.nil) [il 0, il 2, vi 73, .int .i64 (.sel 41 (.var 73)), .int .i64 (.sel 41 (.var 73)), il 0, il 0, il 0, .bool (.lit true)] 23
noncomputable def f1_m4v : Sx.Form := stF 1 w_m4v false [(1, .int .i64 (.rem (.add (.var 61) (.lit 1)) (.lit 1048576))), (4, vi 70), (5, vi 71)] [(2, il 8), (8, .int .i64 (.add (.mul (.add (.mul (.add (.var 60) (.mul (.add (.mul (.add (.var 70) (.mul (.var 71) (.lit 16))) (.lit 16)) (.var 72)) (.lit 4))) (.lit 1048576)) (.var 61)) (.lit 4)) (.lit 1)))] (.nil) [il 0, il 2, vi 73, .int .i64 (.sel 41 (.var 73)), .int .i64 (.sel 41 (.var 73)), il 0, il 0, il 0, .bool (.lit true)] 28
noncomputable def f1_m6ttt : Sx.Form := stF 1 w_m6ttt false [(4, vi 70), (5, vi 71)] [(2, il 7), (3, .int .i64 (.add (.var 72) (.lit 1)))] (.wr (.var 73) (.add (.mul (.add (.var 70) (.mul (.var 71) (.lit 16))) (.lit 4)) (.lit 2)) .nil) [il 0, il 2, vi 73, .int .i64 (.sel 41 (.var 73)), .int .i64 (.add (.mul (.add (.var 70) (.mul (.var 71) (.lit 16))) (.lit 4)) (.lit 2)), il 0, il 0, il 0, .bool (.lit true)] 11
noncomputable def f1_m6ttf : Sx.Form := stF 1 w_m6ttf false [(4, vi 70), (5, vi 71)] [(2, il 2), (3, .int .i64 (.add (.var 72) (.lit 1)))] (.wr (.var 73) (.add (.mul (.add (.var 70) (.mul (.var 71) (.lit 16))) (.lit 4)) (.lit 2)) .nil) [il 0, il 2, vi 73, .int .i64 (.sel 41 (.var 73)), .int .i64 (.add (.mul (.add (.var 70) (.mul (.var 71) (.lit 16))) (.lit 4)) (.lit 2)), il 0, il 0, il 0, .bool (.lit true)] 11
noncomputable def f1_s3tt : Sx.Form := stF 1 w_s3tt true [(3, .sli 101 0 (.lit 0) (.lit 0) (.var 62)), (4, vi 70), (5, vi 71)] [(2, il 4)] (.wr (.var 73) (.add (.mul (.add (.var 70) (.mul (.var 71) (.lit 16))) (.lit 4)) (.lit 2)) .nil) [il 0, il 2, vi 73, .int .i64 (.sel 41 (.var 73)), .int .i64 (.add (.mul (.add (.var 70) (.mul (.var 71) (.lit 16))) (.lit 4)) (.lit 2)), il 0, il 0, il 0, .bool (.lit true)] 11
noncomputable def f1_m6tft : Sx.Form := stF 1 w_m6tft false [(4, vi 70), (5, vi 71)] [(2, il 7), (3, .int .i64 (.add (.var 72) (.lit 1)))] (.nil) [il 0, il 2, vi 73, .int .i64 (.sel 41 (.var 73)), .int .i64 (.sel 41 (.var 73)), il 0, il 0, il 0, .bool (.lit true)] 11
noncomputable def f1_m6tff : Sx.Form := stF 1 w_m6tff false [(4, vi 70), (5, vi 71)] [(2, il 2), (3, .int .i64 (.add (.var 72) (.lit 1)))] (.nil) [il 0, il 2, vi 73, .int .i64 (.sel 41 (.var 73)), .int .i64 (.sel 41 (.var 73)), il 0, il 0, il 0, .bool (.lit true)] 11
noncomputable def f1_s3tf : Sx.Form := stF 1 w_s3tf true [(3, .sli 101 0 (.lit 0) (.lit 0) (.var 62)), (4, vi 70), (5, vi 71)] [(2, il 4)] (.nil) [il 0, il 2, vi 73, .int .i64 (.sel 41 (.var 73)), .int .i64 (.sel 41 (.var 73)), il 0, il 0, il 0, .bool (.lit true)] 11
noncomputable def f1_m6ftt : Sx.Form := stF 1 w_m6ftt false [(4, vi 70), (5, vi 71)] [(2, il 7), (3, .int .i64 (.add (.var 72) (.lit 1)))] (.wr (.var 73) (.var 74) .nil) [il 0, il 2, vi 73, .int .i64 (.sel 41 (.var 73)), vi 74, il 0, il 0, il 0, .bool (.lit true)] 2
noncomputable def f1_m6ftf : Sx.Form := stF 1 w_m6ftf false [(4, vi 70), (5, vi 71)] [(2, il 2), (3, .int .i64 (.add (.var 72) (.lit 1)))] (.wr (.var 73) (.var 74) .nil) [il 0, il 2, vi 73, .int .i64 (.sel 41 (.var 73)), vi 74, il 0, il 0, il 0, .bool (.lit true)] 2
noncomputable def f1_s3ft : Sx.Form := stF 1 w_s3ft true [(3, .sli 101 0 (.lit 0) (.lit 0) (.var 62)), (4, vi 70), (5, vi 71)] [(2, il 4)] (.wr (.var 73) (.var 74) .nil) [il 0, il 2, vi 73, .int .i64 (.sel 41 (.var 73)), vi 74, il 0, il 0, il 0, .bool (.lit true)] 2
noncomputable def f1_m6fft : Sx.Form := stF 1 w_m6fft false [(4, vi 70), (5, vi 71)] [(2, il 7), (3, .int .i64 (.add (.var 72) (.lit 1)))] (.nil) [il 0, il 2, vi 73, .int .i64 (.sel 41 (.var 73)), .int .i64 (.sel 41 (.var 73)), il 0, il 0, il 0, .bool (.lit true)] 2
noncomputable def f1_m6fff : Sx.Form := stF 1 w_m6fff false [(4, vi 70), (5, vi 71)] [(2, il 2), (3, .int .i64 (.add (.var 72) (.lit 1)))] (.nil) [il 0, il 2, vi 73, .int .i64 (.sel 41 (.var 73)), .int .i64 (.sel 41 (.var 73)), il 0, il 0, il 0, .bool (.lit true)] 2
noncomputable def f1_s3ff : Sx.Form := stF 1 w_s3ff true [(3, .sli 101 0 (.lit 0) (.lit 0) (.var 62)), (4, vi 70), (5, vi 71)] [(2, il 4)] (.nil) [il 0, il 2, vi 73, .int .i64 (.sel 41 (.var 73)), .int .i64 (.sel 41 (.var 73)), il 0, il 0, il 0, .bool (.lit true)] 2
noncomputable def f1_m7t : Sx.Form := stF 1 w_m7t false [(4, vi 70), (5, vi 71)] [(2, il 0)] (.wr (.add (.mul (.var 70) (.lit 50)) (.lit 34)) (.add (.mul (.mul (.var 71) (.lit 4)) (.lit 4)) (.lit 4)) .nil) [il 0, il 2, .int .i64 (.add (.mul (.var 70) (.lit 50)) (.lit 34)), .int .i64 (.sel 41 (.add (.mul (.var 70) (.lit 50)) (.lit 34))), .int .i64 (.add (.mul (.mul (.var 71) (.lit 4)) (.lit 4)) (.lit 4)), il 0, il 0, il 0, .bool (.lit true)] 18
noncomputable def f1_m7f : Sx.Form := stF 1 w_m7f false [(4, vi 70), (5, vi 71)] [(2, il 0)] (.nil) [il 0, il 2, .int .i64 (.add (.mul (.var 70) (.lit 50)) (.lit 34)), .int .i64 (.sel 41 (.add (.mul (.var 70) (.lit 50)) (.lit 34))), .int .i64 (.sel 41 (.add (.mul (.var 70) (.lit 50)) (.lit 34))), il 0, il 0, il 0, .bool (.lit true)] 18
noncomputable def f1_m8t : Sx.Form := stF 1 w_m8t false [(4, vi 70), (5, vi 71)] [(2, il 0)] (.wr (.add (.mul (.var 70) (.lit 50)) (.lit 34)) (.add (.mul (.mul (.var 71) (.lit 4)) (.lit 4)) (.lit 8)) .nil) [il 0, il 2, .int .i64 (.add (.mul (.var 70) (.lit 50)) (.lit 34)), .int .i64 (.sel 41 (.add (.mul (.var 70) (.lit 50)) (.lit 34))), .int .i64 (.add (.mul (.mul (.var 71) (.lit 4)) (.lit 4)) (.lit 8)), il 0, il 0, il 0, .bool (.lit true)] 18
noncomputable def f1_m8f : Sx.Form := stF 1 w_m8f false [(4, vi 70), (5, vi 71)] [(2, il 0)] (.nil) [il 0, il 2, .int .i64 (.add (.mul (.var 70) (.lit 50)) (.lit 34)), .int .i64 (.sel 41 (.add (.mul (.var 70) (.lit 50)) (.lit 34))), .int .i64 (.sel 41 (.add (.mul (.var 70) (.lit 50)) (.lit 34))), il 0, il 0, il 0, .bool (.lit true)] 18
noncomputable def f1_m11t : Sx.Form := stF 1 w_m11t false [(4, vi 70), (5, vi 71)] [(2, il 12), (11, .int .i64 (.mul (.quo (.sel 41 (.add (.add (.mul (.var 70) (.lit 50)) (.mul (.var 72) (.lit 3))) (.lit 38))) (.lit 4)) (.lit 4)))] (.nil) [il 0, il 0, .int .i64 (.add (.add (.mul (.var 70) (.lit 50)) (.mul (.var 72) (.lit 3))) (.lit 38)), .int .i64 (.sel 41 (.add (.add (.mul (.var 70) (.lit 50)) (.mul (.var 72) (.lit 3))) (.lit 38))), .int .i64 (.sel 41 (.add (.add (.mul (.var 70) (.lit 50)) (.mul (.var 72) (.lit 3))) (.lit 38))), il 0, il 0, il 0, .bool (.lit true)] 13
noncomputable def f1_m12tt : Sx.Form := stF 1 w_m12tt true [(3, .sli 101 0 (.lit 0) (.lit 0) (.var 62)), (4, vi 70), (5, vi 71)] [(2, il 14), (3, .int .i64 (.add (.var 72) (.lit 1)))] (.wr (.var 73) (.var 80) .nil) [il 0, il 2, vi 73, .int .i64 (.sel 41 (.var 73)), vi 80, il 0, il 0, il 0, .bool (.lit true)] 11
noncomputable def f1_m12ft : Sx.Form := stF 1 w_m12ft true [(3, .sli 101 0 (.lit 0) (.lit 0) (.var 62)), (4, vi 70), (5, vi 71)] [(2, il 14), (3, .int .i64 (.add (.var 72) (.lit 1)))] (.nil) [il 0, il 2, vi 73, .int .i64 (.sel 41 (.var 73)), .int .i64 (.sel 41 (.var 73)), il 0, il 0, il 0, .bool (.lit true)] 11
noncomputable def f1_m11f : Sx.Form := stF 1 w_m11f false [(4, vi 70), (5, vi 71)] [(2, il 12), (11, .int .i64 (.mul (.quo (.sel 41 (.add (.add (.mul (.var 70) (.lit 50)) (.mul (.var 72) (.lit 3))) (.lit 37))) (.lit 4)) (.lit 4)))] (.nil) [il 0, il 0, .int .i64 (.add (.add (.mul (.var 70) (.lit 50)) (.mul (.var 72) (.lit 3))) (.lit 37)), .int .i64 (.sel 41 (.add (.add (.mul (.var 70) (.lit 50)) (.mul (.var 72) (.lit 3))) (.lit 37))), .int .i64 (.sel 41 (.add (.add (.mul (.var 70) (.lit 50)) (.mul (.var 72) (.lit 3))) (.lit 37))), il 0, il 0, il 0, .bool (.lit true)] 13
noncomputable def f1_m12tf : Sx.Form := stF 1 w_m12tf false [(4, vi 70), (5, vi 71)] [(2, il 10), (3, .int .i64 (.add (.var 72) (.lit 1)))] (.wr (.var 73) (.var 80) .nil) [il 0, il 2, vi 73, .int .i64 (.sel 41 (.var 73)), vi 80, il 0, il 0, il 0, .bool (.lit true)] 11
noncomputable def f1_m12ff : Sx.Form := stF 1 w_m12ff false [(4, vi 70), (5, vi 71)] [(2, il 10), (3, .int .i64 (.add (.var 72) (.lit 1)))] (.nil) [il 0, il 2, vi 73, .int .i64 (.sel 41 (.var 73)), .int .i64 (.sel 41 (.var 73)), il 0, il 0, il 0, .bool (.lit true)] 11
noncomputable def f2_m0o : Sx.Form := stF 2 w_m0o false [(4, vi 70), (5, vi 71)] [(2, il 1)] (.nil) [il 0, il 0, .int .i64 (.add (.mul (.var 70) (.lit 50)) (.lit 34)), .int .i64 (.sel 41 (.add (.mul (.var 70) (.lit 50)) (.lit 34))), .int .i64 (.sel 41 (.add (.mul (.var 70) (.lit 50)) (.lit 34))), il 0, il 0, il 0, .bool (.lit true)] 21
noncomputable def f2_m5o : Sx.Form := stF 2 w_m5o false [(4, vi 70), (5, vi 71)] [(2, il 6), (6, .bool (.lit true))] (.nil) [il 0, il 0, .int .i64 (.add (.mul (.var 70) (.lit 50)) (.lit 34)), .int .i64 (.sel 41 (.add (.mul (.var 70) (.lit 50)) (.lit 34))), .int .i64 (.sel 41 (.add (.mul (.var 70) (.lit 50)) (.lit 34))), il 0, il 0, il 0, .bool (.lit true)] 21
noncomputable def f2_s2o : Sx.Form := stF 2 w_s2o false [(4, vi 70), (5, vi 71)] [(2, il 3), (6, .bool (.lit true))] (.nil) [il 0, il 0, .int .i64 (.add (.mul (.var 70) (.lit 50)) (.lit 34)), .int .i64 (.sel 41 (.add (.mul (.var 70) (.lit 50)) (.lit 34))), .int .i64 (.sel 41 (.add (.mul (.var 70) (.lit 50)) (.lit 34))), il 0, il 0, il 0, .bool (.lit true)] 21
noncomputable def f2_m0w : Sx.Form := stF 2 w_m0w false [(4, vi 70), (5, vi 71)] [(2, il 9), (10, .bool (.lit true))] (.nil) [il 0, il 0, .int .i64 (.add (.mul (.var 70) (.lit 50)) (.lit 34)), .int .i64 (.sel 41 (.add (.mul (.var 70) (.lit 50)) (.lit 34))), .int .i64 (.sel 41 (.add (.mul (.var 70) (.lit 50)) (.lit 34))), il 0, il 0, il 0, .bool (.lit true)] 29
noncomputable def f2_m5w : Sx.Form := stF 2 w_m5w false [(4, vi 70), (5, vi 71)] [(2, il 6), (6, .bool (.lit false))] (.nil) [il 0, il 0, .int .i64 (.add (.mul (.var 70) (.lit 50)) (.lit 34)), .int .i64 (.sel 41 (.add (.mul (.var 70) (.lit 50)) (.lit 34))), .int .i64 (.sel 41 (.add (.mul (.var 70) (.lit 50)) (.lit 34))), il 0, il 0, il 0, .bool (.lit true)] 29
noncomputable def f2_s2w : Sx.Form := stF 2 w_s2w false [(4, vi 70), (5, vi 71)] [(2, il 3), (6, .bool (.lit false))] (.nil) [il 0, il 0, .int .i64 (.add (.mul (.var 70) (.lit 50)) (.lit 34)), .int .i64 (.sel 41 (.add (.mul (.var 70) (.lit 50)) (.lit 34))), .int .i64 (.sel 41 (.add (.mul (.var 70) (.lit 50)) (.lit 34))), il 0, il 0, il 0, .bool (.lit true)] 29
noncomputable def f2_m13w : Sx.Form := stF 2 w_m13w false [(4, vi 70), (5, vi 71)] [(2, il 9), (10, .bool (.lit true))] (.nil) [il 0, il 0, .int .i64 (.add (.mul (.var 70) (.lit 50)) (.lit 34)), .int .i64 (.sel 41 (.add (.mul (.var 70) (.lit 50)) (.lit 34))), .int .i64 (.sel 41 (.add (.mul (.var 70) (.lit 50)) (.lit 34))), il 0, il 0, il 0, .bool (.lit true)] 29
noncomputable def f2_m0l : Sx.Form := stF 2 w_m0l false [(4, vi 70), (5, vi 71)] [(2, il 9), (10, .bool (.lit false))] (.nil) [il 0, il 0, .int .i64 (.add (.mul (.var 70) (.lit 50)) (.lit 34)), .int .i64 (.sel 41 (.add (.mul (.var 70) (.lit 50)) (.lit 34))), .int .i64 (.sel 41 (.add (.mul (.var 70) (.lit 50)) (.lit 34))), il 0, il 0, il 0, .bool (.lit true)] 29
noncomputable def f2_m5l : Sx.Form := stF 2 w_m5l false [(4, vi 70), (5, vi 71)] [(2, il 6), (6, .bool (.lit false))] (.nil) [il 0, il 0, .int .i64 (.add (.mul (.var 70) (.lit 50)) (.lit 34)), .int .i64 (.sel 41 (.add (.mul (.var 70) (.lit 50)) (.lit 34))), .int .i64 (.sel 41 (.add (.mul (.var 70) (.lit 50)) (.lit 34))), il 0, il 0, il 0, .bool (.lit true)] 29
noncomputable def f2_s2l : Sx.Form := stF 2 w_s2l false [(4, vi 70), (5, vi 71)] [(2, il 3), (6, .bool (.lit false))] (.nil) [il 0, il 0, .int .i64 (.add (.mul (.var 70) (.lit 50)) (.lit 34)), .int .i64 (.sel 41 (.add (.mul (.var 70) (.lit 50)) (.lit 34))), .int .i64 (.sel 41 (.add (.mul (.var 70) (.lit 50)) (.lit 34))), il 0, il 0, il 0, .bool (.lit true)] 29
noncomputable def f2_m13l : Sx.Form := stF 2 w_m13l false [(4, vi 70), (5, vi 71)] [(2, il 9), (10, .bool (.lit false))] (.nil) [il 0, il 0, .int .i64 (.add (.mul (.var 70) (.lit 50)) (.lit 34)), .int .i64 (.sel 41 (.add (.mul (.var 70) (.lit 50)) (.lit 34))), .int .i64 (.sel 41 (.add (.mul (.var 70) (.lit 50)) (.lit 34))), il 0, il 0, il 0, .bool (.lit true)] 29
noncomputable def f2_m1z : Sx.Form := stF 2 w_m1z false [(4, vi 70), (5, vi 71)] [(2, il 7), (3, il 0), (7, il 0)] (.nil) [il 0, il 0, .int .i64 (.add (.mul (.var 70) (.lit 50)) (.lit 35)), .int .i64 (.sel 41 (.add (.mul (.var 70) (.lit 50)) (.lit 35))), .int .i64 (.sel 41 (.add (.mul (.var 70) (.lit 50)) (.lit 35))), il 0, il 0, il 0, .bool (.lit true)] 5
noncomputable def f2_m1k : Sx.Form := stF 2 w_m1k false [(4, vi 70), (5, vi 71)] [(2, il 2), (3, il 0), (7, .int .i64 (.quo (.sel 41 (.add (.mul (.var 70) (.lit 50)) (.lit 35))) (.lit 4)))] (.nil) [il 0, il 0, .int .i64 (.add (.mul (.var 70) (.lit 50)) (.lit 35)), .int .i64 (.sel 41 (.add (.mul (.var 70) (.lit 50)) (.lit 35))), .int .i64 (.sel 41 (.add (.mul (.var 70) (.lit 50)) (.lit 35))), il 0, il 0, il 0, .bool (.lit true)] 5
noncomputable def f2_m9z : Sx.Form := stF 2 w_m9z false [(3, .sli 101 0 (.lit 0) (.lit 1) (.var 62)), (4, vi 70), (5, vi 71)] [(2, il 14), (3, il 0), (7, il 0)] (.nil) [il 0, il 0, .int .i64 (.add (.mul (.var 70) (.lit 50)) (.lit 35)), .int .i64 (.sel 41 (.add (.mul (.var 70) (.lit 50)) (.lit 35))), .int .i64 (.sel 41 (.add (.mul (.var 70) (.lit 50)) (.lit 35))), il 0, il 0, il 0, .bool (.lit true)] 5
noncomputable def f2_m9k : Sx.Form := stF 2 w_m9k false [(4, vi 70), (5, vi 71)] [(2, il 10), (3, il 0), (7, .int .i64 (.quo (.sel 41 (.add (.mul (.var 70) (.lit 50)) (.lit 35))) (.lit 4)))] (.nil) [il 0, il 0, .int .i64 (.add (.mul (.var 70) (.lit 50)) (.lit 35)), .int .i64 (.sel 41 (.add (.mul (.var 70) (.lit 50)) (.lit 35))), .int .i64 (.sel 41 (.add (.mul (.var 70) (.lit 50)) (.lit 35))), il 0, il 0, il 0, .bool (.lit true)] 5
noncomputable def f2_m2 : Sx.Form := stF 2 w_m2 false [(4, vi 70), (5, vi 71)] [(2, il 3), (4, .int .i64 (.quo (.sel 41 (.add (.add (.mul (.var 70) (.lit 50)) (.mul (.var 72) (.lit 3))) (.lit 36))) (.lit 4)))] (.nil) [il 0, il 0, .int .i64 (.add (.add (.mul (.var 70) (.lit 50)) (.mul (.var 72) (.lit 3))) (.lit 36)), .int .i64 (.sel 41 (.add (.add (.mul (.var 70) (.lit 50)) (.mul (.var 72) (.lit 3))) (.lit 36))), .int .i64 (.sel 41 (.add (.add (.mul (.var 70) (.lit 50)) (.mul (.var 72) (.lit 3))) (.lit 36))), il 0, il 0, il 0, .bool (.lit true)] 5
noncomputable def f2_m10 : Sx.Form := stF 2 w_m10 false [(4, vi 70), (5, vi 71)] [(2, il 11), (4, .int .i64 (.quo (.sel 41 (.add (.add (.mul (.var 70) (.lit 50)) (.mul (.var 72) (.lit 3))) (.lit 36))) (.lit 4)))] (.nil) [il 0, il 0, .int .i64 (.add (.add (.mul (.var 70) (.lit 50)) (.mul (.var 72) (.lit 3))) (.lit 36)), .int .i64 (.sel 41 (.add (.add (.mul (.var 70) (.lit 50)) (.mul (.var 72) (.lit 3))) (.lit 36))), .int .i64 (.sel 41 (.add (.add (.mul (.var 70) (.lit 50)) (.mul (.var 72) (.lit 3))) (.lit 36))), il 0, il 0, il 0, .bool (.lit true)] 5
noncomputable def f2_s0 : Sx.Form := stF 2 w_s0 false [(4, vi 70), (5, vi 71)] [(2, il 1), (4, .int .i64 (.quo (.sel 41 (.add (.add (.mul (.var 70) (.lit 50)) (.mul (.var 72) (.lit 3))) (.lit 36))) (.lit 4)))] (.nil) [il 0, il 0, .int .i64 (.add (.add (.mul (.var 70) (.lit 50)) (.mul (.var 72) (.lit 3))) (.lit 36)), .int .i64 (.sel 41 (.add (.add (.mul (.var 70) (.lit 50)) (.mul (.var 72) (.lit 3))) (.lit 36))), .int .i64 (.sel 41 (.add (.add (.mul (.var 70) (.lit 50)) (.mul (.var 72) (.lit 3))) (.lit 36))), il 0, il 0, il 0, .bool (.lit true)] 5
noncomputable def f2_m3 : Sx.Form := stF 2 w_m3 false [(4, vi 70), (5, vi 71)] [(2, il 4), (5, .int .i64 (.mul (.quo (.sel 41 (.add (.add (.mul (.var 70) (.lit 50)) (.mul (.var 72) (.lit 3))) (.lit 37))) (.lit 4)) (.lit 4)))] (.nil) [il 0, il 0, .int .i64 (.add (.add (.mul (.var 70) (.lit 50)) (.mul (.var 72) (.lit 3))) (.lit 37)), .int .i64 (.sel 41 (.add (.add (.mul (.var 70) (.lit 50)) (.mul (.var 72) (.lit 3))) (.lit 37))), .int .i64 (.sel 41 (.add (.add (.mul (.var 70) (.lit 50)) (.mul (.var 72) (.lit 3))) (.lit 37))), il 0, il 0, il 0, .bool (.lit true)] 13
noncomputable def f2_s1 : Sx.Form := stF 2 w_s1 false [(4, vi 70), (5, vi 71)] [(2, il 2), (5, .int .i64 (.mul (.quo (.sel 41 (.add (.add (.mul (.var 70) (.lit 50)) (.mul (.var 72) (.lit 3))) (.lit 37))) (.lit 4)) (.lit 4)))] (.nil) [il 0, il 0, .int .i64 (.add (.add (.mul (.var 70) (.lit 50)) (.mul (.var 72) (.lit 3))) (.lit 37)), .int .i64 (.sel 41 (.add (.add (.mul (.var 70) (.lit 50)) (.mul (.var 72) (.lit 3))) (.lit 37))), .int .i64 (.sel 41 (.add (.add (.mul (.var 70) (.lit 50)) (.mul (.var 72) (.lit 3))) (.lit 37))), il 0, il 0, il 0, .bool (.lit true)] 13
noncomputable def f2_m4e : Sx.Form := stF 2 w_m4e false [(1, .int .i64 (.rem (.add (.var 61) (.lit 1)) (.lit 1048576))), (4, vi 70), (5, vi 71)] [(2, il 5), (8, .int .i64 (.add (.mul (.add (.mul (.add (.var 60) (.mul (.add (.mul (.add (.var 70) (.mul (.var 71) (.lit 16))) (.lit 16)) (.var 72)) (.lit 4))) (.lit 1048576)) (.var 61)) (.lit 4)) (.lit 1)))] (.wr (.var 73) (.add (.mul (.add (.mul (.add (.var 60) (.mul (.add (.mul (.add (.var 70) (.mul (.var 71) (.lit 16))) (.lit 16)) (.var 72)) (.lit 4))) (.lit 1048576)) (.var 61)) (.lit 4)) (.lit 1)) .nil) [il 0, il 2, vi 73, .int .i64 (.sel 41 (.var 73)), .int .i64 (.add (.mul (.add (.mul (.add (.var 60) (.mul (.add (.mul (.add (.var 70) (.mul (.var 71) (.lit 16))) (.lit 16)) (.var 72)) (.lit 4))) (.lit 1048576)) (.var 61)) (.lit 4)) (.lit 1)), il 0, il 0, il 0, .bool (.lit true)] 14
noncomputable def f2_m4ml : Sx.Form := stF 2 w_m4ml false [(1, .int .i64 (.rem (.add (.var 61) (.lit 1)) (.lit 1048576))), (4, vi 70), (5, vi 71)] [(2, il 7), (3, .int .i64 (.add (.var 72) (.lit 1))), (8, .int .i64 (.add (.mul (.add (.mul (.add (.var 60) (.mul (.add (.mul (.add (.var 70) (.mul (.var 71) (.lit 16))) (.lit 16)) (.var 72)) (.lit 4))) (.lit 1048576)) (.var 61)) (.lit 4)) (.lit 1)))] (.nil) [il 0, il 2, vi 73, .int .i64 (.sel 41 (.var 73)), .int .i64 (.sel 41 (.var 73)), il 0, il 0, il 0, .bool (.lit true)] 23
noncomputable def f2_m4mn : Sx.Form := stF 2 w_m4mn false [(1, .int .i64 (.rem (.add (.var 61) (.lit 1)) (.lit 1048576))), (4, vi 70), (5, vi 71)] [(2, il 2), (3, .int .i64 (.add (.var 72) (.lit 1))), (8, .int .i64 (.add (.mul (.add (.mul (.add (.var 60) (.mul (.add (.mul (.add (.var 70) (.mul (.var 71) (.lit 16))) (.lit 16)) (.var 72)) (.lit 4))) (.lit 1048576)) (.var 61)) (.lit 4)) (.lit 1)))] (.nil) [il 0, il 2, vi 73, .int .i64 (.sel 41 (.var 73)), .int .i64 (.sel 41 (.var 73)), il 0, il 0, il 0, .bool (.lit true)] 23
noncomputable def f2_m4v : Sx.Form := stF 2 w_m4v false [(1, .int .i64 (.rem (.add (.var 61) (.lit 1)) (.lit 1048576))), (4, vi 70), (5, vi 71)] [(2, il 8), (8, .int .i64 (.add (.mul (.add (.mul (.add (.var 60) (.mul (.add (.mul (.add (.var 70) (.mul (.var 71) (.lit 16))) (.lit 16)) (.var 72)) (.lit 4))) (.lit 1048576)) (.var 61)) (.lit 4)) (.lit 1)))] (.nil) [il 0, il 2, vi 73, .int .i64 (.sel 41 (.var 73)), .int .i64 (.sel 41 (.var 73)), il 0, il 0, il 0, .bool (.lit true)] 28
noncomputable def f2_m6ttt : Sx.Form := stF 2 w_m6ttt false [(4, vi 70), (5, vi 71)] [(2, il 7), (3, .int .i64 (.add (.var 72) (.lit 1)))] (.wr (.var 73) (.add (.mul (.add (.var 70) (.mul (.var 71) (.lit 16))) (.lit 4)) (.lit 2)) .nil) [il 0, il 2, vi 73, .int .i64 (.sel 41 (.var 73)), .int .i64 (.add (.mul (.add (.var 70) (.mul (.var 71) (.lit 16))) (.lit 4)) (.lit 2)), il 0, il 0, il 0, .bool (.lit true)] 11
noncomputable def f2_m6ttf : Sx.Form := stF 2 w_m6ttf false [(4, vi 70), (5, vi 71)] [(2, il 2), (3, .int .i64 (.add (.var 72) (.lit 1)))] (.wr (.var 73) (.add (.mul (.add (.var 70) (.mul (.var 71) (.lit 16))) (.lit 4)) (.lit 2)) .nil) [il 0, il 2, vi 73, .int .i64 (.sel 41 (.var 73)), .int .i64 (.add (.mul (.add (.var 70) (.mul (.var 71) (.lit 16))) (.lit 4)) (.lit 2)), il 0, il 0, il 0, .bool (.lit true)] 11
noncomputable def f2_s3tt : Sx.Form := stF 2 w_s3tt false [(3, .sli 101 0 (.lit 0) (.lit 1) (.var 62)), (4, vi 70), (5, vi 71)] [(2, il 4)] (.wr (.var 73) (.add (.mul (.add (.var 70) (.mul (.var 71) (.lit 16))) (.lit 4)) (.lit 2)) .nil) [il 0, il 2, vi 73, .int .i64 (.sel 41 (.var 73)), .int .i64 (.add (.mul (.add (.var 70) (.mul (.var 71) (.lit 16))) (.lit 4)) (.lit 2)), il 0, il 0, il 0, .bool (.lit true)] 11
noncomputable def f2_m6tft : Sx.Form := stF 2 w_m6tft false [(4, vi 70), (5, vi 71)] [(2, il 7), (3, .int .i64 (.add (.var 72) (.lit 1)))] (.nil) [il 0, il 2, vi 73, .int .i64 (.sel 41 (.var 73)), .int .i64 (.sel 41 (.var 73)), il 0, il 0, il 0, .bool (.lit true)] 11
noncomputable def f2_m6tff : Sx.Form := stF 2 w_m6tff false [(4, vi 70), (5, vi 71)] [(2, il 2), (3, .int .i64 (.add (.var 72) (.lit 1)))] (.nil) [il 0, il 2, vi 73, .int .i64 (.sel 41 (.var 73)), .int .i64 (.sel 41 (.var 73)), il 0, il 0, il 0, .bool (.lit true)] 11
noncomputable def f2_s3tf : Sx.Form := stF 2 w_s3tf false [(3, .sli 101 0 (.lit 0) (.lit 1) (.var 62)), (4, vi 70), (5, vi 71)] [(2, il 4)] (.nil) [il 0, il 2, vi 73, .int .i64 (.sel 41 (.var 73)), .int .i64 (.sel 41 (.var 73)), il 0, il 0, il 0, .bool (.lit true)] 11
noncomputable def f2_m6ftt : Sx.Form := stF 2 w_m6ftt false [(4, vi 70), (5, vi 71)] [(2, il 7), (3, .int .i64 (.add (.var 72) (.lit 1)))] (.wr (.var 73) (.var 74) .nil) [il 0, il 2, vi 73, .int .i64 (.sel 41 (.var 73)), vi 74, il 0, il 0, il 0, .bool (.lit true)] 2
noncomputable def f2_m6ftf : Sx.Form := stF 2 w_m6ftf false [(4, vi 70), (5, vi 71)] [(2, il 2), (3, .int .i64 (.add (.var 72) (.lit 1)))] (.wr (.var 73) (.var 74) .nil) [il 0, il 2, vi 73, .int .i64 (.sel 41 (.var 73)), vi 74, il 0, il 0, il 0, .bool (.lit true)] 2
noncomputable def f2_s3ft : Sx.Form := stF 2 w_s3ft false [(3, .sli 101 0 (.lit 0) (.lit 1) (.var 62)), (4, vi 70), (5, vi 71)] [(2, il 4)] (.wr (.var 73) (.var 74) .nil) [il 0, il 2, vi 73, .int .i64 (.sel 41 (.var 73)), vi 74, il 0, il 0, il 0, .bool (.lit true)] 2
noncomputable def f2_m6fft : Sx.Form := stF 2 w_m6fft false [(4, vi 70), (5, vi 71)] [(2, il 7), (3, .int .i64 (.add (.var 72) (.lit 1)))] (.nil) [il 0, il 2, vi 73, .int .i64 (.sel 41 (.var 73)), .int .i64 (.sel 41 (.var 73)), il 0, il 0, il 0, .bool (.lit true)] 2
noncomputable def f2_m6fff : Sx.Form := stF 2 w_m6fff false [(4, vi 70), (5, vi 71)] [(2, il 2), (3, .int .i64 (.add (.var 72) (.lit 1)))] (.nil) [il 0, il 2, vi 73, .int .i64 (.sel 41 (.var 73)), .int .i64 (.sel 41 (.var 73)), il 0, il 0, il 0, .bool (.lit true)] 2
noncomputable def f2_s3ff : Sx.Form := stF 2 w_s3ff false [(3, .sli 101 0 (.lit 0) (.lit 1) (.var 62)), (4, vi 70), (5, vi 71)] [(2, il 4)] (.nil) [il 0, il 2, vi 73, .int .i64 (.sel 41 (.var 73)), .int .i64 (.sel 41 (.var 73)), il 0, il 0, il 0, .bool (.lit true)] 2
noncomputable def f2_m7t : Sx.Form := stF 2 w_m7t false [(4, vi 70), (5, vi 71)] [(2, il 0)] (.wr (.add (.mul (.var 70) (.lit 50)) (.lit 34)) (.add (.mul (.mul (.var 71) (.lit 4)) (.lit 4)) (.lit 4)) .nil) [il 0, il 2, .int .i64 (.add (.mul (.var 70) (.lit 50)) (.lit 34)), .int .i64 (.sel 41 (.add (.mul (.var 70) (.lit 50)) (.lit 34))), .int .i64 (.add (.mul (.mul (.var 71) (.lit 4)) (.lit 4)) (.lit 4)), il 0, il 0, il 0, .bool (.lit true)] 18
noncomputable def f2_m7f : Sx.Form := stF 2 w_m7f false [(4, vi 70), (5, vi 71)] [(2, il 0)] (.nil) [il 0, il 2, .int .i64 (.add (.mul (.var 70) (.lit 50)) (.lit 34)), .int .i64 (.sel 41 (.add (.mul (.var 70) (.lit 50)) (.lit 34))), .int .i64 (.sel 41 (.add (.mul (.var 70) (.lit 50)) (.lit 34))), il 0, il 0, il 0, .bool (.lit true)] 18
noncomputable def f2_m8t : Sx.Form := stF 2 w_m8t false [(4, vi 70), (5, vi 71)] [(2, il 0)] (.wr (.add (.mul (.var 70) (.lit 50)) (.lit 34)) (.add (.mul (.mul (.var 71) (.lit 4)) (.lit 4)) (.lit 8)) .nil) [il 0, il 2, .int .i64 (.add (.mul (.var 70) (.lit 50)) (.lit 34)), .int .i64 (.sel 41 (.add (.mul (.var 70) (.lit 50)) (.lit 34))), .int .i64 (.add (.mul (.mul (.var 71) (.lit 4)) (.lit 4)) (.lit 8)), il 0, il 0, il 0, .bool (.lit true)] 18
noncomputable def f2_m8f : Sx.Form := stF 2 w_m8f false [(4, vi 70), (5, vi 71)] [(2, il 0)] (.nil) [il 0, il 2, .int .i64 (.add (.mul (.var 70) (.lit 50)) (.lit 34)), .int .i64 (.sel 41 (.add (.mul (.var 70) (.lit 50)) (.lit 34))), .int .i64 (.sel 41 (.add (.mul (.var 70) (.lit 50)) (.lit 34))), il 0, il 0, il 0, .bool (.lit true)] 18
noncomputable def f2_m11t : Sx.Form := stF 2 w_m11t false [(4, vi 70), (5, vi 71)] [(2, il 12), (11, .int .i64 (.mul (.quo (.sel 41 (.add (.add (.mul (.var 70) (.lit 50)) (.mul (.var 72) (.lit 3))) (.lit 38))) (.lit 4)) (.lit 4)))] (.nil) [il 0, il 0, .int .i64 (.add (.add (.mul (.var 70) (.lit 50)) (.mul (.var 72) (.lit 3))) (.lit 38)), .int .i64 (.sel 41 (.add (.add (.mul (.var 70) (.lit 50)) (.mul (.var 72) (.lit 3))) (.lit 38))), .int .i64 (.sel 41 (.add (.add (.mul (.var 70) (.lit 50)) (.mul (.var 72) (.lit 3))) (.lit 38))), il 0, il 0, il 0, .bool (.lit true)] 13
noncomputable def f2_m12tt : Sx.Form := stF 2 w_m12tt false [(3, .sli 101 0 (.lit 0) (.lit 1) (.var 62)), (4, vi 70), (5, vi 71)] [(2, il 14), (3, .int .i64 (.add (.var 72) (.lit 1)))] (.wr (.var 73) (.var 80) .nil) [il 0, il 2, vi 73, .int .i64 (.sel 41 (.var 73)), vi 80, il 0, il 0, il 0, .bool (.lit true)] 11
noncomputable def f2_m12ft : Sx.Form := stF 2 w_m12ft false [(3, .sli 101 0 (.lit 0) (.lit 1) (.var 62)), (4, vi 70), (5, vi 71)] [(2, il 14), (3, .int .i64 (.add (.var 72) (.lit 1)))] (.nil) [il 0, il 2, vi 73, .int .i64 (.sel 41 (.var 73)), .int .i64 (.sel 41 (.var 73)), il 0, il 0, il 0, .bool (.lit true)] 11
noncomputable def f2_m11f : Sx.Form := stF 2 w_m11f false [(4, vi 70), (5, vi 71)] [(2, il 12), (11, .int .i64 (.mul (.quo (.sel 41 (.add (.add (.mul (.var 70) (.lit 50)) (.mul (.var 72) (.lit 3))) (.lit 37))) (.lit 4)) (.lit 4)))] (.nil) [il 0, il 0, .int .i64 (.add (.add (.mul (.var 70) (.lit 50)) (.mul (.var 72) (.lit 3))) (.lit 37)), .int .i64 (.sel 41 (.add (.add (.mul (.var 70) (.lit 50)) (.mul (.var 72) (.lit 3))) (.lit 37))), .int .i64 (.sel 41 (.add (.add (.mul (.var 70) (.lit 50)) (.mul (.var 72) (.lit 3))) (.lit 37))), il 0, il 0, il 0, .bool (.lit true)] 13
noncomputable def f2_m12tf : Sx.Form := stF 2 w_m12tf false [(4, vi 70), (5, vi 71)] [(2, il 10), (3, .int .i64 (.add (.var 72) (.lit 1)))] (.wr (.var 73) (.var 80) .nil) [il 0, il 2, vi 73, .int .i64 (.sel 41 (.var 73)), vi 80, il 0, il 0, il 0, .bool (.lit true)] 11
noncomputable def f2_m12ff : Sx.Form := stF 2 w_m12ff false [(4, vi 70), (5, vi 71)] [(2, il 10), (3, .int .i64 (.add (.var 72) (.lit 1)))] (.nil) [il 0, il 2, vi 73, .int .i64 (.sel 41 (.var 73)), .int .i64 (.sel 41 (.var 73)), il 0, il 0, il 0, .bool (.lit true)] 11
noncomputable def tabS1_85_0 : List (Nat × List Sx.Form) := [(100, [f1_m0o, f1_m0w, f1_m0l]), (101, [f1_m1z, f1_m1k]), (102, [f1_m2]), (103, [f1_m3]), (104, [f1_m4e, f1_m4ml, f1_m4mn, f1_m4v]), (105, [f1_m5o, f1_m5w, f1_m5l]), (106, [f1_m6ttt, f1_m6ttf, f1_m6tft, f1_m6tff, f1_m6ftt, f1_m6ftf, f1_m6fft, f1_m6fff])]
noncomputable def tabS1_85_1 : List (Nat × List Sx.Form) := [(107, [f1_m7t, f1_m7f]), (108, [f1_m8t, f1_m8f]), (109, [f1_m9z, f1_m9k]), (110, [f1_m10]), (111, [f1_m11t, f1_m11f]), (112, [f1_m12tt, f1_m12ft, f1_m12tf, f1_m12ff]), (113, [f1_m13w, f1_m13l])]
noncomputable def tabS1_105_0 : List (Nat × List Sx.Form) := [(150, [f1_s0]), (151, [f1_s1]), (152, [f1_s2o, f1_s2w, f1_s2l]), (153, [f1_s3tt, f1_s3tf, f1_s3ft, f1_s3ff])]
noncomputable def tabS2_85_0 : List (Nat × List Sx.Form) := [(200, [f2_m0o, f2_m0w, f2_m0l]), (201, [f2_m1z, f2_m1k]), (202, [f2_m2]), (203, [f2_m3]), (204, [f2_m4e, f2_m4ml, f2_m4mn, f2_m4v]), (205, [f2_m5o, f2_m5w, f2_m5l]), (206, [f2_m6ttt, f2_m6ttf, f2_m6tft, f2_m6tff, f2_m6ftt, f2_m6ftf, f2_m6fft, f2_m6fff])]
noncomputable def tabS2_85_1 : List (Nat × List Sx.Form) := [(207, [f2_m7t, f2_m7f]), (208, [f2_m8t, f2_m8f]), (209, [f2_m9z, f2_m9k]), (210, [f2_m10]), (211, [f2_m11t, f2_m11f]), (212, [f2_m12tt, f2_m12ft, f2_m12tf, f2_m12ff]), (213, [f2_m13w, f2_m13l])]
noncomputable def tabS2_105_0 : List (Nat × List Sx.Form) := [(250, [f2_s0]), (251, [f2_s1]), (252, [f2_s2o, f2_s2w, f2_s2l]), (253, [f2_s3tt, f2_s3tf, f2_s3ft, f2_s3ff])]
noncomputable def tabOk (l : List (Nat × List Sx.Form)) : Bool := l.all fun x => x.2.all fun p => formRun (funS 17) p
theorem tabS1_85_0_ok : tabOk tabS1_85_0 = true := by kernel_rfl
theorem tabS1_85_1_ok : tabOk tabS1_85_1 = true := by kernel_rfl
theorem tabS1_105_0_ok : tabOk tabS1_105_0 = true := by kernel_rfl
theorem tabS2_85_0_ok : tabOk tabS2_85_0 = true := by kernel_rfl
theorem tabS2_85_1_ok : tabOk tabS2_85_1 = true := by kernel_rfl
theorem tabS2_105_0_ok : tabOk tabS2_105_0 = true := by kernel_rfl
noncomputable def tabS : List (Nat × List Sx.Form) := tabS1_85_0 ++ (tabS1_85_1 ++ (tabS1_105_0 ++ (tabS2_85_0 ++ (tabS2_85_1 ++ (tabS2_105_0)))))
theorem tabS_ok : ∀ x ∈ tabS, ∀ p ∈ x.2, formRun (funS 17) p = true := by
 have h : tabOk tabS = true := by
  unfold tabS tabOk
  simp only [List.all_append, Bool.and_eq_true]
  exact ⟨tabS1_85_0_ok, ⟨tabS1_85_1_ok, ⟨tabS1_105_0_ok, ⟨tabS2_85_0_ok, ⟨tabS2_85_1_ok, tabS2_105_0_ok⟩⟩⟩⟩⟩
 intro x hx p hp
 exact List.all_eq_true.1 (List.all_eq_true.1 h x hx) p hp
noncomputable def baseL : Nat → SV → List (Nat × Nat × Nat)
 | i, .cons (.ifc _ (.ptr s k _)) r => (i, s, k) :: baseL (i + 1) r
 | _, _ => []
noncomputable def frS (c : SV) (k : List (Nat × IE) → List (Nat × BE) → Sub) : Sub := match c with
 | .cons (.int _ a) (.cons (.int _ b) (.cons _ (.cons (.int _ e) (.cons (.int _ f) (.cons (.int _ g) (.cons (.bool h) (.cons (.int _ i) r))))))) => (match r with
  | .cons (.int _ j) (.cons _ (.cons (.bool l) (.cons (.int _ n) _))) => k [(70, a), (71, b), (72, e), (73, f), (74, g), (76, i), (77, j), (80, n)] [(75, h), (79, l)]
  | _ => k [(70, a), (71, b), (72, e), (73, f), (74, g), (77, i)] [(75, h)])
 | _ => k [] []
noncomputable def noS : Sub := ⟨[], [], [], [], []⟩
noncomputable def mtS (args : List SV) (m : Mem) : Sub := match args with
 | [.ptr hs hk _, .ptr es ek _] => (match m.find hs hk, m.find es ek with
  | some h, some a => (match h.c, a.c with
   | .cons (.int _ th) (.cons (.int _ sq) (.cons _ (.cons (.sli s k _ (.lit (.ofNat (d + 1))) cp) (.cons (.int _ sl) (.cons (.int _ gn) _))))), .cons (.arr _ r N ws) (.cons (.int _ t0) (.cons (.int _ t1) (.cons (.int _ t2) (.cons (.int _ t3) (.cons (.int _ t4) (.cons (.int _ t5) (.cons (.int _ t6) (.cons (.int _ t7) (.cons (.bool t8) _))))))))) => (match m.find s k with
    | some st => (match nthC d st.c with
     | some (.ifc _ (.ptr fs fk _)) => (match m.find fs fk with
      | some f => frS f.c fun is bs => ⟨(60, th) :: (61, sq) :: (62, cp) :: (63, sl) :: (64, gn) :: (42, t0) :: (43, t1) :: (44, t2) :: (45, t3) :: (46, t4) :: (47, t5) :: (48, t6) :: (49, t7) :: is, (50, t8) :: bs, [(41, r, N, ws)], (100, hs, hk) :: (101, s, k) :: (102, fs, fk) :: (40, es, ek) :: (160, m.seg, m.next) :: baseL 110 st.c, []⟩
      | none => noS)
     | _ => noS)
    | none => noS)
   | _, _ => noS)
  | _, _ => noS)
 | _ => noS
noncomputable def seqX : List Sx.Form → List SV → X SV
 | [] => fun _ _ => none
 | p :: r => orX (formS p mtS) (seqX r)
theorem seqX_ok {G : Gf} : ∀ {l : List Sx.Form}, (∀ p ∈ l, formRun (funS 17) p = true) → SpecOk G Try.prog 17 (seqX l)
 | [], _ => fun F w0 E args m outs w hgf ho hm => by cases ho
 | p :: r, h => orX_ok (formS_ok (funS_ok 17) p mtS (h p List.mem_cons_self)) (seqX_ok fun q hq => h q (List.mem_cons_of_mem _ hq))
noncomputable def lookT (i : Nat) : List (Nat × List Sx.Form) → List Sx.Form
 | [] => []
 | x :: r => cond (Nat.beq x.1 i) x.2 (lookT i r)
theorem lookT_mem {i : Nat} : ∀ {l : List (Nat × List Sx.Form)}, lookT i l = [] ∨ ∃ x ∈ l, lookT i l = x.2
 | [] => .inl rfl
 | x :: r => by
  unfold lookT
  cases h : Nat.beq x.1 i with
  | true => exact .inr ⟨x, List.mem_cons_self, rfl⟩
  | false =>
   rcases lookT_mem (l := r) with g | ⟨y, hy, g⟩
   ·exact .inl g
   ·exact .inr ⟨y, List.mem_cons_of_mem _ hy, g⟩
noncomputable def candX (i : Nat) : List SV → X SV := normX [80, 84, 90, 107] (seqX (lookT i tabS))
theorem candX_ok {G : Gf} (i : Nat) : SpecOk G Try.prog 17 (candX i) := normX_ok (seqX_ok fun p hp => by
 rcases lookT_mem (i := i) (l := tabS) with h | ⟨x, hx, h⟩
 ·rw [h] at hp
  cases hp
 ·rw [h] at hp
  exact tabS_ok x hx p hp) _
noncomputable def dispX (g : List SV → Mem → Option Nat) (s : Nat → List SV → X SV) (t : List SV → X SV) : List SV → X SV := fun args m => match g args m with
 | some i => (match s i args m with
  | some o => some o
  | none => t args m)
 | none => t args m
theorem dispX_ok {G : Gf} {f : Nat} {g : List SV → Mem → Option Nat} {s : Nat → List SV → X SV} {t : List SV → X SV} (hs : ∀ i, SpecOk G Try.prog f (s i)) (ht : SpecOk G Try.prog f t) : SpecOk G Try.prog f (dispX g s t) := fun F w0 E args m outs w hgf ho hm => by
 unfold dispX at ho
 split at ho
 ·rename_i i hi
  split at ho
  ·rename_i o h
   cases ho
   exact hs i F w0 E args m _ w hgf h hm
  ·exact ht F w0 E args m outs w hgf ho hm
 ·exact ht F w0 E args m outs w hgf ho hm
structure StL where
 d : Nat
 tt : Nat
 a : Nat
 c : SV
 r : Nat
 ws : SV
noncomputable def stLook (args : List SV) (m : Mem) : Option StL := match args with
 | [.ptr hs hk _, .ptr es ek _] => (match m.find hs hk, m.find es ek with
  | some h, some a => (match nthC 3 h.c, a.c with
   | some (.sli s k (.lit (.ofNat 0)) (.lit (.ofNat (d + 1))) _), .cons (.arr _ r _ ws) _ => (match m.find s k with
    | some st => (match nthC d st.c with
     | some (.ifc tt (.ptr fs fk _)) => (match m.find fs fk with
      | some f => (match nthC 2 f.c with
       | some (.int _ (.lit (.ofNat a))) => some ⟨d + 1, tt, a, f.c, r, ws⟩
       | _ => none)
      | none => none)
     | _ => none)
    | none => none)
   | _, _ => none)
  | _, _ => none)
 | _ => none
noncomputable def stIdx (args : List SV) (m : Mem) : Option Nat := match stLook args m with
 | some l => some (100 * l.d + cond (Nat.beq l.tt 105) (50 + l.a) l.a)
 | none => none
noncomputable def numC (i : Nat) (c : SV) : IE := match nthC i c with
 | some (.int _ e) => e
 | _ => .lit 0
noncomputable def atW (kn : Know) (l : StL) (p : IE) : Option IE := match simN kn p with
 | .lit (.ofNat z) => cellVo l.r l.ws z
 | _ => none
noncomputable def eqB (o : Option IE) (y : IE) : Option BE := match o with
 | some x => some (.eq x y)
 | none => none
noncomputable def askS (args : List SV) (m : Mem) : Option BE := match stLook args m with
 | some l => cond (Nat.beq l.tt 85)
   (cond (Nat.beq l.a 4) (match eqB (atW m.know l (numC 4 l.c)) (numC 5 l.c) with
     | some c => (match again m.know c with
      | .lit false => eqB (atW m.know l (numC 4 l.c)) (norm (mineE (numC 0 l.c) (numC 1 l.c)))
      | _ => some c)
     | none => none)
    (cond (Nat.beq l.a 6) (eqB (atW m.know l (numC 4 l.c)) (numC 8 l.c))
     (cond (Nat.beq l.a 12) (eqB (atW m.know l (numC 4 l.c)) (norm (mineE (numC 0 l.c) (numC 1 l.c)))) none)))
   (cond (Nat.beq l.a 3) (eqB (atW m.know l (numC 4 l.c)) (numC 7 l.c)) none)
 | none => none
noncomputable def stepX : List SV → X SV := preX askS (dispX stIdx candX (callF (tabJ []) (spOf spC) (bxOf []) 400 12 17))
theorem stepX_ok {G : Gf} : SpecOk G Try.prog 17 stepX := preX_ok (dispX_ok candX_ok (callF_ok (spOf_ok okSpC) noBx 400 12 17)) askS
noncomputable def spT : List (Nat × (List SV → X SV)) := (17, stepX) :: spF
theorem okSpT {G : Gf} : ∀ x ∈ spT, SpecOk G Try.prog x.1 x.2 := cons_ok (a := (17, stepX)) stepX_ok okSpF
end Go.Proofs.Ytdchpckikclmlaa
