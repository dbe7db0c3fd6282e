/-
  Layer 9 (reach): the chapter's first length and distance.
-/
import Derived.Test.YtdecacajignkoaaReaImpl
namespace Go.Proofs.Ytdecacajignkoaa
open Go.RowKit Go.ChangeShapes Go.WideShapes Go.ChangeAt
set_option maxRecDepth 100000 in
set_option maxHeartbeats 1000000 in
theorem islong9_any (w : World) (n s b x : Int) (h1 : lgS n = s) (h2 : lgB n = b) (h3 : lgX n = x) (h4 : lgE n = 0) : Calls Try.prog 8 #[.int .i64 n, .int .i64 s, .int .i64 b, .int .i64 x] w fun e w' => e = .returned (.bool true) ∧ Below w.heap.size w w' := by
  have hm := long9_any w n
  rw [h1, h2, h3, h4] at hm
  have HM := Lib.hid hm
  have e1 : (s == s) = true := by simp
  have e2 : (b == b) = true := by simp
  have e3 : (x == x) = true := by simp
  clear hm h1 h2 h3 h4
  go_enter Try.func8, Try.ntmps8
  go_wp2_with fail
  refine HM.out.mono ?_
  rintro e w2 ⟨rfl, hb2⟩
  go_wp2
  go_ret
  exact ⟨rfl, hb2⟩
set_option maxRecDepth 100000 in
set_option maxHeartbeats 1000000 in
theorem isfar9_any (w : World) (n s b x : Int) (h1 : frS n = s) (h2 : frB n = b) (h3 : frX n = x) (h4 : frE n = 0) : Calls Try.prog 9 #[.int .i64 n, .int .i64 s, .int .i64 b, .int .i64 x] w fun e w' => e = .returned (.bool true) ∧ Below w.heap.size w w' := by
  have hm := far9_any w n
  rw [h1, h2, h3, h4] at hm
  have HM := Lib.hid hm
  have e1 : (s == s) = true := by simp
  have e2 : (b == b) = true := by simp
  have e3 : (x == x) = true := by simp
  clear hm h1 h2 h3 h4
  go_enter Try.func9, Try.ntmps9
  go_wp2_with fail
  refine HM.out.mono ?_
  rintro e w2 ⟨rfl, hb2⟩
  go_wp2
  go_ret
  exact ⟨rfl, hb2⟩
theorem lg12 : lgS 12 = 265 ∧ lgB 12 = 1 ∧ lgX 12 = 1 ∧ lgE 12 = 0 := by decide
theorem fr6 : frS 6 = 4 ∧ frB 6 = 1 ∧ frX 6 = 1 ∧ frE 6 = 0 := by decide
set_option maxRecDepth 100000 in
set_option maxHeartbeats 1000000 in
theorem alive9_any (w : World) : Calls Try.prog 15 #[] w fun e w' => e = .returned (.bool true) ∧ Below w.heap.size w w' := by
  have H1 := Lib.hid (fun w => islong9_any w 12 265 1 1 lg12.1 lg12.2.1 lg12.2.2.1 lg12.2.2.2)
  have H2 := Lib.hid (fun w => isfar9_any w 6 4 1 1 fr6.1 fr6.2.1 fr6.2.2.1 fr6.2.2.2)
  go_enter Try.func15, Try.ntmps15
  go_wp2_with fail
  refine (H1.out w).mono ?_
  rintro e w1 ⟨rfl, hb1⟩
  have HB1 := Lib.hid hb1
  clear hb1
  go_wp2_with fail
  refine (H2.out w1).mono ?_
  rintro e w2 ⟨rfl, hb2⟩
  have HB2 := Lib.hid (HB1.out.trans (hb2.mono HB1.out.size))
  clear hb2
  go_wp2
  go_ret
  exact ⟨rfl, HB2.out⟩
end Go.Proofs.Ytdecacajignkoaa
