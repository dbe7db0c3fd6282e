/-
  Layer 8 (token): the document's own checks.
-/
import Derived.Test.YtihfcjehpmiolaaTokOpn
import Derived.Test.YtihfcjehpmiolaaTokRpl
namespace Go.Proofs.Ytihfcjehpmiolaa
open Go.RowKit Go.ChangeShapes Go.WideShapes Go.ChangeAt Go.Joins
def styE (s h m : Int) : Int := if mayS s h m = true then 0 else 8
def tokE (t : Tok) : Int := if mayT t = true then 0 else 8
theorem szStyle : (Try.prog.info? 32).map (·.size) = some 4 := by kernel_rfl
set_option maxRecDepth 100000 in
set_option maxHeartbeats 1000000 in
theorem rcsty8_any (w : World) (s h m : Int) (z : Bool) : Calls Try.prog 17 #[.agg #[.int .i64 s, .int .i64 h, .int .i64 m, .bool z]] w fun e w' => e = .returned (.int .i64 (styE s h m)) ∧ Below w.heap.size w w' := by
  obtain ⟨W1, hW1⟩ : ∃ W1, W1 = w.alloc (.cells #[.int .i64 s, .int .i64 h, .int .i64 m, .bool z] 32) := ⟨_, rfl⟩
  have HW1 := Lib.hid hW1
  have HB1 := Lib.hid (show Below w.heap.size w W1 by rw [hW1]; exact (Below.refl _ _).alloc (Nat.le_refl _) _)
  have hm := rsty8_any W1 s h m z
  obtain ⟨E, hE⟩ : ∃ E, E = styE s h m := ⟨_, rfl⟩
  obtain ⟨b, hb⟩ : ∃ b, b = mayS s h m := ⟨_, rfl⟩
  rw [← hE]
  rw [← hb] at hm
  have hEb : E = if b = true then 0 else 8 := by rw [hE, hb]; rfl
  have HM := Lib.hid hm; have HEB := Lib.hid hEb
  clear hm hE hb hEb hW1
  go_enter Try.func17, Try.ntmps17
  go_wp2_with fail
  rw [← HW1.out]
  refine HM.out.mono ?_
  rintro e w2 ⟨rfl, hb2⟩
  have HB2 := Lib.hid (HB1.out.trans (hb2.mono HB1.out.size))
  clear hb2
  cases b with
  | true =>
    obtain rfl : E = 0 := HEB.out
    go_wp2
    go_ret
    exact ⟨rfl, HB2.out⟩
  | false =>
    obtain rfl : E = 8 := HEB.out
    go_wp2
    go_ret
    exact ⟨rfl, HB2.out⟩
set_option maxRecDepth 100000 in
set_option maxHeartbeats 1000000 in
theorem rchk8_any (w : World) (t : Tok) : Calls Try.prog 20 #[.agg #[.int .u8 (t.x : Int), .int .i64 t.d, .int .i64 t.n]] w fun e w' => e = .returned (.int .i64 (tokE t)) ∧ Below w.heap.size w w' := by
  obtain ⟨W1, hW1⟩ : ∃ W1, W1 = w.alloc (.cells #[.int .u8 (t.x : Int), .int .i64 t.d, .int .i64 t.n] 27) := ⟨_, rfl⟩
  have HW1 := Lib.hid hW1
  have HB1 := Lib.hid (show Below w.heap.size w W1 by rw [hW1]; exact (Below.refl _ _).alloc (Nat.le_refl _) _)
  have hm := rmay8_any W1 t
  obtain ⟨E, hE⟩ : ∃ E, E = tokE t := ⟨_, rfl⟩
  obtain ⟨b, hb⟩ : ∃ b, b = mayT t := ⟨_, rfl⟩
  rw [← hE]
  rw [← hb] at hm
  have hEb : E = if b = true then 0 else 8 := by rw [hE, hb]; rfl
  have HM := Lib.hid hm; have HEB := Lib.hid hEb
  obtain ⟨x, d, n⟩ := t
  clear hm hE hb hEb hW1
  go_enter Try.func20, Try.ntmps20
  go_wp2_with fail
  rw [← HW1.out]
  refine HM.out.mono ?_
  rintro e w2 ⟨rfl, hb2⟩
  have HB2 := Lib.hid (HB1.out.trans (hb2.mono HB1.out.size))
  clear hb2
  cases b with
  | true =>
    obtain rfl : E = 0 := HEB.out
    go_wp2
    go_ret
    exact ⟨rfl, HB2.out⟩
  | false =>
    obtain rfl : E = 8 := HEB.out
    go_wp2
    go_ret
    exact ⟨rfl, HB2.out⟩
end Go.Proofs.Ytihfcjehpmiolaa
