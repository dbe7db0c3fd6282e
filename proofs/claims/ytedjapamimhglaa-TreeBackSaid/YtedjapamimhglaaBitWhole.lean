/-
  For every pen: the law BitsWhole returns true, and its argument reads as it did. No condition beside the statement's own.
-/
import Derived.Test.YtedjapamimhglaaBitTurned
import Derived.Lib.SmallJoins
namespace Go.Proofs.Ytedjapamimhglaa
open Go.RowKit Go.ChangeShapes Go.WideShapes Go.ChangeAt Go.Joins
theorem cellsPen : Try.prog.cellsOf 47 = 2 := by kernel_rfl
set_option maxRecDepth 100000 in
/-- A pen that came in, as the statement's form reads it. -/
theorem open_pen {H : Type} {enc : TypeId × Value → H} {W : World} {r : Reach} {b0 base : Nat} {sp : Nat → Bool} {hd : Bool} {v : Value} {d : DataW H} {p : List MemPlace}
    (hv : Value.okWide Try.prog W r b0 47 v) (h : DataW.Trod enc Try.prog W base sp hd 47 v d p) :
    ∃ A len cap f k, v = .agg #[.slice A len cap, .int .i64 k] ∧ RdB W W.heap.size A len f ∧ (A = none → cap = 0) ∧ -9223372036854775808 ≤ k ∧ k ≤ 9223372036854775807 := by
  obtain ⟨c0, c1, y0, y1, m, rfl, rfl, rfl, hy0, hy1⟩ := open_agg2 Try.underlying47 (by kernel_rfl) cellsPen hv h
  obtain ⟨k, e1, _, wk⟩ := DataW.trod_int Try.underlying3 hy1
  obtain ⟨A, l, c, e0⟩ := slice_form Try.underlying29 hy0
  simp only [List.cons.injEq, and_true] at e0 e1
  subst e0 e1
  obtain ⟨f, hr, hn, _⟩ := open_bytes (d := y0.1) (p := y0.2) ⟨m, by simpa [Value.cells] using hy0⟩
  exact ⟨A, l, c, f, k, rfl, hr, hn, wf_i64_range wk⟩
theorem strB_congr {n : Nat} {f g : Nat → Nat} (h : ∀ j, j < n → f j = g j) : strB n f = strB n g := by
  unfold strB
  congr 1
  apply List.map_congr_left
  intro j hj
  rw [h j (by simpa using hj)]
theorem zext_in {n j : Nat} (f : Nat → Nat) (h : j < n) : zext n f j = f j := by unfold zext; rw [if_pos h]
theorem zext_lt {n : Nat} {f : Nat → Nat} (hf : ∀ j, f j < 256) (j : Nat) : zext n f j < 256 := by unfold zext; split; exact hf j; omega
end Go.Proofs.Ytedjapamimhglaa
