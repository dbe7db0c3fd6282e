/-
  Layer 6 (slide): a window that came in.
-/
import Derived.Test.YtmdnlmoadklefaaConcat
import Derived.Lib.SmallJoins
namespace Go.Proofs.Ytmdnlmoadklefaa
open Go.RowKit Go.ChangeShapes Go.WideShapes Go.ChangeAt Go.Joins
theorem cellsWin : Try.prog.cellsOf 24 = 2 := by kernel_rfl
set_option maxRecDepth 100000 in
/-- A window that came in, as the statement's form reads it. -/
theorem open_win {H : Type} {enc : TypeId × Value → H} {W : World} {r : Reach} {b0 base : Nat} {sp : Nat → Bool} {hd : Bool} {v : Value} {d : DataW H} {p : List MemPlace}
    (hv : Value.okWide Try.prog W r b0 24 v) (h : DataW.Trod enc Try.prog W base sp hd 24 v d p) :
    ∃ S A len cap f, v = .agg #[.int .i64 S, .slice A len cap] ∧ ByR W W.heap.size A len cap f ∧ -9223372036854775808 ≤ S ∧ S ≤ 9223372036854775807 := by
  obtain ⟨c0, c1, y0, y1, m, rfl, rfl, rfl, hy0, hy1⟩ := open_agg2 Try.underlying24 (by kernel_rfl) cellsWin hv h
  obtain ⟨k, e1, _, wk⟩ := DataW.trod_int Try.underlying3 hy0
  obtain ⟨A, l, c, e0⟩ := slice_form Try.underlying22 hy1
  simp only [List.cons.injEq, and_true] at e0 e1
  subst e0 e1
  obtain ⟨f, hr⟩ := open_byr (d := y1.1) (p := y1.2) ⟨m, by simpa [Value.cells] using hy1⟩
  exact ⟨k, A, l, c, f, rfl, hr, wf_i64_range wk⟩
end Go.Proofs.Ytmdnlmoadklefaa
