/-
  Layer 11 (block): a pen that came in, its bytes with their room.
-/
import Derived.Test.YtjhljkhgjcckhaaGreatMhac
import Derived.Test.YtjhljkhgjcckhaaGreatMhag
namespace Go.Proofs.YtjhljkhgjcckhaaGreat
open Go.RowKit Go.ChangeShapes Go.WideShapes Go.ChangeAt Go.Joins
set_option maxRecDepth 100000 in
theorem open_penR {H : Type} {enc : TypeId × Value → H} {W : World} {r : Reach} {b0 base : Nat} {sp : Nat → Bool} {hd : Bool} {v : Value} {d : DataW H} {p : List MemPlace}
    (hv : Value.okWide Tryz.prog W r b0 24 v) (h : DataW.Trod enc Tryz.prog W base sp hd 24 v d p) :
    ∃ A len cap f k, v = .agg #[.slice A len cap, .int .i64 k] ∧ ByR W W.heap.size A len cap f ∧ -9223372036854775808 ≤ k ∧ k ≤ 9223372036854775807 := by
  obtain ⟨c0, c1, y0, y1, m, rfl, rfl, rfl, hy0, hy1⟩ := open_agg2 Tryz.underlying24 (by kernel_rfl) cellsPen hv h
  obtain ⟨k, e1, _, wk⟩ := DataW.trod_int Tryz.underlying3 hy1
  obtain ⟨A, l, c, e0⟩ := slice_form Tryz.underlying22 hy0
  simp only [List.cons.injEq, and_true] at e0 e1
  subst e0 e1
  obtain ⟨f, hr⟩ := open_byr (d := y0.1) (p := y0.2) ⟨m, by simpa [Value.cells] using hy0⟩
  exact ⟨A, l, c, f, k, rfl, hr, wf_i64_range wk⟩
end Go.Proofs.YtjhljkhgjcckhaaGreat

