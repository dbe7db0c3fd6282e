/-
  Layer 5 (tree): a tree that came in, as a statement's form reads it.
-/
import Derived.Test.YtedjapamimhglaaTreeMem
import Derived.Lib.SmallJoins
namespace Go.Proofs.Ytedjapamimhglaa
open Go.RowKit Go.ChangeShapes Go.WideShapes Go.ChangeAt Go.Joins Go.ChangeMaps
theorem cellsTree : Try.prog.cellsOf 25 = 17 := by kernel_rfl
theorem cellsCnt : Try.prog.cellsOf 22 = 16 := by kernel_rfl
theorem cellsInt : Try.prog.cellsOf 3 = 1 := by kernel_rfl
theorem cellsInts : Try.prog.cellsOf 23 = 1 := by kernel_rfl
set_option maxRecDepth 100000 in
theorem open_tree {H : Type} {enc : TypeId × Value → H} {W : World} {r : Reach} {b0 base : Nat} {sp : Nat → Bool} {hd : Bool} {v : Value} {d : DataW H} {p : List MemPlace}
    (hv : Value.okWide Try.prog W r b0 25 v) (h : DataW.Trod enc Try.prog W base sp hd 25 v d p) :
    ∃ (c : Nat → Int) (u : Value) (s : List Int), v = .agg (trA c u) ∧ RdS W W.heap.size u s ∧ (∀ m, m < 16 → -9223372036854775808 ≤ c m ∧ c m ≤ 9223372036854775807) ∧ (∀ x ∈ s, -9223372036854775808 ≤ x ∧ x ≤ 9223372036854775807) := by
  obtain ⟨cs, rfl, hsz⟩ := okWide_struct Try.underlying25 hv
  rw [cellsTree] at hsz
  obtain ⟨fuel, hf⟩ := h
  obtain ⟨y0, y1, n, _, _, h0, h1⟩ := trod_struct2 Try.underlying25 hf
  simp only [Value.cells] at h0 h1
  rw [show Try.prog.cellsOf _ = 16 from cellsCnt] at h0
  rw [show Try.prog.cellsOf _ = 1 from cellsInts] at h1
  obtain ⟨ys, m, rfl, hx, hl, hyl, hget⟩ := DataW.trod_array Try.underlying22 h0
  have key : ∀ i, i < 16 → ∃ z : Int, cs[i]? = some (.int .i64 z) ∧ (Lit.int .i64 z).wf = true := by
    intro i hi
    have h3 := hget i hi
    rw [cellsInt, Nat.mul_one] at h3
    have h4 : (((cs.toList.drop 0).take 16).drop i).take 1 = [cs[i]'(by omega)] := by
      rw [List.drop_zero, List.drop_take, List.take_take, show min 1 (16 - i) = 1 by omega, List.drop_eq_getElem_cons (by simpa using (by omega : i < cs.size))]
      simp
    obtain ⟨y, hy⟩ : ∃ y, ys[i]? = some y := ⟨ys[i]'(by omega), by simp [hyl, hi]⟩
    rw [hy] at h3
    have h5 : DataW.trod enc Try.prog W base sp hd m 3 [cs[i]'(by omega)] = some y := by rw [← h4]; exact h3
    obtain ⟨z, hz, _, hw⟩ := DataW.trod_int Try.underlying3 h5
    refine ⟨z, ?_, hw⟩
    have : cs[i]'(by omega) = .int .i64 z := by simpa using hz
    rw [← this]; simp
  have h16 : (cs.toList.drop 16).take 1 = [cs[16]'(by omega)] := by
    rw [List.drop_eq_getElem_cons (by simpa using (by omega : 16 < cs.size))]
    simp
  have h1' : DataW.trod enc Try.prog W base sp hd (m + 1) 23 [cs[16]'(by omega)] = some y1 := by rw [← h16]; exact h1
  obtain ⟨A, l, c, e0⟩ := slice_form Try.underlying23 h1'
  simp only [List.cons.injEq, and_true] at e0
  rw [e0] at h1'
  obtain ⟨s, hlen, hrd, hn, hm, hb⟩ := open_intl (d := y1.1) (p := y1.2) ⟨m + 1, by simpa [Value.cells] using h1'⟩
  refine ⟨fun i => if h : i < 16 then (key i h).choose else 0, .slice A l c, s, ?_, ⟨A, c, by rw [hlen], hrd, hn, hlen ▸ hm.1, hm.2⟩, fun i hi => ?_, hb⟩
  · congr 1
    apply Array.ext_getElem?
    intro i
    rw [trA_get]
    by_cases hi : i < 16
    · rw [if_pos hi]; simp only [hi, dif_pos]; exact (key i hi).choose_spec.1
    · rw [if_neg hi]
      by_cases h2 : i = 16
      · subst h2; rw [if_pos rfl, ← e0]; simp
      · rw [if_neg h2]; simp; omega
  · simp only [hi, dif_pos]
    exact wf_i64_range (key i hi).choose_spec.2
end Go.Proofs.Ytedjapamimhglaa
