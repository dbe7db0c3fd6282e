/-
  Layer 10 (runs): slices of runs that came in.
-/
import Derived.Test.YtgkbnmknlmapdaaRunMem
import Derived.Deep.Slices
namespace Go.Proofs.Ytgkbnmknlmapdaa
open Go.RowKit Go.ChangeShapes Go.WideShapes Go.ChangeAt Go.Joins Go.Deep
theorem cellsRun : Try.prog.cellsOf 25 = 2 := by kernel_rfl
theorem cellsInt : Try.prog.cellsOf 3 = 1 := by kernel_rfl
def RunIn (r : Int × Int) : Prop := (-9223372036854775808 ≤ r.1 ∧ r.1 ≤ 9223372036854775807) ∧ (-9223372036854775808 ≤ r.2 ∧ r.2 ≤ 9223372036854775807)
theorem open_runs {H : Type} {enc : TypeId × Value → H} {W : World} {base : Nat} {sp : Nat → Bool} {hd : Bool} {a : Option Addr} {len cap : Nat} {d : DataW H} {p : List MemPlace}
    (h : ∃ fuel, DataW.trod enc Try.prog W base sp hd fuel 26 (Value.slice a len cap).cells.toList = some (d, p)) : ∃ l, RuR W W.heap.size a len cap l ∧ ∀ r ∈ l, RunIn r := by
  obtain ⟨fuel, hf⟩ := h
  rcases open_slice Try.underlying26 hf with ⟨hcs, _⟩ | ⟨x, len', cap', m, n, D, Pl, hcs, hb, hl, hm, hmm, _, hx⟩
  · simp [Value.cells] at hcs
    obtain ⟨rfl, rfl, rfl⟩ := hcs
    exact ⟨[], RuR.nil _ _, fun t ht => by simp at ht⟩
  · simp [Value.cells] at hcs
    obtain ⟨rfl, rfl, rfl⟩ := hcs
    have hlm : len ≤ m := by rw [hmm]; split <;> omega
    have each : ∀ i, i < m → ∃ r : Int × Int, (W.cell? (x.add (i * 2)) = some (.int .i64 r.1) ∧ W.cell? (x.add (i * 2 + 1)) = some (.int .i64 r.2)) ∧ RunIn r := by
      intro i hi
      obtain ⟨cs', h1, h2⟩ := hx i hi
      rw [cellsRun] at h1
      obtain ⟨_, hlen, hcell⟩ := World.cells?_some h1
      obtain ⟨y0, y1, k, _, _, g0, g1⟩ := trod_struct2 Try.underlying25 h2
      match cs', hlen with
      | [v0, v1], _ =>
        have e0 := hcell 0 (by omega)
        have e1 := hcell 1 (by omega)
        rw [add_add] at e0 e1
        simp at e0 e1
        obtain ⟨k0, q0, _, w0⟩ := DataW.trod_int Try.underlying3 g0
        obtain ⟨k1, q1, _, w1⟩ := DataW.trod_int Try.underlying3 g1
        replace q0 : List.take (Try.prog.cellsOf 3) [v0, v1] = [.int .i64 k0] := q0
        replace q1 : List.take (Try.prog.cellsOf 3) [v1] = [.int .i64 k1] := q1
        rw [cellsInt] at q0 q1
        simp at q0 q1
        subst q0; subst q1
        exact ⟨(k0, k1), ⟨e0, e1⟩, wf_i64_range w0, wf_i64_range w1⟩
    haveI : Inhabited (Int × Int) := ⟨run0⟩
    obtain ⟨q, hq⟩ := choose_lt each
    have hlen : ((List.range len).map q).length = len := by simp
    have hgd : ∀ j, j < len → ((List.range len).map q).getD j run0 = q j := fun j hj => by simp [List.getD_eq_getElem?_getD, hj]
    have hlen3 : (runsL ((List.range len).map q)).length = len * 2 := by rw [runsL_length, hlen]
    refine ⟨(List.range len).map q, ⟨hlen.symm, ⟨by rw [hlen]; exact hlen3, fun hn => ?_⟩, (fun h => by cases h), hl, hm⟩, fun t ht => ?_⟩
    · rw [hlen] at hn
      obtain ⟨b, off, spot⟩ := x
      have h0 := (hq 0 (by omega)).1.1
      have hspot : spot = none := by simpa [Addr.add] using World.cell?_spot h0
      subst hspot
      have hlt : b < W.heap.size := by
        rcases Nat.lt_or_ge b W.heap.size with h | h
        · exact h
        · simp [Addr.add, World.cell?, Array.getElem?_eq_none h] at h0
      have hadd : ∀ j, (⟨b, off, none⟩ : Addr).add j = ⟨b, off + j, none⟩ := fun j => by unfold Addr.add; split <;> simp_all
      refine ⟨b, off, rfl, hlt, fun j u hu => ?_⟩
      have hj : j < len * 2 := by
        rcases Nat.lt_or_ge j (len * 2) with h | h
        · exact h
        · rw [List.getElem?_eq_none (by omega)] at hu; cases hu
      have hd3 : j / 2 < len := by omega
      have hg := runsL_get ((List.range len).map q) (j / 2) (j % 2) (by omega) (Nat.mod_lt _ (by omega))
      rw [show j / 2 * 2 + j % 2 = j by omega, hu, hgd _ hd3] at hg
      obtain ⟨c0, c1⟩ := (hq (j / 2) (by omega)).1
      rw [hadd] at c0 c1
      have h3 : j % 2 = 0 ∨ j % 2 = 1 := by omega
      rcases h3 with h | h
      · rw [h] at hg
        rw [show off + j = off + j / 2 * 2 by omega, c0]
        simpa [runC] using hg.symm
      · rw [h] at hg
        rw [show off + j = off + (j / 2 * 2 + 1) by omega, c1]
        simpa [runC] using hg.symm
    · rw [List.mem_map] at ht
      obtain ⟨i, hi, rfl⟩ := ht
      exact (hq i (by have := List.mem_range.1 hi; omega)).2
end Go.Proofs.Ytgkbnmknlmapdaa
