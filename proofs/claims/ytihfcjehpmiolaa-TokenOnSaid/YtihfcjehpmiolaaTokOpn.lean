/-
  Layer 8 (token): slices of tokens, and styles, that came in.
-/
import Derived.Test.YtihfcjehpmiolaaTokCut
namespace Go.Proofs.Ytihfcjehpmiolaa
open Go.RowKit Go.ChangeShapes Go.WideShapes Go.ChangeAt Go.Joins Go.Deep
theorem cellsTok : Try.prog.cellsOf 27 = 3 := by kernel_rfl
theorem cellsSty : Try.prog.cellsOf 32 = 4 := by kernel_rfl
def TokIn (t : Tok) : Prop := t.x < 256 ∧ (-9223372036854775808 ≤ t.d ∧ t.d ≤ 9223372036854775807) ∧ (-9223372036854775808 ≤ t.n ∧ t.n ≤ 9223372036854775807)
theorem open_toks {H : Type} {enc : TypeId × Value → H} {W : World} {base : Nat} {sp : Nat → Bool} {hd : Bool} {a : Option Addr} {len cap : Nat} {d : DataW H} {p : List MemPlace}
    (h : ∃ fuel, DataW.trod enc Try.prog W base sp hd fuel 28 (Value.slice a len cap).cells.toList = some (d, p)) : ∃ l, TkR W W.heap.size a len cap l ∧ ∀ t ∈ l, TokIn t := by
  obtain ⟨fuel, hf⟩ := h
  rcases open_slice Try.underlying28 hf with ⟨hcs, _⟩ | ⟨x, len', cap', m, n, D, Pl, hcs, hb, hl, hm, hmm, _, hx⟩
  · simp [Value.cells] at hcs
    obtain ⟨rfl, rfl, rfl⟩ := hcs
    exact ⟨[], TkR.nil _ _, fun t ht => by simp at ht⟩
  · simp [Value.cells] at hcs
    obtain ⟨rfl, rfl, rfl⟩ := hcs
    have hlm : len ≤ m := by rw [hmm]; split <;> omega
    have each : ∀ i, i < m → ∃ t : Tok, (W.cell? (x.add (i * 3)) = some (.int .u8 (t.x : Int)) ∧ W.cell? (x.add (i * 3 + 1)) = some (.int .i64 t.d) ∧ W.cell? (x.add (i * 3 + 2)) = some (.int .i64 t.n)) ∧ TokIn t := by
      intro i hi
      obtain ⟨cs', h1, h2⟩ := hx i hi
      rw [cellsTok] at h1
      obtain ⟨_, hlen, hcell⟩ := World.cells?_some h1
      obtain ⟨y0, y1, y2, k, _, _, g0, g1, g2⟩ := trod_struct3 Try.underlying27 h2
      match cs', hlen with
      | [v0, v1, v2], _ =>
        have e0 := hcell 0 (by omega)
        have e1 := hcell 1 (by omega)
        have e2 := hcell 2 (by omega)
        rw [add_add] at e0 e1 e2
        simp at e0 e1 e2
        obtain ⟨k0, q0, _, w0⟩ := DataW.trod_int Try.underlying5 g0
        obtain ⟨k1, q1, _, w1⟩ := DataW.trod_int Try.underlying3 g1
        obtain ⟨k2, q2, _, w2⟩ := DataW.trod_int Try.underlying3 g2
        replace q0 : List.take (Try.prog.cellsOf 5) [v0, v1, v2] = [.int .u8 k0] := q0
        replace q1 : List.take (Try.prog.cellsOf 3) [v1, v2] = [.int .i64 k1] := q1
        replace q2 : List.take (Try.prog.cellsOf 3) [v2] = [.int .i64 k2] := q2
        rw [cell8] at q0
        rw [cell64] at q1 q2
        simp at q0 q1 q2
        subst q0; subst q1; subst q2
        have b0 := wf_u8_range w0
        exact ⟨⟨k0.toNat, k1, k2⟩, ⟨by rw [e0]; show some (Value.int .u8 k0) = some (Value.int .u8 (k0.toNat : Int)); rw [Int.toNat_of_nonneg b0.1], e1, e2⟩, by show k0.toNat < 256; omega, wf_i64_range w1, wf_i64_range w2⟩
    haveI : Inhabited Tok := ⟨tok0⟩
    obtain ⟨q, hq⟩ := choose_lt each
    have hlen : ((List.range len).map q).length = len := by simp
    have hgd : ∀ j, j < len → ((List.range len).map q).getD j tok0 = q j := fun j hj => by simp [List.getD_eq_getElem?_getD, hj]
    have hlen3 : (toksL ((List.range len).map q)).length = len * 3 := by rw [toksL_length, hlen]
    refine ⟨(List.range len).map q, ⟨hlen.symm, ⟨by rw [hlen]; exact hlen3, fun hn => ?_⟩, (fun h => by cases h), hl, hm⟩, fun t ht => ?_⟩
    · rw [hlen] at hn
      obtain ⟨b, off, spot⟩ := x
      have h0 := (hq 0 (by omega)).1.1
      have hspot : spot = none := by simpa [Addr.add] using World.cell?_spot h0
      subst hspot
      have hlt : b < W.heap.size := by
        rcases Nat.lt_or_ge b W.heap.size with h | h
        · exact h
        · simp [Addr.add, World.cell?, Array.getElem?_eq_none h] at h0
      have hadd : ∀ j, (⟨b, off, none⟩ : Addr).add j = ⟨b, off + j, none⟩ := fun j => by unfold Addr.add; split <;> simp_all
      refine ⟨b, off, rfl, hlt, fun j u hu => ?_⟩
      have hj : j < len * 3 := by
        rcases Nat.lt_or_ge j (len * 3) with h | h
        · exact h
        · rw [List.getElem?_eq_none (by omega)] at hu; cases hu
      have hd3 : j / 3 < len := by omega
      have hg := toksL_get ((List.range len).map q) (j / 3) (j % 3) (by omega) (Nat.mod_lt _ (by omega))
      rw [show j / 3 * 3 + j % 3 = j by omega, hu, hgd _ hd3] at hg
      obtain ⟨c0, c1, c2⟩ := (hq (j / 3) (by omega)).1
      rw [hadd] at c0 c1 c2
      have h3 : j % 3 = 0 ∨ j % 3 = 1 ∨ j % 3 = 2 := by omega
      rcases h3 with h | h | h
      · rw [h] at hg
        rw [show off + j = off + j / 3 * 3 by omega, c0]
        simpa [tokC] using hg.symm
      · rw [h] at hg
        rw [show off + j = off + (j / 3 * 3 + 1) by omega, c1]
        simpa [tokC] using hg.symm
      · rw [h] at hg
        rw [show off + j = off + (j / 3 * 3 + 2) by omega, c2]
        simpa [tokC] using hg.symm
    · rw [List.mem_map] at ht
      obtain ⟨i, hi, rfl⟩ := ht
      exact (hq i (by have := List.mem_range.1 hi; omega)).2
theorem open_sty {H : Type} {enc : TypeId × Value → H} {W : World} {r : Reach} {b0 base : Nat} {sp : Nat → Bool} {hd : Bool} {v : Value} {d : DataW H} {p : List MemPlace}
    (hv : Value.okWide Try.prog W r b0 32 v) (h : DataW.Trod enc Try.prog W base sp hd 32 v d p) :
    ∃ (s h m : Int) (z : Bool), v = .agg #[.int .i64 s, .int .i64 h, .int .i64 m, .bool z] ∧ (-9223372036854775808 ≤ s ∧ s ≤ 9223372036854775807) ∧ (-9223372036854775808 ≤ h ∧ h ≤ 9223372036854775807) ∧ (-9223372036854775808 ≤ m ∧ m ≤ 9223372036854775807) := by
  obtain ⟨c0, c1, c2, c3, y0, y1, y2, y3, m, rfl, rfl, rfl, h0, h1, h2, h3⟩ := open_agg4 Try.underlying32 (by kernel_rfl) cellsSty hv h
  obtain ⟨k0, e0, _, w0⟩ := DataW.trod_int Try.underlying3 h0
  obtain ⟨k1, e1, _, w1⟩ := DataW.trod_int Try.underlying3 h1
  obtain ⟨k2, e2, _, w2⟩ := DataW.trod_int Try.underlying3 h2
  obtain ⟨k3, e3, _⟩ := DataW.trod_bool Try.underlying4 h3
  simp only [List.cons.injEq, and_true] at e0 e1 e2 e3
  subst e0; subst e1; subst e2; subst e3
  exact ⟨k0, k1, k2, k3, rfl, wf_i64_range w0, wf_i64_range w1, wf_i64_range w2⟩
end Go.Proofs.Ytihfcjehpmiolaa
