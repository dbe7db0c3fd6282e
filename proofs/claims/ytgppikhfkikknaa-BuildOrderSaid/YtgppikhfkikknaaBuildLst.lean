/-
  Layer 4 (build): the document's own least lengths of two items at least.
-/
import Derived.Test.YtgppikhfkikknaaBuildPrs
namespace Go.Proofs.Ytgppikhfkikknaa
open Go.RowKit
/-- Of symbol i, after t parcels and k items of the next: how often it was counted. -/
def outB (F : Nat → Nat) (N K t k i : Nat) : Nat :=
  if i < N ∧ 0 < F i then sm (fun s => conN (nI F N) (itemW F N) K s (rankN F N i)) t + (if rankN F N i < k then conN (nI F N) (itemW F N) K t (rankN F N i) else 0) else 0
theorem outB_start (F : Nat → Nat) (N K i : Nat) : outB F N K 0 0 i = 0 := by
  unfold outB
  split
  · rw [if_neg (by omega)]; rfl
  · rfl
theorem outB_next (F : Nat → Nat) (N K t i : Nat) : outB F N K t (nI F N) i = outB F N K (t + 1) 0 i := by
  unfold outB
  by_cases h : i < N ∧ 0 < F i
  · rw [if_pos h, if_pos h, if_pos (rank_at h.1 h.2).1, if_neg (by omega)]; rfl
  · rw [if_neg h, if_neg h]
theorem outB_at {F : Nat → Nat} {N k : Nat} (hk : k < nI F N) (K t : Nat) : outB F N K t k ((itemsL F N).getD k 0) = sm (fun s => conN (nI F N) (itemW F N) K s k) t := by
  have h := rank_of hk
  unfold outB
  rw [if_pos h.2, h.1, if_neg (by omega)]; rfl
theorem outB_step {F : Nat → Nat} {N k : Nat} (hk : k < nI F N) (K t : Nat) : upd (outB F N K t k) ((itemsL F N).getD k 0) (sm (fun s => conN (nI F N) (itemW F N) K s k) t + conN (nI F N) (itemW F N) K t k) = outB F N K t (k + 1) := by
  have h := rank_of hk
  funext i
  unfold upd
  by_cases e : i = (itemsL F N).getD k 0
  · subst e
    rw [if_pos rfl]
    unfold outB
    rw [if_pos h.2, h.1, if_pos (by omega)]
  · rw [if_neg e]
    unfold outB
    by_cases hi : i < N ∧ 0 < F i
    · rw [if_pos hi, if_pos hi]
      have hr := rank_at hi.1 hi.2
      have hne : rankN F N i ≠ k := fun h2 => e (by rw [← h2]; exact hr.2.symm)
      by_cases h3 : rankN F N i < k
      · rw [if_pos h3, if_pos (by omega)]
      · rw [if_neg h3, if_neg (by omega)]
    · rw [if_neg hi, if_neg hi]
theorem sm_con_le {n : Nat} {w : Nat → Nat} {K t k : Nat} (h : t < rowLen n K) : sm (fun s => conN n w K s k) t + conN n w K t k ≤ K + 1 := by
  have h1 := sm_con (n := n) (w := w) k K (t + 1) h
  have h2 := cnt_le n w K (t + 1) k
  have e : sm (fun s => conN n w K s k) (t + 1) = sm (fun s => conN n w K s k) t + conN n w K t k := rfl
  omega
theorem outB_end {F : Nat → Nat} {N L : Nat} (h2 : 2 ≤ nI F N) (hL : 0 < L) (hn : nI F N ≤ 2 ^ L) {i : Nat} (hi : i < N) : outB F N (L - 1) (2 * nI F N - 2) 0 i = lenB F N L i := by
  unfold outB lenB
  by_cases h : 0 < F i
  · rw [if_pos ⟨hi, h⟩, if_neg (by omega), if_neg (by omega), if_neg (by omega), sm_con _ _ _ (rowLen_enough hL hn)]; rfl
  · rw [if_neg (fun hh => h hh.2), if_pos (by omega)]
theorem rowW_made (w : World) (n : Nat) : RowW (w.alloc (.cells (madeCells #[.int .u8 0] n) 5)) w.heap.size n (fun _ => 0) := by
  refine ⟨_, heap_alloc_new w _, fun j hj => ?_⟩
  unfold madeCells
  have e1 : j % 1 = 0 := by omega
  simp [hj, e1]
theorem make_u8 (n : Nat) (h : n ≤ 1000) : ∀ u : World, (Instr.makeSlice 24 (.int .i64 (n : Int)) (.int .i64 (n : Int))).run Try.prog u =
      .ok (.slice (some ⟨u.heap.size, 0, none⟩) n n) (u.alloc (.cells (madeCells #[.int .u8 0] n) 5)) := fun u => by
  obtain ⟨i0, hi, hz0, hz1, hz2⟩ := info_parts infoU8
  have h := run_make (P := Try.prog) u 24 5 i0 (.int .u8 0) Try.underlying24 hi hz0 .i64 .i64 (n : Int) (n : Int) (by omega) (Int.le_refl _) (by rw [hz2]; omega) (by omega)
  rw [Int.toNat_natCast] at h
  simpa [hz1, Value.cells] using h
theorem rowLen_few {n : Nat} (h2 : 2 ≤ n) (hn : n ≤ 400) (K : Nat) : rowLen n K ≤ 800 ∧ n + rowLen n K / 2 ≤ 900 := by
  have := rowLen_le (n := n) (by omega) K
  omega
/-- The first row. -/
theorem first_it (w : World) (A : Option Addr) (c : Nat) (l : List Int) (hr : RdI w w.heap.size A l) (A2 : Option Addr) (c2 : Nat) (hr2 : RdI w w.heap.size A2 (natsI (itemsL (freqN l) l.length))) (N n : Nat) (hN : N = l.length) (hnn : n = nI (freqN l) l.length) (hl : N ≤ 400)
    (hb : ∀ j, j < l.length → 0 ≤ l.getD j 0 ∧ l.getD j 0 ≤ 1073741824) :
    Calls Try.prog 36 #[.slice A N c, .slice A2 n c2] w fun e w' => ∃ A' c', e = .returned (.slice A' n c') ∧ Below w.heap.size w w' ∧ RdP w' w'.heap.size A' n n (rowW n (itemW (freqN l) N) 0) (conN n (itemW (freqN l) N) 0) := by
  have hle := nI_le (freqN l) l.length
  have hil := items_length (freqN l) l.length
  rw [← hnn] at hil
  have h := first_any w A c l hr A2 c2 (itemsL (freqN l) l.length) hr2 (by omega) (fun j hj => by
    have h := rank_of (F := freqN l) (n := l.length) (r := j) (by omega)
    refine ⟨h.2.1, ?_⟩
    have h3 : 0 < (l.getD ((itemsL (freqN l) l.length).getD j 0) 0).toNat := h.2.2
    omega) (fun j hj => by have := hb j hj; omega) (by omega)
  rw [hil, ← hN] at h
  exact h.mono fun e w' ⟨A', c', h1, h2, h3⟩ => ⟨A', c', h1, h2, by rw [hN] at h3 ⊢; exact h3.rd⟩
/-- The pairs of a row. -/
theorem pairs_it (w : World) (A : Option Addr) (c n K : Nat) (W : Nat → Nat) (hr : RdP w w.heap.size A n (rowLen n K) (rowW n W K) (conN n W K)) (h2 : 2 ≤ n) (hn : n ≤ 400) (hK : K ≤ 15) (hW : ∀ i, i < n → W i ≤ 1073741824) :
    Calls Try.prog 38 #[.slice A (rowLen n K) c] w fun e w' => ∃ A' c', e = .returned (.slice A' (rowLen n K / 2) c') ∧ Below w.heap.size w w' ∧ RdP w' w'.heap.size A' n (rowLen n K / 2) (prs (rowW n W K)) (fun t i => prs (fun s => conN n W K s i) t) := by
  have hf := rowLen_few h2 hn K
  have hp : 2 ^ K ≤ 2 ^ 15 := Nat.pow_le_pow_right (by decide) hK
  refine (pairs_any w A c n (rowLen n K) (rowW n W K) (conN n W K) hr hn (by omega) (fun t ht => ?_) (fun t i ht => ?_)).mono fun e w' ⟨A', c', h1, h2, h3⟩ => ⟨A', c', h1, h2, h3.rd⟩
  · have h1 := row_le hW K t ht
    have h3 : 2 ^ K * 1073741824 ≤ 2 ^ 15 * 1073741824 := Nat.mul_le_mul_right _ hp
    omega
  · have := con_le (w := W) ht i; omega
/-- A row out of the first and the pairs of the one before. -/
theorem merged_it (w : World) (A : Option Addr) (c n K : Nat) (W : Nat → Nat) (hr : RdP w w.heap.size A n n (rowW n W 0) (conN n W 0)) (A2 : Option Addr) (c2 : Nat) (hr2 : RdP w w.heap.size A2 n (rowLen n K / 2) (prs (rowW n W K)) (fun t i => prs (fun s => conN n W K s i) t)) (h2 : 2 ≤ n) (hn : n ≤ 400) :
    Calls Try.prog 37 #[.slice A n c, .slice A2 (rowLen n K / 2) c2] w fun e w' => ∃ A' c', e = .returned (.slice A' (rowLen n (K + 1)) c') ∧ Below w.heap.size w w' ∧ RdP w' w'.heap.size A' n (rowLen n (K + 1)) (rowW n W (K + 1)) (conN n W (K + 1)) := by
  have hf := rowLen_few h2 hn K
  exact (merged_any w A c n (rowW n W 0) (conN n W 0) hr A2 c2 (rowLen n K / 2) (prs (rowW n W K)) _ hr2 hf.2).mono fun e w' ⟨A', c', h1, h2, h3⟩ => ⟨A', c', h1, h2, h3.rd⟩
end Go.Proofs.Ytgppikhfkikknaa
