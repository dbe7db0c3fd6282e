/-
  Layer 9 (reach), numbers alone: a number's place in a table of least numbers; there and back.
-/
import Derived.Test.YtdecacajignkoaaBase
namespace Go.Proofs.Ytdecacajignkoaa
/-- The last of the first k places whose least number is n at most. -/
def atN (T : Nat → Nat) (n : Nat) : Nat → Nat
  | 0 => 0
  | k + 1 => if T k ≤ n then k else atN T n k
theorem atN_spec {T : Nat → Nat} {n : Nat} (h0 : T 0 ≤ n) : ∀ k, 0 < k → atN T n k < k ∧ T (atN T n k) ≤ n ∧ ∀ j, atN T n k < j → j < k → n < T j
  | 0, h => absurd h (by omega)
  | k + 1, _ => by
    simp only [atN]
    by_cases h : T k ≤ n
    · rw [if_pos h]; exact ⟨by omega, h, fun j h1 h2 => by omega⟩
    · rw [if_neg h]
      rcases Nat.eq_zero_or_pos k with e | e
      · subst e; exact absurd h0 h
      · obtain ⟨h1, h2, h3⟩ := atN_spec h0 k e
        refine ⟨by omega, h2, fun j g1 g2 => ?_⟩
        rcases Nat.eq_or_lt_of_le (Nat.le_of_lt_succ g2) with e2 | e2
        · subst e2; omega
        · exact h3 j g1 e2
theorem atN_one {T : Nat → Nat} {n i k : Nat} (hk : i < k) (h1 : T i ≤ n) (h2 : ∀ j, i < j → j < k → n < T j) : atN T n k = i := by
  induction k with
  | zero => omega
  | succ k ih =>
    simp only [atN]
    rcases Nat.eq_or_lt_of_le (Nat.le_of_lt_succ hk) with e | e
    · subst e; rw [if_pos h1]
    · rw [if_neg (by have := h2 k e (by omega); omega)]
      exact ih e (fun j g1 g2 => h2 j g1 (by omega))
/-- A table whose numbers rise, by what the extra bits tell at most. -/
structure Rises (T X : Nat → Nat) (N hi : Nat) : Prop where
  pos : 0 < N
  up : ∀ i, i + 1 < N → T i < T (i + 1) ∧ T (i + 1) ≤ T i + 2 ^ X i
  last : T (N - 1) ≤ hi ∧ hi < T (N - 1) + 2 ^ X (N - 1)
theorem Rises.mono {T X : Nat → Nat} {N hi : Nat} (h : Rises T X N hi) {i : Nat} : ∀ d, i + d < N → T i + d ≤ T (i + d)
  | 0, _ => Nat.le_refl _
  | d + 1, hd => by
    have := h.mono (i := i) d (by omega)
    have := (h.up (i + d) (by omega)).1
    rw [Nat.add_assoc] at this
    omega
theorem Rises.lt {T X : Nat → Nat} {N hi : Nat} (h : Rises T X N hi) {i j : Nat} (hij : i < j) (hj : j < N) : T i < T j := by
  have := h.mono (i := i) (j - i) (by omega)
  rw [show i + (j - i) = j by omega] at this
  omega
theorem Rises.at {T X : Nat → Nat} {N hi n : Nat} (h : Rises T X N hi) (h0 : T 0 ≤ n) (hn : n ≤ hi) : atN T n N < N ∧ T (atN T n N) ≤ n ∧ n - T (atN T n N) < 2 ^ X (atN T n N) := by
  obtain ⟨h1, h2, h3⟩ := atN_spec h0 N h.pos
  refine ⟨h1, h2, ?_⟩
  rcases Nat.lt_or_ge (atN T n N + 1) N with g | g
  · have := h3 (atN T n N + 1) (by omega) g
    have := (h.up _ g).2
    omega
  · have e : atN T n N = N - 1 := by omega
    have := h.last.2
    rw [← e] at this
    omega
/-- A symbol and its extra tell a number whose they are. -/
theorem Rises.back {T X : Nat → Nat} {N hi i x : Nat} (h : Rises T X N hi) (hi1 : i < N) (hx : ∀ j, i + 1 = j → j < N → T i + x < T j) : atN T (T i + x) N = i := by
  refine atN_one hi1 (by omega) fun j h1 h2 => ?_
  rcases Nat.eq_or_lt_of_le (show i + 1 ≤ j by omega) with e | e
  · exact hx j e h2
  · have := hx (i + 1) rfl (by omega)
    have := h.lt e h2
    omega
theorem Rises.rise {T X : Nat → Nat} {N hi n m : Nat} (h : Rises T X N hi) (h0 : T 0 ≤ n) (hnm : n < m) : atN T n N ≤ atN T m N := by
  obtain ⟨h1, h2, h3⟩ := atN_spec h0 N h.pos
  obtain ⟨g1, g2, g3⟩ := atN_spec (show T 0 ≤ m by omega) N h.pos
  rcases Nat.lt_or_ge (atN T m N) (atN T n N) with e | e
  · have := g3 _ e h1; omega
  · exact e
/-! ### lengths and distances -/
def longT (i : Nat) : Nat := [3, 4, 5, 6, 7, 8, 9, 10, 11, 13, 15, 17, 19, 23, 27, 31, 35, 43, 51, 59, 67, 83, 99, 115, 131, 163, 195, 227, 258].getD i 0
def longX (i : Nat) : Nat := [0, 0, 0, 0, 0, 0, 0, 0, 1, 1, 1, 1, 2, 2, 2, 2, 3, 3, 3, 3, 4, 4, 4, 4, 5, 5, 5, 5, 0].getD i 0
def farT (i : Nat) : Nat := [1, 2, 3, 4, 5, 7, 9, 13, 17, 25, 33, 49, 65, 97, 129, 193, 257, 385, 513, 769, 1025, 1537, 2049, 3073, 4097, 6145, 8193, 12289, 16385, 24577].getD i 0
def farX (i : Nat) : Nat := [0, 0, 0, 0, 1, 1, 2, 2, 3, 3, 4, 4, 5, 5, 6, 6, 7, 7, 8, 8, 9, 9, 10, 10, 11, 11, 12, 12, 13, 13].getD i 0
theorem all_lt {P : Nat → Prop} [DecidablePred P] {n : Nat} (h : ((List.range n).all fun i => decide (P i)) = true) : ∀ i, i < n → P i := fun i hi => by
  have := List.all_eq_true.1 h i (List.mem_range.2 hi)
  exact of_decide_eq_true this
theorem longs_rise : Rises longT longX 29 258 where
  pos := by omega
  up := fun i hi => all_lt (P := fun i => longT i < longT (i + 1) ∧ longT (i + 1) ≤ longT i + 2 ^ longX i) (n := 28) (by decide +kernel) i (by omega)
  last := by decide
theorem fars_rise : Rises farT farX 30 32768 where
  pos := by omega
  up := fun i hi => all_lt (P := fun i => farT i < farT (i + 1) ∧ farT (i + 1) ≤ farT i + 2 ^ farX i) (n := 29) (by decide +kernel) i (by omega)
  last := by decide
theorem long_next : ∀ i, i < 28 → i ≠ 27 → longT (i + 1) = longT i + 2 ^ longX i := fun i hi hn =>
  all_lt (P := fun i => i ≠ 27 → longT (i + 1) = longT i + 2 ^ longX i) (n := 28) (by decide +kernel) i hi hn
theorem far_next : ∀ i, i < 29 → farT (i + 1) = farT i + 2 ^ farX i := fun i hi => all_lt (P := fun i => farT (i + 1) = farT i + 2 ^ farX i) (n := 29) (by decide +kernel) i hi
/-- What LongOf and FarOf tell is told back. -/
theorem long_back {i x : Nat} (hi : i < 29) (hx : x < 2 ^ longX i) (hn : ¬ (i = 27 ∧ x = 31)) : atN longT (longT i + x) 29 = i ∧ 3 ≤ longT i + x ∧ longT i + x ≤ 258 := by
  have h3 : 3 ≤ longT i ∧ longT i ≤ 258 := all_lt (P := fun i => 3 ≤ longT i ∧ longT i ≤ 258) (n := 29) (by decide +kernel) i hi
  have hnx : ∀ j, i + 1 = j → j < 29 → longT i + x < longT j := fun j e hj => by
    subst e
    by_cases h27 : i = 27
    · subst h27
      have e1 : longT 27 = 227 := rfl
      have e2 : longT (27 + 1) = 258 := rfl
      have e3 : (2 : Nat) ^ longX 27 = 32 := rfl
      omega
    · rw [long_next i (by omega) h27]; omega
  refine ⟨longs_rise.back hi hnx, by omega, ?_⟩
  rcases Nat.lt_or_ge (i + 1) 29 with g | g
  · have h1 := hnx (i + 1) rfl g
    have h2 : longT (i + 1) ≤ 258 := (all_lt (P := fun i => 3 ≤ longT i ∧ longT i ≤ 258) (n := 29) (by decide +kernel) (i + 1) g).2
    omega
  · obtain rfl : i = 28 := by omega
    have e1 : longT 28 = 258 := rfl
    have e3 : (2 : Nat) ^ longX 28 = 1 := rfl
    omega
theorem far_back {i x : Nat} (hi : i < 30) (hx : x < 2 ^ farX i) : atN farT (farT i + x) 30 = i ∧ 1 ≤ farT i + x ∧ farT i + x ≤ 32768 := by
  have h3 : 1 ≤ farT i ∧ farT i ≤ 32768 := all_lt (P := fun i => 1 ≤ farT i ∧ farT i ≤ 32768) (n := 30) (by decide +kernel) i hi
  have hnx : ∀ j, i + 1 = j → j < 30 → farT i + x < farT j := fun j e hj => by
    subst e
    rw [far_next i (by omega)]; omega
  refine ⟨fars_rise.back hi hnx, by omega, ?_⟩
  rcases Nat.lt_or_ge (i + 1) 30 with g | g
  · have h1 := hnx (i + 1) rfl g
    have h2 : farT (i + 1) ≤ 32768 := (all_lt (P := fun i => 1 ≤ farT i ∧ farT i ≤ 32768) (n := 30) (by decide +kernel) (i + 1) g).2
    omega
  · obtain rfl : i = 29 := by omega
    have e1 : farT 29 = 24577 := rfl
    have e3 : (2 : Nat) ^ farX 29 = 8192 := rfl
    omega
theorem step_mono {X : Nat → Nat} {N : Nat} (h : ∀ i, i + 1 < N → X i ≤ X (i + 1)) {i : Nat} : ∀ d, i + d < N → X i ≤ X (i + d)
  | 0, _ => Nat.le_refl _
  | d + 1, hd => Nat.le_trans (step_mono h d (by omega)) (h (i + d) (by omega))
/-- Greater numbers have at least as many extra bits, but for the last length. -/
theorem long_bits {i j : Nat} (hij : i ≤ j) (hj : j < 28) : longX i ≤ longX j := by
  have h := step_mono (X := longX) (N := 28) (i := i) (fun i hi => all_lt (P := fun i => longX i ≤ longX (i + 1)) (n := 27) (by decide +kernel) i (by omega)) (j - i) (by omega)
  rwa [show i + (j - i) = j by omega] at h
theorem far_bits {i j : Nat} (hij : i ≤ j) (hj : j < 30) : farX i ≤ farX j := by
  have h := step_mono (X := farX) (N := 30) (i := i) (fun i hi => all_lt (P := fun i => farX i ≤ farX (i + 1)) (n := 29) (by decide +kernel) i (by omega)) (j - i) (by omega)
  rwa [show i + (j - i) = j by omega] at h
theorem long_last {n : Nat} (h0 : 3 ≤ n) (h : n < 258) : atN longT n 29 < 28 := by
  obtain ⟨h1, h2, h3⟩ := atN_spec (T := longT) (n := n) h0 29 (by omega)
  rcases Nat.lt_or_ge (atN longT n 29) 28 with g | g
  · exact g
  · have e : atN longT n 29 = 28 := by omega
    rw [e] at h2
    have e1 : longT 28 = 258 := rfl
    omega
end Go.Proofs.Ytdecacajignkoaa
