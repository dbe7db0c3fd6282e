/-
  Layer 11 (block), the document's own: lengths cut; how many bits; what is wrong with a block.
-/
import Derived.Deep.MidRow
import Derived.Laws.StructEq
import Derived.WalkKit
import Derived.ProofKit
import Derived.Lib.Hide
import Derived.Handy
import Derived.OpenShut
import Derived.Maps.AppendAt
import Derived.Laws.BytesArg
import Derived.Deep.AppendLies
import Derived.Deep.QuietTactic
import Derived.BigQuiet
import Derived.Laws.CopyOwn
import Derived.StillTailTactics
import Derived.Laws.Rows
import Derived.BigRegion
import Derived.Lib.AppendZeros
import Derived.LoopN
import Derived.Deep.SlicePairs
import Derived.Lib.SmallJoins
import Derived.Deep.RegionLaw
import Derived.Shelf.Abstract
import Derived.Great.BuildSlice
import Derived.Laws.Tables
import Derived.Deep.DeepCutAuto
import Derived.Deep.WholeRow
import Derived.StillTail
import Derived.Deep.Quiet
import Derived.Test.YtjhljkhgjcckhaaMgaa
namespace Go.Proofs.Ytjhljkhgjcckhaa
/-- The lengths from a place on. -/
def dropU (f : Nat → Nat) (n a : Nat) : List Nat := ((List.range n).map f).drop a
theorem dropU_cons {f : Nat → Nat} {n a : Nat} (h : a < n) : dropU f n a = f a :: dropU f n (a + 1) := by
  unfold dropU
  rw [List.drop_eq_getElem_cons (by simpa using h)]
  simp
theorem dropU_end {f : Nat → Nat} {n a : Nat} (h : n ≤ a) : dropU f n a = [] := List.drop_eq_nil_of_le (by simpa using h)
theorem dropU_length (f : Nat → Nat) (n a : Nat) : (dropU f n a).length = n - a := by simp [dropU]
theorem dropU_drop (f : Nat → Nat) (n a k : Nat) : (dropU f n a).drop k = dropU f n (a + k) := by unfold dropU; rw [List.drop_drop]
/-- How many from a place on are as the one there. -/
def ldsU (f : Nat → Nat) (n a : Nat) : Nat := leadN (f a) (dropU f n (a + 1)) + 1
theorem lead_go {f : Nat → Nat} {n a x : Nat} (h : a < n) (hx : f a = x) : leadN x (dropU f n a) = leadN x (dropU f n (a + 1)) + 1 := by
  rw [dropU_cons h]; simp only [leadN]; rw [if_pos hx]
theorem lead_stop {f : Nat → Nat} {n a x : Nat} (h : n ≤ a ∨ f a ≠ x) : leadN x (dropU f n a) = 0 := by
  rcases Nat.lt_or_ge a n with g | g
  · rw [dropU_cons g]; simp only [leadN]; rw [if_neg (by omega)]
  · rw [dropU_end g]; rfl
theorem lds_le {f : Nat → Nat} {n a : Nat} (h : a < n) : 1 ≤ ldsU f n a ∧ a + ldsU f n a ≤ n := by
  have := leadN_le (f a) (dropU f n (a + 1))
  rw [dropU_length] at this
  unfold ldsU; omega
theorem lds_same {f : Nat → Nat} {n a : Nat} (h : a < n) : ∀ i, i < ldsU f n a → f (a + i) = f a := by
  intro i hi
  have h1 := leadN_take (f a) (dropU f n a) (ldsU f n a) (by unfold ldsU; rw [lead_go h rfl]; exact Nat.le_refl _)
  have h2 := congrArg (fun l => l[i]?) h1
  simp only [List.getElem?_take, if_pos hi, List.getElem?_replicate] at h2
  have hl := (lds_le (f := f) h).2
  unfold dropU at h2
  rw [List.getElem?_drop] at h2
  simp [show a + i < n by omega] at h2
  exact h2
/-- The length ahead. -/
def prvU (f : Nat → Nat) (a : Nat) : Option Nat := if a = 0 then none else some (f (a - 1))
def fstU (f : Nat → Nat) (n a : Nat) : (Int × Int) × Nat := fstR (prvU f a) (f a) (ldsU f n a)
theorem ofR_fuel : ∀ d d' prev l, l.length ≤ d → l.length ≤ d' → (∀ x ∈ l, x ≤ 15) → ofR d prev l = ofR d' prev l
  | 0, d', prev, l, h, _, _ => by
    have : l = [] := List.length_eq_zero_iff.1 (by omega)
    subst this
    cases d' <;> rfl
  | d + 1, 0, prev, l, _, h, _ => by
    have : l = [] := List.length_eq_zero_iff.1 (by omega)
    subst this; rfl
  | d + 1, d' + 1, prev, [], _, _, _ => rfl
  | d + 1, d' + 1, prev, x :: l, h1, h2, h15 => by
    simp only [ofR]
    have hs := fstR_spec prev x (leadN x l + 1) (h15 x List.mem_cons_self) (by omega)
    simp only [List.length_cons] at h1 h2
    rw [ofR_fuel d d' (some x) _ (by rw [List.length_drop, List.length_cons]; omega) (by rw [List.length_drop, List.length_cons]; omega) (fun y hy => h15 y (List.mem_of_mem_drop hy))]
/-- The runs of lengths from a place on. -/
def ofU (f : Nat → Nat) (n a : Nat) : List (Int × Int) := ofR (n - a) (prvU f a) (dropU f n a)
theorem ofU_end {f : Nat → Nat} {n a : Nat} (h : n ≤ a) : ofU f n a = [] := by unfold ofU; rw [show n - a = 0 by omega]; rfl
theorem ofU_cons {f : Nat → Nat} {n a : Nat} (h : a < n) (h15 : ∀ i, i < n → f i ≤ 15) : ofU f n a = (fstU f n a).1 :: ofU f n (a + (fstU f n a).2) ∧ 1 ≤ (fstU f n a).2 ∧ a + (fstU f n a).2 ≤ n := by
  obtain ⟨g1, g2, _⟩ := fstR_spec (prvU f a) (f a) (ldsU f n a) (h15 a h) (lds_le (f := f) h).1
  have hl := (lds_le (f := f) h).2
  have e : fstR (prvU f a) (f a) (ldsU f n a) = fstU f n a := rfl
  rw [e] at g1 g2
  refine ⟨?_, g1, by omega⟩
  unfold ofU
  rw [show n - a = (n - (a + 1)) + 1 by omega, dropU_cons h]
  simp only [ofR]
  have e2 : fstR (prvU f a) (f a) (leadN (f a) (dropU f n (a + 1)) + 1) = fstU f n a := rfl
  rw [e2, ← dropU_cons h, dropU_drop]
  have hp : prvU f (a + (fstU f n a).2) = some (f a) := by
    unfold prvU
    rw [if_neg (by omega)]
    have := lds_same (f := f) h ((fstU f n a).2 - 1) (by omega)
    rw [show a + (fstU f n a).2 - 1 = a + ((fstU f n a).2 - 1) by omega, this]
  rw [hp, ofR_fuel (n - (a + 1)) (n - (a + (fstU f n a).2)) _ _ (by rw [dropU_length]; omega) (by rw [dropU_length]; omega)]
  intro x hx
  unfold dropU at hx
  have hx := List.mem_of_mem_drop hx
  rw [List.mem_map] at hx
  obtain ⟨i, hi, rfl⟩ := hx
  exact h15 i (List.mem_range.1 hi)
def sqE (f : Nat → Nat) (n : Nat) : Int := if 320 < n then 4 else if ∀ i, i < n → f i ≤ 15 then 0 else 2
def sqV (f : Nat → Nat) (n : Nat) : List (Int × Int) := if sqE f n = 0 then ofU f n 0 else []
def bitE (s : Int) : Int := if 0 ≤ s ∧ s ≤ 18 then 0 else 2
def bitV (s : Int) : Int := if 0 ≤ s ∧ s ≤ 18 then (bitsR s : Nat) else 0
end Go.Proofs.Ytjhljkhgjcckhaa

namespace Go.Proofs.Ytjhljkhgjcckhaa
/-- The last of the first k places whose least number is n at most. -/
def atN (T : Nat → Nat) (n : Nat) : Nat → Nat
  | 0 => 0
  | k + 1 => if T k ≤ n then k else atN T n k
theorem atN_spec {T : Nat → Nat} {n : Nat} (h0 : T 0 ≤ n) : ∀ k, 0 < k → atN T n k < k ∧ T (atN T n k) ≤ n ∧ ∀ j, atN T n k < j → j < k → n < T j
  | 0, h => absurd h (by omega)
  | k + 1, _ => by
    simp only [atN]
    by_cases h : T k ≤ n
    · rw [if_pos h]; exact ⟨by omega, h, fun j h1 h2 => by omega⟩
    · rw [if_neg h]
      rcases Nat.eq_zero_or_pos k with e | e
      · subst e; exact absurd h0 h
      · obtain ⟨h1, h2, h3⟩ := atN_spec h0 k e
        refine ⟨by omega, h2, fun j g1 g2 => ?_⟩
        rcases Nat.eq_or_lt_of_le (Nat.le_of_lt_succ g2) with e2 | e2
        · subst e2; omega
        · exact h3 j g1 e2
theorem atN_one {T : Nat → Nat} {n i k : Nat} (hk : i < k) (h1 : T i ≤ n) (h2 : ∀ j, i < j → j < k → n < T j) : atN T n k = i := by
  induction k with
  | zero => omega
  | succ k ih =>
    simp only [atN]
    rcases Nat.eq_or_lt_of_le (Nat.le_of_lt_succ hk) with e | e
    · subst e; rw [if_pos h1]
    · rw [if_neg (by have := h2 k e (by omega); omega)]
      exact ih e (fun j g1 g2 => h2 j g1 (by omega))
/-- A table whose numbers rise, by what the extra bits tell at most. -/
structure Rises (T X : Nat → Nat) (N hi : Nat) : Prop where
  pos : 0 < N
  up : ∀ i, i + 1 < N → T i < T (i + 1) ∧ T (i + 1) ≤ T i + 2 ^ X i
  last : T (N - 1) ≤ hi ∧ hi < T (N - 1) + 2 ^ X (N - 1)
theorem Rises.mono {T X : Nat → Nat} {N hi : Nat} (h : Rises T X N hi) {i : Nat} : ∀ d, i + d < N → T i + d ≤ T (i + d)
  | 0, _ => Nat.le_refl _
  | d + 1, hd => by
    have := h.mono (i := i) d (by omega)
    have := (h.up (i + d) (by omega)).1
    rw [Nat.add_assoc] at this
    omega
theorem Rises.lt {T X : Nat → Nat} {N hi : Nat} (h : Rises T X N hi) {i j : Nat} (hij : i < j) (hj : j < N) : T i < T j := by
  have := h.mono (i := i) (j - i) (by omega)
  rw [show i + (j - i) = j by omega] at this
  omega
theorem Rises.at {T X : Nat → Nat} {N hi n : Nat} (h : Rises T X N hi) (h0 : T 0 ≤ n) (hn : n ≤ hi) : atN T n N < N ∧ T (atN T n N) ≤ n ∧ n - T (atN T n N) < 2 ^ X (atN T n N) := by
  obtain ⟨h1, h2, h3⟩ := atN_spec h0 N h.pos
  refine ⟨h1, h2, ?_⟩
  rcases Nat.lt_or_ge (atN T n N + 1) N with g | g
  · have := h3 (atN T n N + 1) (by omega) g
    have := (h.up _ g).2
    omega
  · have e : atN T n N = N - 1 := by omega
    have := h.last.2
    rw [← e] at this
    omega
/-- A symbol and its extra tell a number whose they are. -/
theorem Rises.back {T X : Nat → Nat} {N hi i x : Nat} (h : Rises T X N hi) (hi1 : i < N) (hx : ∀ j, i + 1 = j → j < N → T i + x < T j) : atN T (T i + x) N = i := by
  refine atN_one hi1 (by omega) fun j h1 h2 => ?_
  rcases Nat.eq_or_lt_of_le (show i + 1 ≤ j by omega) with e | e
  · exact hx j e h2
  · have := hx (i + 1) rfl (by omega)
    have := h.lt e h2
    omega
theorem Rises.rise {T X : Nat → Nat} {N hi n m : Nat} (h : Rises T X N hi) (h0 : T 0 ≤ n) (hnm : n < m) : atN T n N ≤ atN T m N := by
  obtain ⟨h1, h2, h3⟩ := atN_spec h0 N h.pos
  obtain ⟨g1, g2, g3⟩ := atN_spec (show T 0 ≤ m by omega) N h.pos
  rcases Nat.lt_or_ge (atN T m N) (atN T n N) with e | e
  · have := g3 _ e h1; omega
  · exact e
/-! ### lengths and distances -/
def longT (i : Nat) : Nat := [3, 4, 5, 6, 7, 8, 9, 10, 11, 13, 15, 17, 19, 23, 27, 31, 35, 43, 51, 59, 67, 83, 99, 115, 131, 163, 195, 227, 258].getD i 0
def longX (i : Nat) : Nat := [0, 0, 0, 0, 0, 0, 0, 0, 1, 1, 1, 1, 2, 2, 2, 2, 3, 3, 3, 3, 4, 4, 4, 4, 5, 5, 5, 5, 0].getD i 0
def farT (i : Nat) : Nat := [1, 2, 3, 4, 5, 7, 9, 13, 17, 25, 33, 49, 65, 97, 129, 193, 257, 385, 513, 769, 1025, 1537, 2049, 3073, 4097, 6145, 8193, 12289, 16385, 24577].getD i 0
def farX (i : Nat) : Nat := [0, 0, 0, 0, 1, 1, 2, 2, 3, 3, 4, 4, 5, 5, 6, 6, 7, 7, 8, 8, 9, 9, 10, 10, 11, 11, 12, 12, 13, 13].getD i 0
theorem all_lt {P : Nat → Prop} [DecidablePred P] {n : Nat} (h : ((List.range n).all fun i => decide (P i)) = true) : ∀ i, i < n → P i := fun i hi => by
  have := List.all_eq_true.1 h i (List.mem_range.2 hi)
  exact of_decide_eq_true this
theorem longs_rise : Rises longT longX 29 258 where
  pos := by omega
  up := fun i hi => all_lt (P := fun i => longT i < longT (i + 1) ∧ longT (i + 1) ≤ longT i + 2 ^ longX i) (n := 28) (by decide +kernel) i (by omega)
  last := by decide
theorem fars_rise : Rises farT farX 30 32768 where
  pos := by omega
  up := fun i hi => all_lt (P := fun i => farT i < farT (i + 1) ∧ farT (i + 1) ≤ farT i + 2 ^ farX i) (n := 29) (by decide +kernel) i (by omega)
  last := by decide
theorem long_next : ∀ i, i < 28 → i ≠ 27 → longT (i + 1) = longT i + 2 ^ longX i := fun i hi hn =>
  all_lt (P := fun i => i ≠ 27 → longT (i + 1) = longT i + 2 ^ longX i) (n := 28) (by decide +kernel) i hi hn
theorem far_next : ∀ i, i < 29 → farT (i + 1) = farT i + 2 ^ farX i := fun i hi => all_lt (P := fun i => farT (i + 1) = farT i + 2 ^ farX i) (n := 29) (by decide +kernel) i hi
/-- What LongOf and FarOf tell is told back. -/
theorem long_back {i x : Nat} (hi : i < 29) (hx : x < 2 ^ longX i) (hn : ¬ (i = 27 ∧ x = 31)) : atN longT (longT i + x) 29 = i ∧ 3 ≤ longT i + x ∧ longT i + x ≤ 258 := by
  have h3 : 3 ≤ longT i ∧ longT i ≤ 258 := all_lt (P := fun i => 3 ≤ longT i ∧ longT i ≤ 258) (n := 29) (by decide +kernel) i hi
  have hnx : ∀ j, i + 1 = j → j < 29 → longT i + x < longT j := fun j e hj => by
    subst e
    by_cases h27 : i = 27
    · subst h27
      have e1 : longT 27 = 227 := rfl
      have e2 : longT (27 + 1) = 258 := rfl
      have e3 : (2 : Nat) ^ longX 27 = 32 := rfl
      omega
    · rw [long_next i (by omega) h27]; omega
  refine ⟨longs_rise.back hi hnx, by omega, ?_⟩
  rcases Nat.lt_or_ge (i + 1) 29 with g | g
  · have h1 := hnx (i + 1) rfl g
    have h2 : longT (i + 1) ≤ 258 := (all_lt (P := fun i => 3 ≤ longT i ∧ longT i ≤ 258) (n := 29) (by decide +kernel) (i + 1) g).2
    omega
  · obtain rfl : i = 28 := by omega
    have e1 : longT 28 = 258 := rfl
    have e3 : (2 : Nat) ^ longX 28 = 1 := rfl
    omega
theorem far_back {i x : Nat} (hi : i < 30) (hx : x < 2 ^ farX i) : atN farT (farT i + x) 30 = i ∧ 1 ≤ farT i + x ∧ farT i + x ≤ 32768 := by
  have h3 : 1 ≤ farT i ∧ farT i ≤ 32768 := all_lt (P := fun i => 1 ≤ farT i ∧ farT i ≤ 32768) (n := 30) (by decide +kernel) i hi
  have hnx : ∀ j, i + 1 = j → j < 30 → farT i + x < farT j := fun j e hj => by
    subst e
    rw [far_next i (by omega)]; omega
  refine ⟨fars_rise.back hi hnx, by omega, ?_⟩
  rcases Nat.lt_or_ge (i + 1) 30 with g | g
  · have h1 := hnx (i + 1) rfl g
    have h2 : farT (i + 1) ≤ 32768 := (all_lt (P := fun i => 1 ≤ farT i ∧ farT i ≤ 32768) (n := 30) (by decide +kernel) (i + 1) g).2
    omega
  · obtain rfl : i = 29 := by omega
    have e1 : farT 29 = 24577 := rfl
    have e3 : (2 : Nat) ^ farX 29 = 8192 := rfl
    omega
end Go.Proofs.Ytjhljkhgjcckhaa

namespace Go.Proofs.Ytjhljkhgjcckhaa
def lgI (n : Int) : Nat := atN longT n.toNat 29
def lgE (n : Int) : Int := if 3 ≤ n ∧ n ≤ 258 then 0 else 2
def lgS (n : Int) : Int := if 3 ≤ n ∧ n ≤ 258 then ((257 + lgI n : Nat) : Int) else 0
def lgB (n : Int) : Int := if 3 ≤ n ∧ n ≤ 258 then ((longX (lgI n) : Nat) : Int) else 0
def lgX (n : Int) : Int := if 3 ≤ n ∧ n ≤ 258 then ((n.toNat - longT (lgI n) : Nat) : Int) else 0
def lbE (s : Int) : Int := if 257 ≤ s ∧ s ≤ 285 then 0 else 90
def lbV (s : Int) : Int := if 257 ≤ s ∧ s ≤ 285 then ((longX (s - 257).toNat : Nat) : Int) else 0
def loE (s x : Int) : Int := if 257 ≤ s ∧ s ≤ 285 then (if x < 0 ∨ ((2 ^ longX (s - 257).toNat : Nat) : Int) ≤ x then 2 else if s = 284 ∧ x = 31 then 90 else 0) else 90
def loV (s x : Int) : Int := if loE s x = 0 then ((longT (s - 257).toNat : Nat) : Int) + x else 0
def frI (n : Int) : Nat := atN farT n.toNat 30
def frE (n : Int) : Int := if 1 ≤ n ∧ n ≤ 32768 then 0 else 2
def frS (n : Int) : Int := if 1 ≤ n ∧ n ≤ 32768 then ((frI n : Nat) : Int) else 0
def frB (n : Int) : Int := if 1 ≤ n ∧ n ≤ 32768 then ((farX (frI n) : Nat) : Int) else 0
def frX (n : Int) : Int := if 1 ≤ n ∧ n ≤ 32768 then ((n.toNat - farT (frI n) : Nat) : Int) else 0
def fbE (s : Int) : Int := if 0 ≤ s ∧ s ≤ 29 then 0 else 90
def fbV (s : Int) : Int := if 0 ≤ s ∧ s ≤ 29 then ((farX s.toNat : Nat) : Int) else 0
def foE (s x : Int) : Int := if 0 ≤ s ∧ s ≤ 29 then (if x < 0 ∨ ((2 ^ farX s.toNat : Nat) : Int) ≤ x then 2 else 0) else 90
def foV (s x : Int) : Int := if foE s x = 0 then ((farT s.toNat : Nat) : Int) + x else 0
theorem longX_le (i : Nat) : longX i ≤ 5 := by
  rcases Nat.lt_or_ge i 29 with h | h
  · exact all_lt (P := fun i => longX i ≤ 5) (n := 29) (by decide +kernel) i h
  · unfold longX; rw [List.getD_eq_getElem?_getD, List.getElem?_eq_none (by simpa using h)]; exact Nat.zero_le _
theorem farX_le (i : Nat) : farX i ≤ 13 := by
  rcases Nat.lt_or_ge i 30 with h | h
  · exact all_lt (P := fun i => farX i ≤ 13) (n := 30) (by decide +kernel) i h
  · unfold farX; rw [List.getD_eq_getElem?_getD, List.getElem?_eq_none (by simpa using h)]; exact Nat.zero_le _
theorem lg_ok {n : Int} (h : lgE n = 0) : 3 ≤ n ∧ n ≤ 258 := by
  unfold lgE at h; split at h <;> omega
theorem fr_ok {n : Int} (h : frE n = 0) : 1 ≤ n ∧ n ≤ 32768 := by
  unfold frE at h; split at h <;> omega
/-- A length's symbol and extra tell it. -/
theorem long_there {n : Int} (h : lgE n = 0) : loE (lgS n) (lgX n) = 0 ∧ loV (lgS n) (lgX n) = n ∧ lbE (lgS n) = 0 ∧ lbV (lgS n) = lgB n ∧ 0 ≤ lgX n ∧ lgX n < ((2 ^ (lgB n).toNat : Nat) : Int) ∧ 0 ≤ lgB n ∧ lgB n ≤ 5 := by
  have hn := lg_ok h
  obtain ⟨m, rfl⟩ := Int.eq_ofNat_of_zero_le (show 0 ≤ n by omega)
  obtain ⟨h1, h2, h3⟩ := longs_rise.at (n := m) (show 3 ≤ m by omega) (by omega)
  have eI : lgI (m : Int) = atN longT m 29 := rfl
  obtain ⟨i, hi⟩ : ∃ i, i = atN longT m 29 := ⟨_, rfl⟩
  rw [← hi] at h1 h2 h3 eI
  have eS : lgS (m : Int) = ((257 + i : Nat) : Int) := by unfold lgS; rw [if_pos hn, eI]
  have eB : lgB (m : Int) = ((longX i : Nat) : Int) := by unfold lgB; rw [if_pos hn, eI]
  have eX : lgX (m : Int) = ((m - longT i : Nat) : Int) := by unfold lgX; rw [if_pos hn, eI]; rfl
  have et : (lgS (m : Int) - 257).toNat = i := by rw [eS]; omega
  have hx31 : ¬ (lgS (m : Int) = 284 ∧ lgX (m : Int) = 31) := by
    rw [eS, eX]
    rintro ⟨a, b⟩
    have h27 : i = 27 := by omega
    subst h27
    have e1 : longT 27 = 227 := rfl
    have hm : m = 258 := by omega
    subst hm
    exact absurd hi (by decide)
  have hE : loE (lgS (m : Int)) (lgX (m : Int)) = 0 := by
    unfold loE
    rw [et, if_pos ⟨by rw [eS]; omega, by rw [eS]; omega⟩, if_neg (by rw [eX]; omega), if_neg hx31]
  have hxl := longX_le i
  refine ⟨hE, ?_, ?_, ?_, by rw [eX]; omega, by rw [eX, eB, Int.toNat_natCast]; omega, by rw [eB]; omega, by rw [eB]; omega⟩
  · unfold loV; rw [if_pos hE, et, eX]; omega
  · unfold lbE; rw [if_pos ⟨by rw [eS]; omega, by rw [eS]; omega⟩]
  · unfold lbV; rw [if_pos ⟨by rw [eS]; omega, by rw [eS]; omega⟩, et, eB]
theorem far_there {n : Int} (h : frE n = 0) : foE (frS n) (frX n) = 0 ∧ foV (frS n) (frX n) = n ∧ fbE (frS n) = 0 ∧ fbV (frS n) = frB n ∧ 0 ≤ frX n ∧ frX n < ((2 ^ (frB n).toNat : Nat) : Int) ∧ 0 ≤ frB n ∧ frB n ≤ 13 := by
  have hn := fr_ok h
  obtain ⟨m, rfl⟩ := Int.eq_ofNat_of_zero_le (show 0 ≤ n by omega)
  obtain ⟨h1, h2, h3⟩ := fars_rise.at (n := m) (show 1 ≤ m by omega) (by omega)
  have eI : frI (m : Int) = atN farT m 30 := rfl
  obtain ⟨i, hi⟩ : ∃ i, i = atN farT m 30 := ⟨_, rfl⟩
  rw [← hi] at h1 h2 h3 eI
  have eS : frS (m : Int) = ((i : Nat) : Int) := by unfold frS; rw [if_pos hn, eI]
  have eB : frB (m : Int) = ((farX i : Nat) : Int) := by unfold frB; rw [if_pos hn, eI]
  have eX : frX (m : Int) = ((m - farT i : Nat) : Int) := by unfold frX; rw [if_pos hn, eI]; rfl
  have et : (frS (m : Int)).toNat = i := by rw [eS]; omega
  have hE : foE (frS (m : Int)) (frX (m : Int)) = 0 := by
    unfold foE
    rw [et, if_pos ⟨by rw [eS]; omega, by rw [eS]; omega⟩, if_neg (by rw [eX]; omega)]
  have hxl := farX_le i
  refine ⟨hE, ?_, ?_, ?_, by rw [eX]; omega, by rw [eX, eB, Int.toNat_natCast]; omega, by rw [eB]; omega, by rw [eB]; omega⟩
  · unfold foV; rw [if_pos hE, et, eX]; omega
  · unfold fbE; rw [if_pos ⟨by rw [eS]; omega, by rw [eS]; omega⟩]
  · unfold fbV; rw [if_pos ⟨by rw [eS]; omega, by rw [eS]; omega⟩, et, eB]
end Go.Proofs.Ytjhljkhgjcckhaa

namespace Go.Proofs.Ytjhljkhgjcckhaa
/-- How many bytes match from n on, d at most. -/
def samN (f : Nat → Nat) (L a p : Nat) : Nat → Nat → Nat
  | 0, n => n
  | d + 1, n => if a + n < L ∧ f (p + n) = f (a + n) then samN f L a p d (n + 1) else n
def matN (f : Nat → Nat) (L a p : Nat) : Nat := samN f L a p 258 0
/-! ### the best match -/
/-- The best of the places below p, so many at most, behind one that was found. -/
def bstN (f : Nat → Nat) (L a size : Nat) : Nat → Nat → Nat → Nat → Nat × Nat
  | 0, _, d, n => (d, n)
  | p + 1, c, d, n => if a - p ≤ size ∧ 0 < c then
      (if matN f L a p < 3 then bstN f L a size p c d n else if n < matN f L a p then bstN f L a size p (c - 1) (a - p) (matN f L a p) else bstN f L a size p (c - 1) d n)
    else (d, n)
end Go.Proofs.Ytjhljkhgjcckhaa

namespace Go.Proofs.Ytjhljkhgjcckhaa
/-- A token: its byte, its distance, its length. -/
structure Tok where
  x : Nat
  d : Int
  n : Int
def mayT (t : Tok) : Bool := decide ((t.n = 0 ∧ t.d = 0) ∨ (t.n ≠ 0 ∧ t.x = 0 ∧ 3 ≤ t.n ∧ t.n ≤ 258 ∧ 1 ≤ t.d ∧ t.d ≤ 32768))
end Go.Proofs.Ytjhljkhgjcckhaa

namespace Go.Proofs.Ytjhljkhgjcckhaa
open Go.RowKit
/-- A world that comes after U: below block n all is as it was. -/
structure After (n : Nat) (U : World) where
  w : World
  h : Below n U w
instance After.some (n : Nat) (U : World) : Inhabited (After n U) := ⟨⟨U, Below.refl n U⟩⟩
theorem wp_region_after {P : Program} {id : Nat} {Q : Exit → Act → World → Prop} {a : Act} {w : World} {l : List Oper} (n : Nat) (U : World) (hU : Below n U w) (hm : P.follows .mixedOrders = true) (hB : Region.lexB .any l.toArray = true)
    (h : wpQuiet P l.toArray (fun V => ∃ p : After n U, V = p.w) (fun a' => ∀ V, (∃ p : After n U, V = p.w) → Q .normal a' V) l a) : (Code.region id l.toArray true).wp P Q a w :=
  wp_region_quiet (C := fun V => ∃ p : After n U, V = p.w) hm hB ⟨⟨_, hU.drew⟩, rfl⟩ (by simpa using h)
/-- A callee that leaves all that was there. -/
theorem call_after {P : Program} {f : FuncId} {args : Array Value} {n : Nat} {U : World} {v : Value} (h : ∀ V, Below n U V → Calls P f args V fun e V' => e = .returned v ∧ Below n U V') (p : After n U) :
    Calls P f args p.w fun e w'' => e = .returned v ∧ ∃ q : After n U, w'' = q.w :=
  (h p.w p.h).mono fun _ _ ⟨he, hb⟩ => ⟨he, ⟨_, hb⟩, rfl⟩
end Go.Proofs.Ytjhljkhgjcckhaa

namespace Go.Proofs.Ytjhljkhgjcckhaa
open Go.RowKit
def fitsB (v n : Int) : Bool := decide (0 ≤ n ∧ n ≤ 32 ∧ v < 2 ^ n.toNat)
theorem fitsB_nat {v n : Nat} : fitsB v n = true ↔ n ≤ 32 ∧ v < 2 ^ n := by
  have e : ((2 : Int) ^ n) = ((2 ^ n : Nat) : Int) := by rw [Int.natCast_pow]; rfl
  simp only [fitsB, decide_eq_true_eq, Int.toNat_natCast]
  rw [e]
  constructor
  · rintro ⟨_, h1, h2⟩; exact ⟨by omega, by exact_mod_cast h2⟩
  · rintro ⟨h1, h2⟩; exact ⟨by omega, by omega, by exact_mod_cast h2⟩
theorem div_zero_iff (v p : Int) (h0 : 0 ≤ v) (hp : 0 < p) : (v / p == 0) = decide (v < p) := by
  rw [Bool.eq_iff_iff]; simp
  constructor
  · intro h
    have := Int.emod_add_mul_ediv v p
    rw [h] at this
    have := Int.emod_lt_of_pos v hp
    omega
  · intro h
    exact Int.ediv_eq_zero_of_lt h0 h
set_option maxHeartbeats 400000 in
theorem fits_any (v n : Int) (w : World) (h0 : 0 ≤ v) (_h1 : v < 4294967296) (hn0 : -9223372036854775808 ≤ n) (hn1 : n ≤ 9223372036854775807) :
    Calls Try.prog 60 #[.int .u32 v, .int .i64 n] w fun e w' => e = .returned (.bool (fitsB v n)) ∧ w = w' := by
  by_cases ha : 0 ≤ n
  · by_cases hb : n ≤ 32
    · go_enter Try.func60, Try.ntmps60
      go_wp2
      go_ret
      refine ⟨ret_bool ?_, rfl⟩
      rw [div_zero_iff v _ h0 (Int.pow_pos (by omega))]
      simp [fitsB, ha, hb]
    · go_enter Try.func60, Try.ntmps60
      go_wp2
      go_ret
      exact ⟨ret_bool (by simp [fitsB]; omega), rfl⟩
  · go_enter Try.func60, Try.ntmps60
    go_wp2
    go_ret
    exact ⟨ret_bool (by simp [fitsB]; omega), rfl⟩
theorem need_any (k : Nat) (w : World) (h : k ≤ 9223372036854775800) :
    Calls Try.prog 27 #[.int .i64 (k : Int)] w fun e w' => e = .returned (.int .i64 (((k + 7) / 8 : Nat) : Int)) ∧ w = w' := by
  go_enter Try.func27, Try.ntmps27
  go_wp2
  go_ret
  exact ⟨rfl, rfl⟩
/-- The number whose bits are the first i bits of v, the other way round. -/
def turnN (v : Nat) : Nat → Nat
  | 0 => 0
  | i + 1 => 2 * turnN v i + v / 2 ^ i % 2
theorem turnN_lt (v : Nat) : ∀ i, turnN v i < 2 ^ i
  | 0 => by simp [turnN]
  | i + 1 => by
    have := turnN_lt v i
    have h2 : v / 2 ^ i % 2 < 2 := Nat.mod_lt _ (by omega)
    simp only [turnN, Nat.pow_succ]; omega
set_option maxHeartbeats 400000 in
theorem turn_ok (v n : Nat) (w : World) (h1 : v < 4294967296) (hn1 : n ≤ 32) (hf : fitsB v n = true) :
    Calls Try.prog 43 #[.int .u32 v, .int .i64 n] w fun e w' => e = .returned (.tuple #[.int .u32 (turnN v n), .int .i64 0]) ∧ w = w' := by
  go_enter Try.func43, Try.ntmps43
  go_wp2_with (go_at_call 60; refine (fits_any _ _ _ (by omega) (by omega) (by omega) (by omega)).mono ?_; rintro e w' ⟨rfl, rfl⟩)
  go_loop [6, 7, 13] (fun t _ i => ∃ k : Nat, k ≤ n ∧ i = .int .i64 k ∧ t = .int .u32 (turnN v k)) (fun _ _ i => n - (intOf i).toNat)
  case atStart => exact ⟨0, Nat.zero_le _, rfl, rfl⟩
  case round =>
    obtain ⟨k, hk, rfl, rfl⟩ := hrel
    have hb := turnN_lt v k
    have hb2 : turnN v k < 4294967296 := lt_32 hb (by omega)
    by_cases hlt : k < n
    · go_wp2
      refine ⟨⟨k + 1, hlt, by go_num, val_int ?_⟩, by simp [intOf]; omega⟩
      have h3 : turnN v k * 2 < 4294967296 := by
        have := pow_le_32 (k := k + 1) (by omega)
        rw [Nat.pow_succ] at this; omega
      have h4 : v / 2 ^ k % 2 < 2 := Nat.mod_lt _ (by omega)
      rw [bit_cast v k h1, show ((turnN v k : Int) * 2 % 4294967296) = ((turnN v k * 2 : Nat) : Int) by omega,
        u32_or_add _ _ 1 h3 (by omega) (by omega) (by omega)]
      simp only [turnN]; congr 1; omega
    · go_wp2
      go_ret2
      exact ⟨ret_two (by rw [show k = n by omega]) rfl, rfl⟩
end Go.Proofs.Ytjhljkhgjcckhaa

namespace Go.Proofs.Ytjhljkhgjcckhaa
open Go.RowKit
def bitAt (f : Nat → Nat) (k : Nat) : Nat := f (k / 8) / 2 ^ (k % 8) % 2
theorem bitAt_lt (f : Nat → Nat) (k : Nat) : bitAt f k < 2 := Nat.mod_lt _ (by omega)
def numN (f : Nat → Nat) (at_ : Nat) : Nat → Nat
  | 0 => 0
  | i + 1 => numN f at_ i + bitAt f (at_ + i) * 2 ^ i
theorem numN_lt (f : Nat → Nat) (at_ : Nat) : ∀ i, numN f at_ i < 2 ^ i
  | 0 => by simp [numN]
  | i + 1 => by
    have := numN_lt f at_ i
    have h2 := bitAt_lt f (at_ + i)
    have : bitAt f (at_ + i) * 2 ^ i ≤ 1 * 2 ^ i := Nat.mul_le_mul_right _ (by omega)
    simp only [numN, Nat.pow_succ]; omega
set_option maxHeartbeats 400000 in
theorem bit_any (w : World) (B : Nat) (A : Option Addr) (n c : Nat) (f : Nat → Nat) (k : Nat) (hr : RdB w B A n f) (hk : k < 8 * n) (hn : n ≤ 9223372036854775807 / 8) :
    Calls Try.prog 28 #[.slice A n c, .int .i64 (k : Int)] w fun e w' => e = .returned (.int .u32 (bitAt f k : Nat)) ∧ w = w' := by
  obtain ⟨hf, hc⟩ := hr
  obtain ⟨b, o, rfl, hb, hc⟩ := hc (by omega)
  have hcell := hc (k / 8) (by omega)
  have hlt : k / 8 < n := by omega
  have hf8 := hf (k / 8)
  clear hc
  go_enter Try.func28, Try.ntmps28
  go_wp2
  go_ret
  refine ⟨ret_int ?_, rfl⟩
  have h5 : f (k / 8) / 2 ^ (k % 8) < 256 := Nat.lt_of_le_of_lt (Nat.div_le_self _ _) hf8
  rw [cast_shr, emod_u32 _ (by omega), u32_and_one _ (by omega)]
  rfl
set_option maxHeartbeats 400000 in
theorem take_arg (w : World) (A : Option Addr) (l c : Nat) (a n : Int) (h : a < 0 ∨ n < 0 ∨ 32 < n) :
    Calls Try.prog 13 #[.slice A l c, .int .i64 a, .int .i64 n] w fun e w' => e = .returned (.tuple #[.int .u32 0, .int .i64 2]) ∧ w = w' := by
  by_cases h1 : a < 0
  · go_enter Try.func13, Try.ntmps13
    go_wp2
    go_ret2
    exact ⟨rfl, rfl⟩
  · by_cases h2 : n < 0
    · go_enter Try.func13, Try.ntmps13
      go_wp2
      go_ret2
      exact ⟨rfl, rfl⟩
    · have h3 : 32 < n := by omega
      clear h
      go_enter Try.func13, Try.ntmps13
      go_wp2
      go_ret2
      exact ⟨rfl, rfl⟩
set_option maxHeartbeats 400000 in
theorem take_end (w : World) (A : Option Addr) (l c : Nat) (a n : Nat) (ha : a ≤ 9223372036854775807) (hn : n ≤ 32) (hl : l ≤ 1000000000000) (h : 8 * l < a + n) :
    Calls Try.prog 13 #[.slice A l c, .int .i64 (a : Int), .int .i64 (n : Int)] w fun e w' => e = .returned (.tuple #[.int .u32 0, .int .i64 10]) ∧ w = w' := by
  go_enter Try.func13, Try.ntmps13
  go_wp2
  go_ret2
  exact ⟨rfl, rfl⟩
set_option maxHeartbeats 400000 in
theorem take_ok (w : World) (B : Nat) (A : Option Addr) (l c : Nat) (f : Nat → Nat) (a n : Nat) (hr : RdB w B A l f) (hn : n ≤ 32) (hl : l ≤ 1000000000000) (h : a + n ≤ 8 * l) :
    Calls Try.prog 13 #[.slice A l c, .int .i64 (a : Int), .int .i64 (n : Int)] w fun e w' => e = .returned (.tuple #[.int .u32 (numN f a n : Nat), .int .i64 0]) ∧ w = w' := by
  have HR := Lib.hid hr
  clear hr
  go_enter Try.func13, Try.ntmps13
  go_wp2
  go_loop [8, 9, 31] (fun t _ i => ∃ k : Nat, k ≤ n ∧ i = .int .i64 k ∧ t = .int .u32 (numN f a k : Nat)) (fun _ _ i => n - (intOf i).toNat)
  case atStart => exact ⟨0, Nat.zero_le _, rfl, rfl⟩
  case round =>
    obtain ⟨k, hk, rfl, rfl⟩ := hrel
    have hb := numN_lt f a k
    have hb2 : numN f a k < 4294967296 := lt_32 hb (by omega)
    have h4 := bitAt_lt f (a + k)
    by_cases hlt : k < n
    · go_wp2_with (go_at_call 28; refine (bit_any _ B _ _ _ f (a + k) HR.out (by omega) (by omega)).mono ?_; rintro e w' ⟨rfl, rfl⟩)
      refine ⟨⟨k + 1, hlt, by go_num, val_int ?_⟩, by simp [intOf]; omega⟩
      have h6 : bitAt f (a + k) * 2 ^ k ≤ 1 * 2 ^ k := Nat.mul_le_mul_right _ (by omega)
      have h7 := pow_le_32 (k := k + 1) (by omega)
      rw [Nat.pow_succ] at h7
      have h8 : bitAt f (a + k) * 2 ^ k < 4294967296 := by omega
      rw [cast_shl, emod_u32 _ h8, u32_or_add' _ _ k hb2 h8 hb (Nat.dvd_mul_left _ _)]
      rfl
    · go_wp2
      go_ret2
      exact ⟨ret_two (by rw [show k = n by omega]) rfl, rfl⟩

/-! ### the document's own -/
/-- v without its lowest j bits; 2 to the power of j: by name, for the walks. -/
def shrN (v j : Nat) : Nat := v / 2 ^ j
end Go.Proofs.Ytjhljkhgjcckhaa

namespace Go.Proofs.Ytjhljkhgjcckhaa
open Go.RowKit Go.ChangeShapes Go.WideShapes Go.ChangeAt
open Go.ChangeMaps (open_string shut_string)
/-! ### what both sides answer, by name -/
def takeV (f : Nat → Nat) (l : Nat) (a n : Int) : Nat := if a < 0 ∨ n < 0 ∨ 32 < n then 0 else if 8 * (l : Int) < a + n then 0 else numN f a.toNat n.toNat
def takeE (l : Nat) (a n : Int) : Int := if a < 0 ∨ n < 0 ∨ 32 < n then 2 else if 8 * (l : Int) < a + n then 10 else 0
theorem take_cases {P : Int → Int → Prop} (f : Nat → Nat) (l : Nat) (a n : Int)
    (h1 : a < 0 ∨ n < 0 ∨ 32 < n → P 0 2) (h2 : ∀ x y : Nat, a = x → n = y → y ≤ 32 → 8 * l < x + y → P 0 10)
    (h3 : ∀ x y : Nat, a = x → n = y → y ≤ 32 → x + y ≤ 8 * l → P (numN f x y : Nat) 0) : P (takeV f l a n : Nat) (takeE l a n) := by
  unfold takeV takeE
  by_cases c1 : a < 0 ∨ n < 0 ∨ 32 < n
  · rw [if_pos c1, if_pos c1]; exact h1 c1
  · rw [if_neg c1, if_neg c1]
    obtain ⟨x, rfl⟩ := Int.eq_ofNat_of_zero_le (show 0 ≤ a by omega)
    obtain ⟨y, rfl⟩ := Int.eq_ofNat_of_zero_le (show 0 ≤ n by omega)
    by_cases c2 : 8 * (l : Int) < (x : Int) + (y : Int)
    · rw [if_pos c2, if_pos c2]; exact h2 x y rfl rfl (by omega) (by omega)
    · rw [if_neg c2, if_neg c2]; exact h3 x y rfl rfl (by omega) (by omega)
theorem take_any (w : World) (B : Nat) (A : Option Addr) (l c : Nat) (f : Nat → Nat) (a n : Int) (hr : RdB w B A l f) (hl : l ≤ 1000000000000) (ha : a ≤ 9223372036854775807) :
    Calls Try.prog 13 #[.slice A l c, .int .i64 a, .int .i64 n] w fun e w' => e = .returned (.tuple #[.int .u32 (takeV f l a n : Nat), .int .i64 (takeE l a n)]) ∧ w = w' := by
  refine take_cases (P := fun x y => Calls Try.prog 13 #[.slice A l c, .int .i64 a, .int .i64 n] w fun e w' => e = .returned (.tuple #[.int .u32 x, .int .i64 y]) ∧ w = w') f l a n ?_ ?_ ?_
  · intro h; exact take_arg w A l c a n h
  · rintro x y rfl rfl h1 h2; exact take_end w A l c x y (by omega) h1 hl h2
  · rintro x y rfl rfl h1 h2; exact take_ok w B A l c f x y hr h1 hl h2
end Go.Proofs.Ytjhljkhgjcckhaa

namespace Go.Proofs.Ytjhljkhgjcckhaa
open Go.RowKit
theorem sz5 : (Try.prog.info? 5).map (·.size) = some 1 := by kernel_rfl
def zext (n : Nat) (f : Nat → Nat) (j : Nat) : Nat := if j < n then f j else 0
end Go.Proofs.Ytjhljkhgjcckhaa

namespace Go.Proofs.Ytjhljkhgjcckhaa
open Go.RowKit
/-! ### bits behind bits -/
def stepF (f : Nat → Nat) (k b : Nat) : Nat → Nat := upd f (k / 8) (f (k / 8) + b * 2 ^ (k % 8))
def putF (f : Nat → Nat) (k v : Nat) : Nat → (Nat → Nat)
  | 0 => f
  | i + 1 => stepF (putF f k v i) (k + i) (v / 2 ^ i % 2)
/-- Behind k bits all is nought. -/
def Clean (f : Nat → Nat) (k : Nat) : Prop := (∀ j, f j < 256) ∧ (∀ j, k / 8 < j → f j = 0) ∧ f (k / 8) < 2 ^ (k % 8)
theorem Clean.step {f : Nat → Nat} {k b : Nat} (h : Clean f k) (hb : b < 2) : Clean (stepF f k b) (k + 1) := by
  obtain ⟨h1, h2, h3⟩ := h
  have h8 : k % 8 < 8 := Nat.mod_lt _ (by omega)
  have hp : 2 ^ (k % 8) * 2 ≤ 256 := by
    have := Nat.pow_le_pow_right (n := 2) (by omega) (show k % 8 + 1 ≤ 8 by omega)
    rw [Nat.pow_succ] at this; simpa using this
  have hq : b * 2 ^ (k % 8) ≤ 1 * 2 ^ (k % 8) := Nat.mul_le_mul_right _ (by omega)
  refine ⟨fun j => ?_, fun j hj => ?_, ?_⟩
  · unfold stepF upd; split
    · omega
    · exact h1 j
  · unfold stepF upd
    rw [if_neg (by omega)]
    exact h2 j (by omega)
  · unfold stepF upd
    by_cases e : k % 8 = 7
    · rw [if_neg (by omega), h2 _ (by omega)]; exact Nat.two_pow_pos _
    · rw [if_pos (by omega), show (k + 1) % 8 = k % 8 + 1 by omega, Nat.pow_succ]; omega
theorem Clean.put {f : Nat → Nat} {k : Nat} (h : Clean f k) (v : Nat) : ∀ i, Clean (putF f k v i) (k + i)
  | 0 => h
  | i + 1 => (Clean.put h v i).step (Nat.mod_lt _ (by omega))
end Go.Proofs.Ytjhljkhgjcckhaa

namespace Go.Proofs.Ytjhljkhgjcckhaa
/-- How many bits numbers have together; bytes with numbers behind k bits. -/
def bitsT : List (Nat × Nat) → Nat
  | [] => 0
  | x :: l => x.2 + bitsT l
def putsF (f : Nat → Nat) (k : Nat) : List (Nat × Nat) → Nat → Nat
  | [] => f
  | x :: l => putsF (putF f k x.1 x.2) (k + x.2) l
theorem bitsT_app : ∀ a b, bitsT (a ++ b) = bitsT a + bitsT b
  | [], b => by simp [bitsT]
  | x :: a, b => by simp only [List.cons_append, bitsT, bitsT_app a b]; omega
theorem putsF_app (f : Nat → Nat) (k : Nat) : ∀ a b, putsF f k (a ++ b) = putsF (putsF f k a) (k + bitsT a) b
  | [], b => by simp [bitsT, putsF]
  | x :: a, b => by
    simp only [List.cons_append, bitsT, putsF]
    rw [putsF_app _ _ a b, Nat.add_assoc]
theorem Clean.puts {f : Nat → Nat} {k : Nat} (h : Clean f k) : ∀ l, Clean (putsF f k l) (k + bitsT l)
  | [] => h
  | x :: l => by
    have := (h.put x.1 x.2).puts l
    simp only [putsF, bitsT]
    rwa [Nat.add_assoc] at this
/-! ### tokens -/
def codP (F : Nat → Nat) (n i : Nat) : Nat × Nat := (turnN (codeB F n i) (F i), F i)
def symA (t : Tok) : Nat := if t.n = 0 then t.x else (lgS t.n).toNat
def symB (t : Tok) : Nat := (frS t.d).toNat
def tokP (F : Nat → Nat) (n : Nat) (G : Nat → Nat) (m : Nat) (t : Tok) : List (Nat × Nat) :=
  if t.n = 0 then [codP F n t.x] else [codP F n (lgS t.n).toNat, ((lgX t.n).toNat, (lgB t.n).toNat), codP G m (frS t.d).toNat, ((frX t.d).toNat, (frB t.d).toNat)]
def toksP (F : Nat → Nat) (n : Nat) (G : Nat → Nat) (m : Nat) (l : List Tok) : List (Nat × Nat) := l.flatMap (tokP F n G m) ++ [codP F n 256]
def fixA (i : Nat) : Nat := if 256 ≤ i ∧ i ≤ 279 then 7 else if 144 ≤ i ∧ i ≤ 255 then 9 else 8
def fixB (_ : Nat) : Nat := 5
def ordN (i : Nat) : Nat := [16, 17, 18, 0, 8, 7, 9, 6, 10, 5, 11, 4, 12, 3, 13, 2, 14, 1, 15].getD i 0
/-! ### how often symbols stand in tokens -/
def cntA (l : List Tok) (i : Nat) : Nat := (if i = 256 then 1 else 0) + l.countP fun t => decide (symA t = i)
def cntB (l : List Tok) (i : Nat) : Nat := l.countP fun t => decide (t.n ≠ 0 ∧ symB t = i)
theorem cntA_one (l : List Tok) (t : Tok) (i : Nat) : cntA (l ++ [t]) i = cntA l i + if symA t = i then 1 else 0 := by
  unfold cntA; rw [List.countP_append, List.countP_singleton]; simp only [decide_eq_true_eq]; omega
theorem cntB_one (l : List Tok) (t : Tok) (i : Nat) : cntB (l ++ [t]) i = cntB l i + if t.n ≠ 0 ∧ symB t = i then 1 else 0 := by
  unfold cntB; rw [List.countP_append, List.countP_singleton]; simp only [decide_eq_true_eq]
theorem cntA_le (l : List Tok) (i : Nat) : cntA l i ≤ l.length + 1 := by
  have := List.countP_le_length (p := fun t => decide (symA t = i)) (l := l)
  unfold cntA; split <;> omega
theorem cntB_le (l : List Tok) (i : Nat) : cntB l i ≤ l.length := List.countP_le_length
theorem cntA_pos {l : List Tok} {t : Tok} (h : t ∈ l) : 0 < cntA l (symA t) := by
  have : 0 < l.countP fun u => decide (symA u = symA t) := List.countP_pos_iff.2 ⟨t, h, by simp⟩
  unfold cntA; omega
theorem cntB_pos {l : List Tok} {t : Tok} (h : t ∈ l) (hn : t.n ≠ 0) : 0 < cntB l (symB t) := List.countP_pos_iff.2 ⟨t, h, by simp [hn]⟩
theorem cntA_end (l : List Tok) : 0 < cntA l 256 := by unfold cntA; rw [if_pos rfl]; omega
/-- A list of numbers by a function. -/
def frqL (c : Nat → Nat) (n : Nat) : List Int := (List.range n).map fun i => ((c i : Nat) : Int)
theorem frqL_length (c : Nat → Nat) (n : Nat) : (frqL c n).length = n := by simp [frqL]
theorem frqL_get (c : Nat → Nat) {n i : Nat} (h : i < n) : (frqL c n).getD i 0 = ((c i : Nat) : Int) := by
  unfold frqL; rw [List.getD_eq_getElem?_getD]; simp [h]
theorem freq_frq (c : Nat → Nat) {n i : Nat} (h : i < n) : freqN (frqL c n) i = c i := by unfold freqN; rw [frqL_get c h]; rfl
theorem ask_frq {c : Nat → Nat} {n : Nat} {most : Nat} (h1 : 1 ≤ most) (h2 : most ≤ 15) (hn : n ≤ 320) (hn2 : n ≤ 2 ^ most) (hc : ∀ i, c i ≤ 1073741824) : askE (frqL c n) (most : Int) = 0 := by
  unfold askE
  rw [frqL_length, if_neg (by omega), if_neg (by omega), if_neg, if_neg]
  · have := nI_le (freqN (frqL c n)) n
    rw [Int.toNat_natCast]; omega
  · unfold badL
    simp only [decide_eq_true_eq]
    rintro ⟨j, hj, hb⟩
    rw [frqL_get c hj] at hb
    unfold badI at hb
    simp only [decide_eq_true_eq] at hb
    have := hc j
    omega
/-- The lengths that cost least. -/
def lenM (c : Nat → Nat) (n most : Nat) : Nat → Nat := outL (frqL c n) (most : Int)
theorem lenM_may {c : Nat → Nat} {n : Nat} {most : Nat} (h1 : 1 ≤ most) (h2 : most ≤ 15) (hn : n ≤ 320) (hn2 : n ≤ 2 ^ most) (hc : ∀ i, c i ≤ 1073741824) :
    (∀ i, lenM c n most i ≤ most) ∧ allN (lenM c n most) n ≤ 32768 ∧ (∀ i, i < n → (0 < lenM c n most i ↔ 0 < c i)) ∧ lenM c n most = lenB (freqN (frqL c n)) n most ∧ nI (freqN (frqL c n)) n ≤ 2 ^ most := by
  have ha := ask_frq h1 h2 hn hn2 hc
  obtain ⟨h3, h4, h5⟩ := out_may ha
  rw [frqL_length] at h4 h5
  obtain ⟨_, _, _, _, g5, _⟩ := check_ok h4
  have hnI : nI (freqN (frqL c n)) n ≤ 2 ^ most := Nat.le_trans (nI_le _ _) hn2
  have e : lenM c n most = lenB (freqN (frqL c n)) n most := by
    funext i; unfold lenM outL; rw [if_pos ha, frqL_length, Int.toNat_natCast]
  refine ⟨fun i => by rw [e]; exact lenB_le _ (by omega) i, g5, fun i hi => ?_, e, hnI⟩
  rw [e]
  constructor
  · intro g
    rcases Nat.eq_zero_or_pos (c i) with h0 | h0
    · unfold lenB at g; rw [freq_frq c hi, if_pos h0] at g; omega
    · exact h0
  · intro g; exact (lenB_bd (by omega) hnI hi (by rw [freq_frq c hi]; exact g)).1
/-- Lengths up to the last one that is not 0, but so many at least. -/
def cutN (f : Nat → Nat) (least : Nat) : Nat → Nat
  | 0 => least
  | k + 1 => if least ≤ k ∧ f k ≠ 0 then k + 1 else cutN f least k
theorem cutN_ge (f : Nat → Nat) (least : Nat) : ∀ n, least ≤ cutN f least n
  | 0 => Nat.le_refl _
  | k + 1 => by
    simp only [cutN]
    split
    · omega
    · exact cutN_ge f least k
theorem cutN_le (f : Nat → Nat) (least : Nat) : ∀ n, least ≤ n → cutN f least n ≤ n
  | 0, h => h
  | k + 1, h => by
    simp only [cutN]
    split
    · omega
    · rename_i g
      rcases Nat.eq_or_lt_of_le h with e | e
      · have : ∀ j, j ≤ k → cutN f least j = least := by
          intro j
          induction j with
          | zero => intro _; rfl
          | succ j ih => intro hj; simp only [cutN]; rw [if_neg (by omega)]; exact ih (by omega)
        rw [this k (Nat.le_refl _)]; omega
      · exact Nat.le_trans (cutN_le f least k (by omega)) (by omega)
theorem cutN_in (f : Nat → Nat) (least : Nat) : ∀ n i, i < n → f i ≠ 0 → i < cutN f least n
  | 0, i, h, _ => absurd h (by omega)
  | k + 1, i, h, hf => by
    simp only [cutN]
    split
    · omega
    · rename_i g
      rcases Nat.eq_or_lt_of_le (Nat.le_of_lt_succ h) with e | e
      · subst e
        have := cutN_ge f least i
        have : ¬ least ≤ i := fun h2 => g ⟨h2, hf⟩
        omega
      · exact cutN_in f least k i e hf
theorem allN_mono (f : Nat → Nat) {a b : Nat} (h : a ≤ b) : allN f a ≤ allN f b := by
  induction b with
  | zero => rw [show a = 0 by omega]; exact Nat.le_refl _
  | succ b ih =>
    rcases Nat.eq_or_lt_of_le h with h | h
    · subst h; exact Nat.le_refl _
    · exact Nat.le_trans (ih (by omega)) (Nat.le_add_right _ _)
/-! ### a dynamic block -/
def lnA (l : List Tok) : Nat → Nat := lenM (cntA l) 286 15
def lnB (l : List Tok) : Nat → Nat := lenM (cntB l) 30 15
def nA (l : List Tok) : Nat := cutN (lnA l) 257 286
def nB (l : List Tok) : Nat := cutN (lnB l) 1 30
def allF (l : List Tok) : Nat → Nat := cat (lnA l) (nA l) (lnB l)
def runD (l : List Tok) : List (Int × Int) := ofU (allF l) (nA l + nB l) 0
def cntR (l : List (Int × Int)) (i : Nat) : Nat := l.countP fun r => decide (r.1 = (i : Int))
theorem cntR_one (l : List (Int × Int)) (r : Int × Int) (i : Nat) : cntR (l ++ [r]) i = cntR l i + if r.1 = (i : Int) then 1 else 0 := by
  unfold cntR; rw [List.countP_append, List.countP_singleton]; simp only [decide_eq_true_eq]
theorem cntR_le (l : List (Int × Int)) (i : Nat) : cntR l i ≤ l.length := List.countP_le_length
def lnR (l : List Tok) : Nat → Nat := lenM (cntR (runD l)) 19 7
def rowR (l : List Tok) (i : Nat) : Nat := lnR l (ordN i)
def nR (l : List Tok) : Nat := cutN (rowR l) 4 19
def runP (F : Nat → Nat) (r : Int × Int) : List (Nat × Nat) := [codP F 19 r.1.toNat, (r.2.toNat, (bitV r.1).toNat)]
def dynP (l : List Tok) : List (Nat × Nat) :=
  [(nA l - 257, 5), (nB l - 1, 5), (nR l - 4, 4)] ++ ((List.range (nR l)).map fun i => (rowR l i, 3)) ++ (runD l).flatMap (runP (lnR l))
/-- A block's numbers, behind so many bits: of a kind, of bytes, of tokens. -/
def padN (a : Nat) : Nat := (8 - (a + 3) % 8) % 8
def stoP (a n : Nat) (r : Nat → Nat) : List (Nat × Nat) := List.replicate (padN a) (0, 1) ++ [(n, 16), (65535 - n, 16)] ++ ((List.range n).map fun i => (r i, 8))
def blkP (a kind n : Nat) (r : Nat → Nat) (l : List Tok) (last : Bool) : List (Nat × Nat) :=
  [(if last then 1 else 0, 1), (kind, 2)] ++ (if kind = 1 then toksP fixA 288 fixB 32 l else if kind = 2 then dynP l ++ toksP (lnA l) (nA l) (lnB l) (nB l) l else stoP a n r)
/-- What is wrong with a block. -/
def askW (kind n : Nat) (l : List Tok) : Int := if 2 < kind then 2 else if 65535 < n ∨ 65535 < l.length then 4 else if l.all mayT then 0 else 8
theorem sym_lt {t : Tok} (h : mayT t = true) (hx : t.x < 256) : symA t < 286 ∧ (t.n = 0 → symA t = t.x) ∧ (t.n ≠ 0 → lgE t.n = 0 ∧ frE t.d = 0 ∧ 257 ≤ symA t ∧ symB t < 30) := by
  unfold mayT at h
  simp only [decide_eq_true_eq] at h
  unfold symA symB
  by_cases h0 : t.n = 0
  · rw [if_pos h0]; exact ⟨by omega, fun _ => rfl, fun g => absurd h0 g⟩
  · rw [if_neg h0]
    obtain ⟨_, _, h3, h4, h5, h6⟩ : t.n ≠ 0 ∧ t.x = 0 ∧ 3 ≤ t.n ∧ t.n ≤ 258 ∧ 1 ≤ t.d ∧ t.d ≤ 32768 := by
      rcases h with ⟨a, _⟩ | h
      · exact absurd a h0
      · exact h
    have e1 : lgE t.n = 0 := if_pos ⟨h3, h4⟩
    have e2 : frE t.d = 0 := if_pos ⟨h5, h6⟩
    have a1 := (atN_spec (T := longT) (n := t.n.toNat) (show 3 ≤ t.n.toNat by omega) 29 (by omega)).1
    have a2 := (atN_spec (T := farT) (n := t.d.toNat) (show 1 ≤ t.d.toNat by omega) 30 (by omega)).1
    have s1 : lgS t.n = ((257 + lgI t.n : Nat) : Int) := if_pos ⟨h3, h4⟩
    have s2 : frS t.d = ((frI t.d : Nat) : Int) := if_pos ⟨h5, h6⟩
    have b1 : lgI t.n < 29 := a1
    have b2 : frI t.d < 30 := a2
    refine ⟨by omega, fun g => absurd g h0, fun _ => ⟨e1, e2, by omega, by omega⟩⟩
/-- What holds of the lengths of a dynamic block. -/
theorem dyn_ok (l : List Tok) (hl : l.length ≤ 1000000) :
    (∀ i, lnA l i ≤ 15) ∧ (∀ i, lnB l i ≤ 15) ∧ allN (lnA l) (nA l) ≤ 32768 ∧ allN (lnB l) (nB l) ≤ 32768 ∧ 257 ≤ nA l ∧ nA l ≤ 286 ∧ 1 ≤ nB l ∧ nB l ≤ 30 ∧
    (∀ i, i < 286 → 0 < cntA l i → i < nA l ∧ 0 < lnA l i) ∧ (∀ i, i < 30 → 0 < cntB l i → i < nB l ∧ 0 < lnB l i) := by
  obtain ⟨a1, a2, a3, _, _⟩ := lenM_may (c := cntA l) (n := 286) (most := 15) (by omega) (by omega) (by omega) (by decide) (fun i => by have := cntA_le l i; omega)
  obtain ⟨b1, b2, b3, _, _⟩ := lenM_may (c := cntB l) (n := 30) (most := 15) (by omega) (by omega) (by omega) (by decide) (fun i => by have := cntB_le l i; omega)
  have c1 := cutN_ge (lnA l) 257 286
  have c2 := cutN_le (lnA l) 257 286 (by omega)
  have d1 := cutN_ge (lnB l) 1 30
  have d2 := cutN_le (lnB l) 1 30 (by omega)
  refine ⟨a1, b1, Nat.le_trans (allN_mono _ c2) a2, Nat.le_trans (allN_mono _ d2) b2, c1, c2, d1, d2, fun i hi h => ?_, fun i hi h => ?_⟩
  · have := (a3 i hi).2 h
    exact ⟨cutN_in _ _ _ i hi (by unfold lnA; omega), this⟩
  · have := (b3 i hi).2 h
    exact ⟨cutN_in _ _ _ i hi (by unfold lnB; omega), this⟩
theorem all_le (l : List Tok) (hl : l.length ≤ 1000000) (i : Nat) : allF l i ≤ 15 := by
  obtain ⟨h1, h2, _⟩ := dyn_ok l hl
  unfold allF cat; split
  · exact h1 _
  · exact h2 _
end Go.Proofs.Ytjhljkhgjcckhaa

namespace Go.Proofs.Ytjhljkhgjcckhaa
open Go.RowKit
/-- A slice of bytes, its room too. -/
def ByR (w : World) (B : Nat) (A : Option Addr) (n c : Nat) (f : Nat → Nat) : Prop := RdB w B A n f ∧ (A = none → c = 0) ∧ n ≤ c ∧ c ≤ maxLen
theorem ByR.below {w w' : World} {B B' n c : Nat} {A : Option Addr} {f : Nat → Nat} (h : ByR w B A n c f) (hb : Below B' w w') (hB : B ≤ B') : ByR w' B A n c f := ⟨h.1.below hb hB, h.2⟩
theorem ByR.more {w : World} {B B' n c : Nat} {A : Option Addr} {f : Nat → Nat} (h : ByR w B A n c f) (hB : B ≤ B') : ByR w B' A n c f := ⟨h.1.more hB, h.2⟩
theorem ByR.nil (w : World) (B : Nat) (f : Nat → Nat) (hf : ∀ j, f j < 256) : ByR w B none 0 0 f := ⟨⟨hf, fun h => by omega⟩, fun _ => rfl, Nat.le_refl _, by unfold maxLen; omega⟩
theorem ByR.of_own {w : World} {base n c : Nat} {A : Option Addr} {f : Nat → Nat} (h : w.ownsRow base 5 1 (.slice A n c) n (bytesL n f)) (hf : ∀ j, f j < 256) : ByR w w.heap.size A n c f := by
  refine ⟨RdB.of_own h hf, ?_⟩
  rcases h.2 with ⟨hv, h0⟩ | ⟨g, cap, cur, hv, _, _, h1, h2, _⟩
  · injection hv with h3 h4 h5
    exact ⟨fun _ => h5, by omega, by unfold maxLen; omega⟩
  · injection hv with h3 h4 h5
    exact ⟨(fun h => by rw [h] at h3; cases h3), by omega, by omega⟩
theorem RdB.ext {w : World} {B n : Nat} {A : Option Addr} {f g : Nat → Nat} (h : RdB w B A n f) (hg : ∀ j, g j < 256) (e : ∀ j, j < n → f j = g j) : RdB w B A n g := by
  refine ⟨hg, fun hn => ?_⟩
  obtain ⟨b, o, rfl, hlt, hc⟩ := h.2 hn
  exact ⟨b, o, rfl, hlt, fun j hj => by rw [← e j hj]; exact hc j hj⟩
theorem ByR.ext {w : World} {B n c : Nat} {A : Option Addr} {f g : Nat → Nat} (h : ByR w B A n c f) (hg : ∀ j, g j < 256) (e : ∀ j, j < n → f j = g j) : ByR w B A n c g := ⟨h.1.ext hg e, h.2⟩
/-- The bytes of a slice that came in, their room too. -/
theorem open_byr {H : Type} {enc : TypeId × Value → H} {W : World} {base : Nat} {sp : Nat → Bool} {hd : Bool} {a : Option Addr} {len cap : Nat} {d : DataW H} {p : List MemPlace}
    (h : ∃ fuel, DataW.trod enc Try.prog W base sp hd fuel 27 (Value.slice a len cap).cells.toList = some (d, p)) : ∃ f, ByR W W.heap.size a len cap f := by
  obtain ⟨f, h1, h2, h3, h4⟩ := open_bytes h
  exact ⟨f, h1, h2, h3, h4⟩
/-- What stands from p on. -/
theorem ByR.drop {w : World} {B n c p : Nat} {a : Addr} {A2 : Option Addr} {f : Nat → Nat} (h : ByR w B (some a) n c f) (hp : p ≤ n) (hA : (if c = p then some a else some (a.add p)) = A2) : ByR w B A2 (n - p) (c - p) (fun j => f (j + p)) := by
  obtain ⟨h1, h2, h3, h4⟩ := h
  refine ⟨⟨fun j => h1.1 _, fun hn => ?_⟩, fun h => ?_, by omega, by omega⟩
  · obtain ⟨b, o, e, hb, hcc⟩ := h1.2 (by omega)
    cases e
    rw [if_neg (by omega)] at hA
    have e : (⟨b, o, none⟩ : Addr).add p = ⟨b, o + p, none⟩ := by unfold Addr.add; split <;> simp_all
    rw [e] at hA
    refine ⟨b, o + p, hA.symm, hb, fun j hj => ?_⟩
    have := hcc (j + p) (by omega)
    rw [show o + p + j = o + (j + p) by omega]
    exact this
  · rw [h] at hA; split at hA <;> cases hA
theorem ByR.other {w : World} {B n c : Nat} {A : Option Addr} {f : Nat → Nat} (h : ByR w B A n c f) (p : Addr) (u : Value) (hne : ∀ b, A.map (·.block) = some b → b ≠ p.block) : ByR (w.setCell p u) B A n c f := by
  refine ⟨⟨h.1.1, fun hn => ?_⟩, h.2⟩
  obtain ⟨b, o, rfl, hlt, hc⟩ := h.1.2 hn
  exact ⟨b, o, rfl, hlt, fun j hj => (World.cell?_setCell_other _ _ _ _ (fun e => hne b rfl (by first | exact congrArg Addr.block e | exact (congrArg Addr.block e).symm))).trans (hc j hj)⟩
theorem ByR.drew {w : World} {B n c : Nat} {A : Option Addr} {f : Nat → Nat} (h : ByR w B A n c f) : ByR w.drew B A n c f := h
theorem bytesL_ext {n : Nat} {f g : Nat → Nat} (h : ∀ j, j < n → f j = g j) : bytesL n f = bytesL n g := by
  unfold bytesL
  exact List.map_congr_left fun j hj => by rw [h j (List.mem_range.1 hj)]
/-- How many bytes the first k of some slices have, and which. -/
def sumU (n : Nat → Nat) : Nat → Nat
  | 0 => 0
  | k + 1 => sumU n k + n k
def catU (n : Nat → Nat) (f : Nat → Nat → Nat) : Nat → Nat → Nat
  | 0, _ => 0
  | k + 1, j => cat (catU n f k) (sumU n k) (f k) j
theorem sumU_mono (n : Nat → Nat) {a b : Nat} (h : a ≤ b) : sumU n a ≤ sumU n b := by
  induction h with
  | refl => exact Nat.le_refl _
  | step _ ih => exact Nat.le_trans ih (Nat.le_add_right _ _)
/-- k slices of bytes in a row at A. -/
def RowsB (w : World) (B : Nat) (A : Option Addr) (k : Nat) (n : Nat → Nat) (f : Nat → Nat → Nat) : Prop :=
  0 < k → ∃ b o, A = some ⟨b, o, none⟩ ∧ b < B ∧ ∀ i, i < k → ∃ Ai ci, w.cell? ⟨b, o + i, none⟩ = some (.slice Ai (n i) ci) ∧ RdB w B Ai (n i) (f i) ∧ (Ai = none → ci = 0)
theorem RowsB.below {w w' : World} {B B' k : Nat} {A : Option Addr} {n : Nat → Nat} {f : Nat → Nat → Nat} (h : RowsB w B A k n f) (hb : Below B' w w') (hB : B ≤ B') : RowsB w' B A k n f := fun hk => by
  obtain ⟨b, o, h1, h2, h3⟩ := h hk
  refine ⟨b, o, h1, h2, fun i hi => ?_⟩
  obtain ⟨Ai, ci, q1, q2, q3⟩ := h3 i hi
  exact ⟨Ai, ci, by rw [hb.cell (p := ⟨b, o + i, none⟩) (by show b < B'; omega)]; exact q1, q2.below hb hB, q3⟩
end Go.Proofs.Ytjhljkhgjcckhaa

namespace Go.Proofs.Ytjhljkhgjcckhaa
open Go.RowKit Go.ChangeShapes Go.WideShapes Go.ChangeAt Go.Joins
def num0 : Nat × Nat := (0, 0)
def numC (r : Nat × Nat) : List Value := [.int .u32 (r.1 : Int), .int .i64 (r.2 : Int)]
def numsL : List (Nat × Nat) → List Value
  | [] => []
  | r :: l => numC r ++ numsL l
theorem numsL_length : ∀ l, (numsL l).length = l.length * 2
  | [] => rfl
  | r :: l => by simp only [numsL, List.length_append, List.length_cons, numsL_length l]; simp [numC]; omega
theorem numsL_get : ∀ (l : List (Nat × Nat)) (j i : Nat), j < l.length → i < 2 → (numsL l)[j * 2 + i]? = (numC (l.getD j num0))[i]?
  | [], j, i, h, _ => absurd h (by simp)
  | r :: l, 0, i, _, hi => by
    simp only [numsL, Nat.zero_mul, Nat.zero_add]
    rw [List.getElem?_append_left (by simpa [numC] using hi)]
    rfl
  | r :: l, j + 1, i, h, hi => by
    simp only [numsL]
    rw [List.getElem?_append_right (by simp [numC]; omega)]
    have e : (j + 1) * 2 + i - (numC r).length = j * 2 + i := by simp [numC]; omega
    rw [e, numsL_get l j i (by simpa using h) hi]
    rfl
def RdN (w : World) (B : Nat) (A : Option Addr) (l : List (Nat × Nat)) : Prop := SrcL w B 2 A l.length (numsL l)
theorem RdN.below {w w' : World} {B B' : Nat} {A : Option Addr} {l : List (Nat × Nat)} (h : RdN w B A l) (hb : Below B' w w') (hB : B ≤ B') : RdN w' B A l := SrcL.below h hb hB
theorem RdN.more {w : World} {B B' : Nat} {A : Option Addr} {l : List (Nat × Nat)} (h : RdN w B A l) (hB : B ≤ B') : RdN w B' A l := SrcL.more h hB
theorem RdN.nil (w : World) (B : Nat) (A : Option Addr) : RdN w B A [] := SrcL.none_ w B 2 A
theorem RdN.at {w : World} {B : Nat} {A : Option Addr} {l : List (Nat × Nat)} (h : RdN w B A l) {k : Nat} (hk : k < l.length) : ∃ b o, A = some ⟨b, o, none⟩ ∧ b < B ∧ ∀ j, j < l.length →
    w.cell? ⟨b, o + j * 2, none⟩ = some (.int .u32 ((l.getD j num0).1 : Int)) ∧ w.cell? ⟨b, o + j * 2 + 1, none⟩ = some (.int .i64 ((l.getD j num0).2 : Int)) := by
  obtain ⟨b, o, h1, h2, h3⟩ := h.2 (by omega)
  refine ⟨b, o, h1, h2, fun j hj => ⟨?_, ?_⟩⟩
  · have := h3 (j * 2 + 0) _ ((numsL_get l j 0 hj (by omega)).trans rfl)
    simpa using this
  · have := h3 (j * 2 + 1) _ ((numsL_get l j 1 hj (by omega)).trans rfl)
    rw [show o + j * 2 + 1 = o + (j * 2 + 1) by omega]; exact this
theorem RdN.range {w : World} {B : Nat} {A : Option Addr} {l : List (Nat × Nat)} (h : RdN w B A l) {b o : Nat} (hA : A = some ⟨b, o, none⟩) {j : Nat} (hj : j < l.length) : w.rangeAt b (o + j * 2) (numC (l.getD j num0)) := by
  obtain ⟨b', o', h1, _, h3⟩ := h.at hj
  rw [hA] at h1
  injection h1 with h1
  injection h1 with hb ho _
  subst hb; subst ho
  obtain ⟨c0, c1⟩ := h3 j hj
  intro i v hv
  rcases i with _ | _ | i
  · simp [numC] at hv; subst hv; exact c0
  · simp [numC] at hv; subst hv; exact c1
  · simp [numC] at hv
/-- A slice of runs, its room too. -/
def NuR (w : World) (B : Nat) (A : Option Addr) (n c : Nat) (l : List (Nat × Nat)) : Prop := n = l.length ∧ RdN w B A l ∧ (A = none → c = 0) ∧ n ≤ c ∧ c ≤ maxLen
theorem NuR.below {w w' : World} {B B' n c : Nat} {A : Option Addr} {l : List (Nat × Nat)} (h : NuR w B A n c l) (hb : Below B' w w') (hB : B ≤ B') : NuR w' B A n c l := ⟨h.1, h.2.1.below hb hB, h.2.2⟩
theorem NuR.more {w : World} {B B' n c : Nat} {A : Option Addr} {l : List (Nat × Nat)} (h : NuR w B A n c l) (hB : B ≤ B') : NuR w B' A n c l := ⟨h.1, h.2.1.more hB, h.2.2⟩
theorem NuR.nil (w : World) (B : Nat) : NuR w B none 0 0 [] := ⟨rfl, RdN.nil w B none, fun _ => rfl, Nat.le_refl _, by unfold maxLen; omega⟩
/-- A row of the call's own stays where all that was there does. -/
theorem own_keepG {w w' : World} {base : Nat} {e : TypeId} {sz : Nat} {v : Value} {n : Nat} {xs : List Value} (h : w.ownsRow base e sz v n xs) (hb : Below w.heap.size w w') : w'.ownsRow base e sz v n xs := by
  obtain ⟨h1, h2⟩ := h
  refine ⟨h1, ?_⟩
  rcases h2 with h2 | ⟨g, cap, cur, hv, hg, hh, r⟩
  · exact .inl h2
  · exact .inr ⟨g, cap, cur, hv, hg, (hb.block g (Array.getElem?_eq_some_iff.1 hh).1).trans hh, r⟩
end Go.Proofs.Ytjhljkhgjcckhaa

namespace Go.Proofs.Ytjhljkhgjcckhaa
open Go.RowKit
theorem step_call {ops : Array Oper} {o : Oper} {a : Act} {w : World} {K : Act → World → Prop} {Q : Exit → Act → World → Prop} {E : Prop} (hgd : o.guard = none) (f : FuncId) (xs : Array Operand) (ts : Array TypeId)
    (ho : o.op = .call { callee := .value (.func f), args := xs, argTypes := ts }) (eg : ∀ args w, (callFunc f args).run Try.prog w = .ok (.enter f args) w) (args : Array Value) (hx : xs.map a.eval = args) {R : Ending → World → Prop} (hc : Calls Try.prog f args w R)
    (h : ∀ e w', R e w' → ∃ v, e = .returned v ∧ K (a.put o.dst v) w') :
    if Region.wanted o (yielded ops a.tmps) = true then Oper.wp Try.prog o a w K Q else E := by
  have hw : Region.wanted o (yielded ops a.tmps) = true := by simp [Region.wanted, hgd]
  rw [if_pos hw]
  unfold Oper.wp
  have hrun : (execOp a.eval o).run Try.prog w = .ok (.enter f args) w := by
    simp [execOp, ho, resolve, invoke, hx, go_sem, eg, Deferred.ofValue]
  rw [hrun]
  refine hc.mono fun e w' hr => ?_
  obtain ⟨v, rfl, hk⟩ := h e w' hr
  exact hk
theorem box_set2 {w : World} {X : Nat} {x y p q : Value} (h0 : w.cell? ⟨X, 0, none⟩ = some x) (h1 : w.cell? ⟨X, 1, none⟩ = some y) :
    ((w.setCell ⟨X, 0, none⟩ p).setCell ⟨X, 1, none⟩ q).cell? ⟨X, 0, none⟩ = some p ∧ ((w.setCell ⟨X, 0, none⟩ p).setCell ⟨X, 1, none⟩ q).cell? ⟨X, 1, none⟩ = some q :=
  ⟨(World.cell?_setCell_other _ _ _ _ (by simp)).trans (World.cell?_setCell_same _ _ _ h0), World.cell?_setCell_same _ _ _ ((World.cell?_setCell_other _ _ _ _ (by simp)).trans h1)⟩
end Go.Proofs.Ytjhljkhgjcckhaa

namespace Go.Proofs.Ytjhljkhgjcckhaa
open Go.RowKit
theorem results_tmp4 {fn : Func} {t u v x : Tmp} (h : fn.results = #[.tmp t, .tmp u, .tmp v, .tmp x]) (tmps : Array Value) (P : Program) (w : World) :
    (results fn tmps).run P w = .ok (.tuple #[tmps.getD t undef, tmps.getD u undef, tmps.getD v undef, tmps.getD x undef]) w := by
  simp [results, h, go_sem]
/-- A table of n numbers, by value. -/
def tblL (T : Nat → Int) (n : Nat) : List Value := (List.range n).map fun i => .int .i64 (T i)
def tblA (T : Nat → Int) (n : Nat) : Array Value := (tblL T n).toArray
theorem tblA_size (T : Nat → Int) (n : Nat) : (tblA T n).size = n := by simp [tblA, tblL]
theorem tblL_length (T : Nat → Int) (n : Nat) : (tblL T n).length = n := by simp [tblL]
theorem tblA_one (T : Nat → Int) (n : Nat) : (tblA T n).all (·.oneCell') = true :=
  all_oneCell_toArray fun u hu => by
    unfold tblL at hu
    obtain ⟨i, _, rfl⟩ := List.mem_map.1 hu; rfl
theorem tblA_get (T : Nat → Int) (n i : Nat) (h : i < n) : (tblA T n)[i]? = some (.int .i64 (T i)) := by simp [tblA, tblL, h]
theorem tbl_ext {T T' : Nat → Int} {n : Nat} (h : ∀ i, i < n → T i = T' i) : tblA T n = tblA T' n := by
  unfold tblA tblL
  congr 1
  exact List.map_congr_left fun i hi => by rw [h i (List.mem_range.1 hi)]
theorem tbl_set (T : Nat → Int) (n i : Nat) (x : Int) : (tblA T n).setIfInBounds i (.int .i64 x) = tblA (fun k => if k = i then x else T k) n := by
  apply Array.ext_getElem?
  intro k
  rw [Array.getElem?_setIfInBounds, tblA_size]
  rcases Nat.lt_or_ge k n with h | h
  · rw [tblA_get _ _ _ h]
    by_cases e : i = k
    · subst e; rw [if_pos rfl, if_pos h, tblA_get _ _ _ h, if_pos rfl]
    · rw [if_neg e, tblA_get _ _ _ h, if_neg (fun g : k = i => e g.symm)]
  · have h1 : (tblA T n)[k]? = none := Array.getElem?_eq_none (by rw [tblA_size]; exact h)
    have h2 : (tblA (fun k => if k = i then x else T k) n)[k]? = none := Array.getElem?_eq_none (by rw [tblA_size]; exact h)
    rw [h1, h2]
    by_cases e : i = k
    · subst e; rw [if_pos rfl, if_neg (by omega)]
    · rw [if_neg e]
theorem tbl_cell {w : World} {g : Nat} {T : Nat → Int} {n : Nat} {t : TypeId} (hg : w.heap[g]? = some (.cells (tblA T n) t (0, 0))) {i : Nat} (h : i < n) : w.cell? ⟨g, i, none⟩ = some (.int .i64 (T i)) :=
  (cell_of_row w g _ _ _ (0, 0) hg).trans (tblA_get T n i h)
end Go.Proofs.Ytjhljkhgjcckhaa

namespace Go.Proofs.Ytjhljkhgjcckhaa
open Go.RowKit
theorem below_row9 {B : Nat} {a w : World} (h : Below B a w) {g : Nat} (hp : B ≤ g) (cs : Array Value) : Below B a (w.setRow g cs) :=
  ⟨h.os, h.tape, h.output, by rw [size_setRow]; exact h.size, fun k hk => (setRow_other w g k cs (by omega)).trans (h.block k hk)⟩
/-- A variable that was just made, and what is stored into it. -/
def mkV (w : World) (z cs : Array Value) (t : TypeId) : World := (w.alloc (.cells z t)).setRow w.heap.size cs
theorem mkV_row (w : World) (z cs : Array Value) (t : TypeId) : (mkV w z cs t).heap[w.heap.size]? = some (.cells cs t (0, 0)) := setRow_heap _ _ _ _ _ _ (heap_alloc_new w _)
theorem mkV_below (w : World) (z cs : Array Value) (t : TypeId) : Below w.heap.size w (mkV w z cs t) := below_row9 ((Below.refl _ _).alloc (Nat.le_refl _) _) (Nat.le_refl _) cs
end Go.Proofs.Ytjhljkhgjcckhaa

namespace Go.Proofs.Ytjhljkhgjcckhaa
open Go.RowKit
theorem decN {p : Prop} [Decidable p] (h : ¬ p) : decide p = false := by simp [h]
theorem decY {p : Prop} [Decidable p] (h : p) : decide p = true := by simp [h]
def p2N (k : Nat) : Nat := 2 ^ k
end Go.Proofs.Ytjhljkhgjcckhaa

namespace Go.Proofs.Ytjhljkhgjcckhaa
open Go.RowKit
theorem infoOrd : (Try.prog.info? 45).map (fun i => (i.zero, i.size)) = some (some (.agg (tblA (fun _ => 0) 19)), 19) := by kernel_rfl
theorem szO19 (T : Nat → Int) : (Try.prog.info? 45).map (·.size) = some (tblA T 19).size := by rw [tblA_size]; kernel_rfl
theorem flatOrd : (([16, 17, 18, 0, 8, 7, 9, 6, 10, 5, 11, 4, 12, 3, 13, 2, 14, 1, 15] : List Int).map (Value.int .i64)).toArray = tblA (fun i => (ordN i : Int)) 19 := by kernel_rfl
end Go.Proofs.Ytjhljkhgjcckhaa

namespace Go.Proofs.Ytjhljkhgjcckhaa
open Go.RowKit
/-- Each of the first n operations waits for earlier ones alone, and none is guarded. -/
def lowB (l : List Oper) (n : Nat) : Bool := (List.range n).all fun i => match l[i]? with
  | some o => o.guard.isNone && o.after.all fun e => !Region.binds .any e || decide (e.on < i)
  | none => false
def doneA (n g : Nat) : Array Bool := (List.replicate n true ++ List.replicate g false).toArray
/-- What part of the first n operations stands behind the first m waits for is waited for by the n-th, in steps. -/
def sinkF (l : List Oper) (m n : Nat) : Bool := (List.range n).all fun i => decide (i < m) || (List.range (n + 1)).any fun j => decide (i < j) && Region.waitsFor .any l.toArray j i
def splitB (l : List Oper) (m n : Nat) : Bool := Region.noSelect l.toArray && Region.noSelect (l.take n).toArray && Region.lexFrom .any (l.take n).toArray (n - m) m (doneA m (n - m)) && decide (n < l.length) && sinkF l m n && Region.chainB .any l.toArray n && lowB l n && Region.seqB .any l.toArray (l.length - n) n (doneA n (l.length - n))
/-- The last part waits as long as one of the first has not come up. -/
theorem tail_late {l : List Oper} {m n : Nat} {listed : Array Bool} (hs : sinkF l m n = true) (hc : Region.chainB .any l.toArray n = true) (hn : n < l.length) (inv : HeadInv .any l.toArray n listed) (hm : ∀ i, i < m → listed.getD i false = true) {i : Nat} (hi : i < n) (hu : listed.getD i true = false) :
    ∀ t, n ≤ t → t ∉ Region.ready .any l.toArray listed := by
  have hsz : listed.size = l.length := by rw [inv.size]; simp
  -- one that waits, of those up to the n-th, is not ready
  have key : ∀ (d i : Nat), d = n - i → i ≤ n → listed.getD i true = false → n ∈ Region.ready .any l.toArray listed → i = n := by
    intro d
    induction d using Nat.strongRecOn with
    | _ d ih =>
      intro i hd hi hu hr
      rcases Nat.eq_or_lt_of_le hi with e | hi
      · exact e
      · exfalso
        have hmi : ¬ i < m := fun h => by have := hm i h; rw [getD_both hu] at this; cases this
        have h1 := List.all_eq_true.1 hs i (List.mem_range.2 hi)
        simp only [Bool.or_eq_true, decide_eq_true_eq] at h1
        rcases h1 with h1 | h1
        · exact hmi h1
        · obtain ⟨j, hj, hj2⟩ := List.any_eq_true.1 h1
          simp only [Bool.and_eq_true, decide_eq_true_eq] at hj2
          obtain ⟨oj, hoj, e, he, hb, hon⟩ := Region.waitsFor_spec hj2.2
          have hjn : j ≤ n := by have := List.mem_range.1 hj; omega
          cases hl : listed.getD j false with
          | true =>
            have h2 := inv.closed j oj hoj hl e he hb
            rw [hon, getD_both hu] at h2; cases h2
          | false =>
            have hjt := ih (n - j) (by omega) j rfl hjn (getD_in (by omega) hl) hr
            subst hjt
            obtain ⟨_, ot, hot, hall⟩ := mem_ready.1 hr
            rw [hoj] at hot; cases hot
            have h2 := hall e he hb
            rw [hon, getD_both hu] at h2; cases h2
  intro t ht hr
  by_cases htn : t = n
  · subst htn
    have := key (t - i) i rfl (by omega) hu hr
    omega
  · obtain ⟨_, ot, hot, hall⟩ := mem_ready.1 hr
    have htl : t < l.length := by have := (Array.getElem?_eq_some_iff.1 hot).1; simpa using this
    have h1 := List.all_eq_true.1 hc t (List.mem_range.2 (by simpa using htl))
    simp only [Bool.or_eq_true, decide_eq_true_eq] at h1
    rcases h1 with h1 | h1
    · omega
    · obtain ⟨o', ho', e, he, hb, hon⟩ := Region.waitsFor_spec h1
      rw [hot] at ho'; cases ho'
      have h2 := hall e he hb
      rw [hon, getD_both (inv.tail (t - 1) (by omega) (by simp; omega))] at h2; cases h2
theorem lowB_spec {l : List Oper} {n i : Nat} (h : lowB l n = true) (hi : i < n) : ∃ o, l[i]? = some o ∧ o.guard = none ∧ ∀ e ∈ o.after, Region.binds .any e = true → e.on < i := by
  have h1 := List.all_eq_true.1 h i (List.mem_range.2 hi)
  split at h1
  · rename_i o ho
    simp only [Bool.and_eq_true] at h1
    refine ⟨o, ho, by simpa using h1.1, fun e he hb => ?_⟩
    have h2 := Array.all_eq_true_iff_forall_mem.1 h1.2 e he
    simp only [hb, Bool.not_true, Bool.false_or, decide_eq_true_eq] at h2
    exact h2
  · cases h1
theorem wanted_free {o : Oper} (h : o.guard = none) (y : Nat → Option Bool) : Region.wanted o y = true := by simp [Region.wanted, h]
theorem split_done {n g : Nat} {listed : Array Bool} (hsz : listed.size = n + g) (h1 : ∀ i, i < n → listed.getD i true = true) (h2 : ∀ t, n ≤ t → t < n + g → listed.getD t true = false) : listed = doneA n g := by
  apply Array.ext_getElem?
  intro i
  unfold doneA
  rcases Nat.lt_or_ge i n with h | h
  · have := h1 i h
    have hs : i < listed.size := by omega
    have e : listed[i]? = some true := by
      rw [Array.getElem?_eq_getElem hs]
      simp [hs] at this
      rw [this]
    rw [e, List.getElem?_toArray, List.getElem?_append_left (by simpa using h), List.getElem?_replicate, if_pos h]
  · rcases Nat.lt_or_ge i (n + g) with h' | h'
    · have := h2 i h h'
      have hs : i < listed.size := by omega
      have e : listed[i]? = some false := by
        rw [Array.getElem?_eq_getElem hs]
        simp [hs] at this
        rw [this]
      rw [e, List.getElem?_toArray, List.getElem?_append_right (by simpa using h), List.length_replicate, List.getElem?_replicate, if_pos (by omega)]
    · rw [Array.getElem?_eq_none (by omega), List.getElem?_toArray, List.getElem?_eq_none (by simp; omega)]
/-- The two parts, whatever order is picked from here on; s are those of the first part that have not come up. -/
theorem split_any {P : Program} {C : World → Prop} {Q : Exit → Act → World → Prop} {l : List Oper} {m n : Nat} (hn : n < l.length) (hs : sinkF l m n = true) (hc : Region.chainB .any l.toArray n = true) (hlow : lowB l n = true)
    (hseq : Region.seqB .any l.toArray (l.length - n) n (doneA n (l.length - n)) = true) :
    ∀ (f : Nat) (s : List Nat) (listed lh : Array Bool) (a : Act) (w : World), s.length = f → s.Nodup → (∀ i, i ∈ s ↔ i < n ∧ listed.getD i true = false) → HeadInv .any l.toArray n listed → (∀ i, i < m → listed.getD i false = true) → (∀ i, i < n → lh.getD i true = listed.getD i true ∧ lh.getD i false = listed.getD i false) → C w →
      wpAnyQ P .any (l.take n).toArray C (fun a' => ∀ w', C w' → wpList P l.toArray Q (l.drop n) a' w') f lh a → wpAny P .any l.toArray Q (f + (l.length - n)) listed a w
  | 0, s, listed, lh, a, w, hf, _, hmem, inv, _, _, hw, h => by
    have hs0 : s = [] := List.length_eq_zero_iff.1 hf
    subst hs0
    have h1 : ∀ i, i < n → listed.getD i true = true := fun i hi => by
      cases e : listed.getD i true with
      | true => rfl
      | false => exact absurd ((hmem i).2 ⟨hi, e⟩) (by simp)
    have hsz := inv.size
    have he := split_done (n := n) (g := l.length - n) (listed := listed) (by rw [hsz]; simp; omega) h1 (fun t ht ht2 => inv.tail t ht (by simp; omega))
    subst he
    have h3 := wpAny_of_seq (P := P) (md := .any) (Q' := Q) (l.drop n) n (doneA n (l.length - n)) a w (fun j => by simp [List.getElem?_drop]) (by rw [List.length_drop]; exact hseq) (h.2 w hw)
    rw [List.length_drop] at h3
    rw [Nat.zero_add]; exact h3
  | f + 1, s, listed, lh, a, w, hf, hnd, hmem, inv, hmm, hlh, hw, h => by
    rw [show f + 1 + (l.length - n) = (f + (l.length - n)) + 1 by omega]
    obtain ⟨x, hx⟩ : ∃ x, x ∈ s := List.exists_mem_of_length_pos (by omega)
    obtain ⟨hxn, hxu⟩ := (hmem x).1 hx
    have hready : ∀ i, i ∈ Region.ready .any l.toArray listed → i < n := fun i hi => by
      rcases Nat.lt_or_ge i n with g | g
      · exact g
      · exact absurd hi (tail_late hs hc hn inv hmm hxn hxu i g)
    have hhead : ∀ i, i < n → (i ∈ Region.ready .any l.toArray listed ↔ i ∈ Region.ready .any (l.take n).toArray lh) := fun i hi => by
      obtain ⟨o, ho, hg, hlo⟩ := lowB_spec hlow hi
      rw [mem_ready, mem_ready]
      have e1 : l.toArray[i]? = some o := by simpa using ho
      have e2 : (l.take n).toArray[i]? = some o := by simp [hi, ho]
      rw [e1, e2, (hlh i hi).1]
      constructor
      · rintro ⟨h0, o', ho', hall⟩
        cases ho'
        exact ⟨h0, o, rfl, fun e he hb => by rw [(hlh e.on (by have := hlo e he hb; omega)).2]; exact hall e he hb⟩
      · rintro ⟨h0, o', ho', hall⟩
        cases ho'
        exact ⟨h0, o, rfl, fun e he hb => by have := hall e he hb; rwa [(hlh e.on (by have := hlo e he hb; omega)).2] at this⟩
    refine ⟨fun h0 => ?_, fun i hi => ?_⟩
    · exfalso
      -- the least one that has not come up is ready
      have hleast : ∀ (d y : Nat), y = d → y < n → listed.getD y true = false → ∃ z, z ∈ Region.ready .any l.toArray listed := by
        intro d
        induction d using Nat.strongRecOn with
        | _ d ih =>
          intro y hy hyn hyu
          obtain ⟨o, ho, _, hlo⟩ := lowB_spec hlow hyn
          by_cases hall : ∀ e ∈ o.after, Region.binds .any e = true → listed.getD e.on false = true
          · exact ⟨y, mem_ready.2 ⟨hyu, o, by simpa using ho, hall⟩⟩
          · have hex : ∃ e, e ∈ o.after ∧ Region.binds .any e = true ∧ listed.getD e.on false ≠ true := by
              apply Classical.byContradiction
              intro hno
              exact hall fun e he hb => Classical.byContradiction fun hne => hno ⟨e, he, hb, hne⟩
            obtain ⟨e, he, hb, hne⟩ := hex
            have hlt := hlo e he hb
            have hsz := inv.size
            refine ih e.on (by omega) e.on rfl (by omega) (getD_in (by rw [hsz]; simp; omega) (by simpa using hne))
      obtain ⟨z, hz⟩ := hleast x x rfl hxn hxu
      rw [h0] at hz; cases hz
    · have hin := hready i hi
      have h1 := h.2 i ((hhead i hin).1 hi)
      obtain ⟨o, ho, hg, _⟩ := lowB_spec hlow hin
      have e1 : l.toArray[i]? = some o := by simpa using ho
      have e2 : (l.take n).toArray[i]? = some o := by simp [hin, ho]
      have hiu := (mem_ready.1 hi).1
      have his : i ∈ s := (hmem i).2 ⟨hin, hiu⟩
      unfold wpOp
      simp only [e1]
      rw [if_pos (wanted_free hg _)]
      unfold qOp at h1
      simp only [e2] at h1
      rw [if_pos (wanted_free hg _)] at h1
      refine .inl (Oper.wp_of_quiet hw (fun a' w' hw' hk => ?_) h1)
      refine split_any hn hs hc hlow hseq f (s.erase i) (listed.setIfInBounds i true) (lh.setIfInBounds i true) a' w' (by rw [List.length_erase_of_mem his]; omega) (hnd.erase i) (fun j => ?_) (inv.set hi hin) (fun j hj => getD_set_true (hmm j hj)) (fun j hj => ?_) hw' hk
      · rw [hnd.mem_erase_iff]
        by_cases hji : j = i
        · subst hji
          have hsz := inv.size
          have hlt : j < listed.size := by rw [hsz]; simp; omega
          constructor
          · intro hh; exact absurd rfl hh.1
          · rintro ⟨_, hh⟩; simp [hlt] at hh
        · rw [getD_set_ne true (Ne.symm hji), hmem j]
          constructor
          · intro hh; exact hh.2
          · intro hh; exact ⟨hji, hh⟩
      · by_cases hji : j = i
        · subst hji
          have hsz := inv.size
          have hlt : j < listed.size := by rw [hsz]; simp; omega
          have hlt2 : j < lh.size := by
            rcases Nat.lt_or_ge j lh.size with g | g
            · exact g
            · have := (hlh j hj).1
              rw [hiu] at this
              simp [Array.getElem?_eq_none g] at this
          simp [hlt, hlt2]
        · rw [getD_set_ne true (Ne.symm hji), getD_set_ne true (Ne.symm hji), getD_set_ne false (Ne.symm hji), getD_set_ne false (Ne.symm hji)]
          exact hlh j hj
theorem doneA_get (n g i : Nat) (d : Bool) : (doneA n g).getD i d = if i < n then true else if i < n + g then false else d := by
  unfold doneA
  rcases Nat.lt_or_ge i n with h | h
  · rw [if_pos h]
    have e : (List.replicate n true ++ List.replicate g false).toArray[i]? = some true := by
      rw [List.getElem?_toArray, List.getElem?_append_left (by simpa using h), List.getElem?_replicate, if_pos h]
    rw [Array.getD_eq_getD_getElem?, e]; rfl
  · rw [if_neg (by omega)]
    rcases Nat.lt_or_ge i (n + g) with h' | h'
    · rw [if_pos h']
      have e : (List.replicate n true ++ List.replicate g false).toArray[i]? = some false := by
        rw [List.getElem?_toArray, List.getElem?_append_right (by simpa using h), List.length_replicate, List.getElem?_replicate, if_pos (by omega)]
      rw [Array.getD_eq_getD_getElem?, e]; rfl
    · rw [if_neg (by omega)]
      have e : (List.replicate n true ++ List.replicate g false).toArray[i]? = none := by
        rw [List.getElem?_toArray, List.getElem?_eq_none (by simp; omega)]
      rw [Array.getD_eq_getD_getElem?, e]; rfl
/-- Both parts, the first m operations being done. -/
theorem split_from {P : Program} {C : World → Prop} {Q : Exit → Act → World → Prop} {l : List Oper} {m n : Nat} (hB : splitB l m n = true) (hmn : m ≤ n) (hlow0 : ∀ j oj, l[j]? = some oj → j < m → ∀ e ∈ oj.after, Region.binds .any e = true → e.on < m) {a : Act} {w : World} (hC : C w)
    (h : wpQuiet P (l.take n).toArray C (fun a' => ∀ w', C w' → wpList P l.toArray Q (l.drop n) a' w') ((l.take n).drop m) a) : wpAny P .any l.toArray Q (l.length - m) (doneA m (l.length - m)) a w := by
  simp only [splitB, Bool.and_eq_true, decide_eq_true_eq] at hB
  obtain ⟨⟨⟨⟨⟨⟨⟨_, hsel⟩, hlex⟩, hn⟩, hs⟩, hc⟩, hlow⟩, hseq⟩ := hB
  have htl : ((l.take n).drop m).length = n - m := by simp; omega
  have hq := wpAnyQ_lex (C := C) (md := .any) hsel ((l.take n).drop m) m (doneA m (n - m)) a (by simp) (by rw [htl]; exact hlex) h
  rw [htl] at hq
  have hinv : HeadInv .any l.toArray n (doneA m (l.length - m)) := by
    refine ⟨by simp [doneA]; omega, fun j oj hj hl e he hb => ?_, fun t ht ht2 => ?_⟩
    · rw [doneA_get] at hl
      have hjm : j < m := by
        rcases Nat.lt_or_ge j m with g | g
        · exact g
        · rw [if_neg (by omega)] at hl; split at hl <;> cases hl
      rw [doneA_get, if_pos (hlow0 j oj (by simpa using hj) hjm e he hb)]
    · rw [doneA_get, if_neg (by omega), if_pos (by simp at ht2; omega)]
  have := split_any (Q := Q) (m := m) hn hs hc hlow hseq (n - m) ((List.range n).drop m) (doneA m (l.length - m)) (doneA m (n - m)) a w (by simp) (List.nodup_range.sublist (List.drop_sublist _ _)) (fun i => by
      rw [doneA_get]
      constructor
      · intro hi
        obtain ⟨k, hk, hk2⟩ := List.mem_iff_getElem.1 hi
        simp at hk hk2
        rw [if_neg (by omega), if_pos (by omega)]
        exact ⟨by omega, rfl⟩
      · rintro ⟨hi, hu⟩
        have hmi : m ≤ i := by
          rcases Nat.lt_or_ge i m with g | g
          · rw [if_pos g] at hu; cases hu
          · exact g
        exact List.mem_iff_getElem.2 ⟨i - m, by simp; omega, by simp; omega⟩) hinv (fun i hi => by rw [doneA_get, if_pos hi]) (fun i hi => by
      simp only [doneA_get]
      constructor
      · by_cases g : i < m
        · rw [if_pos g, if_pos g]
        · rw [if_neg g, if_neg g, if_pos (by omega), if_pos (by omega)]
      · by_cases g : i < m
        · rw [if_pos g, if_pos g]
        · rw [if_neg g, if_neg g, if_pos (by omega), if_pos (by omega)]) hC hq
  rw [show n - m + (l.length - n) = l.length - m by omega] at this
  exact this
/-- A literal of a struct in a region that draws and only reads; its parts are the places ds (of the frame's). -/
theorem quiet_build {P : Program} {C : World → Prop} {K : Act → Prop} {a : Act} {o : Oper} (t : TypeId) (parts : Array (Nat × Operand)) (ho : o.op = .build t parts) (d : Option Tmp) (hd : o.dst = d) (cells : Array Value)
    (hf : P.built t (parts.map fun (i, x) => (i, a.eval x)).toList = some cells) (hk : K (a.put d (.agg cells))) : o.quiet P a C K := by
  subst hd
  exact ⟨_, fun w hw => by
    unfold Oper.quietAt execOp
    simp only [ho, Sem.run_bind, run_build w t _ cells hf, Result.andThen_ok]
    exact ⟨rfl, rfl⟩, hk⟩
/-- The same where the first operation is a copy that the part that writes alone looks at. -/
theorem wp_region_split1 {P : Program} {id : Nat} {Q : Exit → Act → World → Prop} {a : Act} {w : World} {o : Oper} {l : List Oper} (n : Nat) (C : World → Prop) (hm : P.follows .mixedOrders = true) (hB : splitB (o :: l) 1 (n + 1) = true) (hC : C w.drew)
    (x : Operand) (ho : o.op = .move x) (hg : o.guard = none) (ha : o.after = #[]) (hf : Region.free .any (o :: l).toArray (Array.replicate (l.length + 1) false) 0 = true) (hQ : ∀ c a' w', Q (.panic c) (a'.put o.dst (a.eval x)) w' → Q (.panic c) a' w')
    (h : wpQuiet P ((o :: l).take (n + 1)).toArray C (fun a' => ∀ w', C w' → wpList P (o :: l).toArray Q (l.drop n) a' w') (l.take n) (a.put o.dst (a.eval x))) : (Code.region id (o :: l).toArray true).wp P Q a w := by
  refine wp_region_any hm ?_
  have hB' := hB
  simp only [splitB, Bool.and_eq_true, decide_eq_true_eq] at hB'
  obtain ⟨⟨⟨⟨⟨⟨⟨hsel, _⟩, _⟩, _⟩, _⟩, _⟩, _⟩, _⟩ := hB'
  have h1 := split_from (Q := Q) (a := a.put o.dst (a.eval x)) (w := w.drew) hB (by omega) (fun j oj hj hj1 e he hb => by
    obtain rfl : j = 0 := by omega
    have : oj = o := by simpa using hj.symm
    rw [this, ha] at he
    simp at he) hC (by simpa using h)
  have e1 : (o :: l).toArray.size = l.length + 1 := by simp
  rw [e1]
  refine wpAny_take (i := 0) (oi := o) (v := a.eval x) (by simp) hsel hf ?_ hQ (.inl ⟨by simp [Region.wanted, hg], fun w' => by simp [execOp, ho]⟩) ?_
  · have : 0 ∈ Region.ready .any (o :: l).toArray (Array.replicate (l.length + 1) false) := mem_ready.2 ⟨by simp, o, by simp, fun e he => by rw [ha] at he; simp at he⟩
    simpa using this
  · have e2 : (Array.replicate (l.length + 1) false).setIfInBounds 0 true = doneA 1 ((o :: l).length - 1) := by
      apply Array.ext_getElem?
      intro i
      unfold doneA
      rcases i with _ | i
      · simp
      · simp [Array.getElem?_replicate, List.getElem?_replicate]
    rw [e2]
    exact h1
theorem wp_split_after1 {P : Program} {id : Nat} {Q : Exit → Act → World → Prop} {a : Act} {w : World} {o : Oper} {l : List Oper} (n m : Nat) (U : World) (hU : Below m U w) (hm : P.follows .mixedOrders = true) (hB : splitB (o :: l) 1 (n + 1) = true)
    (x : Operand) (v : Value) (hv : a.eval x = v) (d : Option Tmp) (hd : o.dst = d) (ho : o.op = .move x) (hg : o.guard = none) (ha : o.after = #[]) (hf : Region.free .any (o :: l).toArray (Array.replicate (l.length + 1) false) 0 = true) (hQ : ∀ c a' w', Q (.panic c) (a'.put d v) w' → Q (.panic c) a' w')
    (h : wpQuiet P ((o :: l).take (n + 1)).toArray (fun V => ∃ p : After m U, V = p.w) (fun a' => ∀ V, (∃ p : After m U, V = p.w) → wpList P (o :: l).toArray Q (l.drop n) a' V) (l.take n) (a.put d v)) : (Code.region id (o :: l).toArray true).wp P Q a w := by
  subst hv; subst hd
  exact wp_region_split1 n _ hm hB ⟨⟨_, hU.drew⟩, rfl⟩ x ho hg ha hf hQ h
end Go.Proofs.Ytjhljkhgjcckhaa

namespace Go.Proofs.Ytjhljkhgjcckhaa
open Go.RowKit Go.ChangeShapes Go.WideShapes Go.ChangeAt Go.Joins
def tok0 : Tok := ⟨0, 0, 0⟩
def tokC (t : Tok) : List Value := [.int .u8 (t.x : Int), .int .i64 t.d, .int .i64 t.n]
def toksL : List Tok → List Value
  | [] => []
  | t :: l => tokC t ++ toksL l
theorem toksL_length : ∀ l, (toksL l).length = l.length * 3
  | [] => rfl
  | t :: l => by simp only [toksL, List.length_append, List.length_cons, toksL_length l]; simp [tokC]; omega
theorem toksL_get : ∀ (l : List Tok) (j i : Nat), j < l.length → i < 3 → (toksL l)[j * 3 + i]? = (tokC (l.getD j tok0))[i]?
  | [], j, i, h, _ => absurd h (by simp)
  | t :: l, 0, i, _, hi => by
    simp only [toksL, Nat.zero_mul, Nat.zero_add]
    rw [List.getElem?_append_left (by simpa [tokC] using hi)]
    rfl
  | t :: l, j + 1, i, h, hi => by
    simp only [toksL]
    rw [List.getElem?_append_right (by simp [tokC]; omega)]
    have e : (j + 1) * 3 + i - (tokC t).length = j * 3 + i := by simp [tokC]; omega
    rw [e, toksL_get l j i (by simpa using h) hi]
    rfl
theorem szTok : (Try.prog.info? 29).map (·.size) = some 3 := by kernel_rfl
def RdT (w : World) (B : Nat) (A : Option Addr) (l : List Tok) : Prop := SrcL w B 3 A l.length (toksL l)
theorem RdT.below {w w' : World} {B B' : Nat} {A : Option Addr} {l : List Tok} (h : RdT w B A l) (hb : Below B' w w') (hB : B ≤ B') : RdT w' B A l := SrcL.below h hb hB
theorem RdT.more {w : World} {B B' : Nat} {A : Option Addr} {l : List Tok} (h : RdT w B A l) (hB : B ≤ B') : RdT w B' A l := SrcL.more h hB
theorem RdT.nil (w : World) (B : Nat) (A : Option Addr) : RdT w B A [] := SrcL.none_ w B 3 A
theorem RdT.of_own {w : World} {base c n : Nat} {A : Option Addr} {l : List Tok} (h : w.ownsRow base 29 3 (.slice A n c) n (toksL l)) : n = l.length ∧ RdT w w.heap.size A l := by
  have h1 := SrcL.of_own h
  have h2 := h1.1
  rw [toksL_length] at h2
  obtain rfl : n = l.length := by omega
  exact ⟨rfl, h1⟩
theorem RdT.at {w : World} {B : Nat} {A : Option Addr} {l : List Tok} (h : RdT w B A l) {k : Nat} (hk : k < l.length) : ∃ b o, A = some ⟨b, o, none⟩ ∧ b < B ∧ ∀ j, j < l.length →
    w.cell? ⟨b, o + j * 3, none⟩ = some (.int .u8 ((l.getD j tok0).x : Int)) ∧ w.cell? ⟨b, o + j * 3 + 1, none⟩ = some (.int .i64 (l.getD j tok0).d) ∧ w.cell? ⟨b, o + j * 3 + 2, none⟩ = some (.int .i64 (l.getD j tok0).n) := by
  obtain ⟨b, o, h1, h2, h3⟩ := h.2 (by omega)
  refine ⟨b, o, h1, h2, fun j hj => ⟨?_, ?_, ?_⟩⟩
  · have := h3 (j * 3 + 0) _ ((toksL_get l j 0 hj (by omega)).trans rfl)
    simpa using this
  · have := h3 (j * 3 + 1) _ ((toksL_get l j 1 hj (by omega)).trans rfl)
    rw [show o + j * 3 + 1 = o + (j * 3 + 1) by omega]; exact this
  · have := h3 (j * 3 + 2) _ ((toksL_get l j 2 hj (by omega)).trans rfl)
    rw [show o + j * 3 + 2 = o + (j * 3 + 2) by omega]; exact this
theorem RdT.range {w : World} {B : Nat} {A : Option Addr} {l : List Tok} (h : RdT w B A l) {b o : Nat} (hA : A = some ⟨b, o, none⟩) {j : Nat} (hj : j < l.length) : w.rangeAt b (o + j * 3) (tokC (l.getD j tok0)) := by
  obtain ⟨b', o', h1, _, h3⟩ := h.at hj
  rw [hA] at h1
  injection h1 with h1
  injection h1 with hb ho _
  subst hb; subst ho
  obtain ⟨c0, c1, c2⟩ := h3 j hj
  intro i v hv
  rcases i with _ | _ | _ | i
  · simp [tokC] at hv; subst hv; exact c0
  · simp [tokC] at hv; subst hv; exact c1
  · simp [tokC] at hv; subst hv; exact c2
  · simp [tokC] at hv
end Go.Proofs.Ytjhljkhgjcckhaa

namespace Go.Proofs.Ytjhljkhgjcckhaa
open Go.RowKit
theorem bitsT_take_le (l : List (Nat × Nat)) (i : Nat) : bitsT (l.take i) ≤ bitsT l := by
  have := bitsT_app (l.take i) (l.drop i)
  rw [List.take_append_drop] at this
  omega
end Go.Proofs.Ytjhljkhgjcckhaa

