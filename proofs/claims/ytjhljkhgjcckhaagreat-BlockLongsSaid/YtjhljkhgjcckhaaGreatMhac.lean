/-
  Layer 11 (block): numbers in memory, two cells each.
-/
import Derived.Deep.MidRow
import Derived.Laws.StructEq
import Derived.WalkKit
import Derived.ProofKit
import Derived.Lib.Hide
import Derived.Handy
import Derived.OpenShut
import Derived.Maps.AppendAt
import Derived.Laws.BytesArg
import Derived.Deep.AppendLies
import Derived.Deep.QuietTactic
import Derived.BigQuiet
import Derived.Laws.CopyOwn
import Derived.StillTailTactics
import Derived.Laws.Rows
import Derived.BigRegion
import Derived.Lib.AppendZeros
import Derived.LoopN
import Derived.Deep.SlicePairs
import Derived.Lib.SmallJoins
import Derived.Test.YtjhljkhgjcckhaaGreatMhaa
import Derived.Test.YtjhljkhgjcckhaaGreatMhab
namespace Go.Proofs.YtjhljkhgjcckhaaGreat
open Go.RowKit
def badM (l : List Int) (f : Nat → Nat) (most : Int) (k : Nat) : Bool := decide (∃ j, j < k ∧ (most < (f j : Int) ∨ (f j = 0 ∧ 0 < l.getD j 0)))
def mayB (l : List Int) (n : Nat) (f : Nat → Nat) (most : Int) : Bool := decide (n = l.length ∧ badM l f most n = false ∧ countN 15 f n ≤ 32768)
theorem badM_no {l : List Int} {f : Nat → Nat} {most : Int} {k : Nat} (h : ∀ j, j < k → ¬ (most < (f j : Int) ∨ (f j = 0 ∧ 0 < l.getD j 0))) : badM l f most k = false := decide_eq_false fun ⟨j, hj, h2⟩ => h j hj h2
theorem countN_scale {f : Nat → Nat} {L : Nat} (hL : L ≤ 15) : ∀ n, (∀ i, i < n → f i ≤ L) → countN 15 f n = countN L f n * 2 ^ (15 - L)
  | 0, _ => by simp [countN, sums]
  | n + 1, h => by
    have ih := countN_scale hL n (fun i hi => h i (by omega))
    have e1 : countN 15 f (n + 1) = countN 15 f n + if 0 < f n then 2 ^ (15 - f n) else 0 := rfl
    have e2 : countN L f (n + 1) = countN L f n + if 0 < f n then 2 ^ (L - f n) else 0 := rfl
    have hn := h n (by omega)
    rw [e1, e2, ih, Nat.add_mul]
    split
    · rw [← Nat.pow_add, show L - f n + (15 - L) = 15 - f n by omega]
    · rw [Nat.zero_mul]
theorem allN_count {f : Nat → Nat} : ∀ n, (∀ i, i < n → f i ≤ 15) → allN f n = countN 15 f n
  | 0, _ => rfl
  | n + 1, h => by
    have ih := allN_count n (fun i hi => h i (by omega))
    have e1 : countN 15 f (n + 1) = countN 15 f n + if 0 < f n then 2 ^ (15 - f n) else 0 := rfl
    have hn := h n (by omega)
    have hp : pt (f n) = 2 ^ (15 - f n) := by rw [pt_mul hn (Nat.le_refl 15), show pt 15 = 1 from rfl, Nat.one_mul]
    simp only [allN]
    rw [ih, e1, hp]
theorem usedN_items {F f : Nat → Nat} : ∀ n, (∀ i, i < n → (0 < f i ↔ 0 < F i)) → usedN f n = nI F n
  | 0, _ => rfl
  | n + 1, h => by
    have ih := usedN_items n (fun i hi => h i (by omega))
    have hn := h n (by omega)
    have e : nI F (n + 1) = nI F n + if 0 < F n then 1 else 0 := rfl
    simp only [usedN]
    rw [ih, e]
    by_cases g : 0 < F n
    · rw [if_pos g, if_pos (hn.2 g)]
    · rw [if_neg g, if_neg (fun x => g (hn.1 x))]
/-- What is told may be. -/
theorem out_may {l : List Int} {most : Int} (h : askE l most = 0) : mayB l l.length (outL l most) most = true ∧ checkE (outL l most) l.length most = 0 ∧ (∀ j, j < l.length → outL l most j = lenB (freqN l) l.length most.toNat j) := by
  obtain ⟨h1, h2, h3, h4, h5⟩ := ask_right h
  obtain ⟨L, rfl⟩ := Int.eq_ofNat_of_zero_le (show 0 ≤ most by omega)
  rw [Int.toNat_natCast] at h5
  have e : outL l (L : Int) = lenB (freqN l) l.length L := by funext j; unfold outL; rw [if_pos h, Int.toNat_natCast]
  rw [e]
  have hle : ∀ i, lenB (freqN l) l.length L i ≤ L := fun i => lenB_le (freqN l) (n := l.length) (L := L) (by omega) i
  have hz : ∀ i, freqN l i = 0 → lenB (freqN l) l.length L i = 0 := fun i hi => by unfold lenB; rw [if_pos hi]
  have hps : ∀ i, i < l.length → (0 < lenB (freqN l) l.length L i ↔ 0 < freqN l i) := fun i hi => by
    constructor
    · intro g
      rcases Nat.eq_zero_or_pos (freqN l i) with h0 | h0
      · rw [hz i h0] at g; omega
      · exact h0
    · intro g; exact (lenB_bd (F := freqN l) (by omega) h5 hi g).1
  have hc := build_count (F := freqN l) (n := l.length) (L := L) (by omega) h5
  have hsc := countN_scale (f := lenB (freqN l) l.length L) (L := L) (by omega) l.length (fun i _ => hle i)
  have hp : (2 : Nat) ^ L * 2 ^ (15 - L) = 32768 := by rw [← Nat.pow_add, show L + (15 - L) = 15 by omega]
  have hp1 : (2 : Nat) ^ (L - 1) * 2 ^ (15 - L) = 16384 := by rw [← Nat.pow_add, show L - 1 + (15 - L) = 14 by omega]
  have hall := allN_count (f := lenB (freqN l) l.length L) l.length (fun i _ => Nat.le_trans (hle i) (by omega))
  have hus := usedN_items (F := freqN l) (f := lenB (freqN l) l.length L) l.length hps
  have hcc : countN 15 (lenB (freqN l) l.length L) l.length = if 2 ≤ nI (freqN l) l.length then 32768 else if nI (freqN l) l.length = 1 then 16384 else 0 := by
    rw [hsc, hc]
    split
    · exact hp
    · split
      · exact hp1
      · exact Nat.zero_mul _
  refine ⟨?_, ?_, fun j _ => by rw [Int.toNat_natCast]⟩
  · refine decide_eq_true ⟨rfl, badM_no fun j hj g => ?_, by rw [hcc]; split <;> (try split) <;> omega⟩
    have h6 := hle j
    have h7 := hps j hj
    have hf : freqN l j = (l.getD j 0).toNat := rfl
    rcases g with g | ⟨g1, g2⟩
    · omega
    · omega
  · unfold checkE
    rw [if_neg (by omega), if_neg (by omega)]
    have hb : bigB (lenB (freqN l) l.length L) l.length (L : Int) = false := decide_eq_false fun ⟨j, _, hl⟩ => by have := hle j; omega
    rw [hb, if_neg (by decide), hall, hus, hcc]
    unfold endE
    by_cases g2 : 2 ≤ nI (freqN l) l.length
    · rw [if_pos g2, if_neg (by omega), if_pos (.inl rfl)]
    · rw [if_neg g2]
      by_cases g1 : nI (freqN l) l.length = 1
      · rw [if_pos g1, if_neg (by omega), if_pos (.inr (.inr ⟨g1, rfl⟩))]
      · rw [if_neg g1, if_neg (by omega), if_pos (.inr (.inl (by omega)))]
end Go.Proofs.YtjhljkhgjcckhaaGreat

namespace Go.Proofs.YtjhljkhgjcckhaaGreat
/-- How many of a list's first are x. -/
def leadN (x : Nat) : List Nat → Nat
  | [] => 0
  | y :: l => if y = x then leadN x l + 1 else 0
theorem leadN_le (x : Nat) : ∀ l, leadN x l ≤ l.length
  | [] => Nat.le_refl _
  | y :: l => by
    have := leadN_le x l
    simp only [leadN, List.length_cons]
    split <;> omega
theorem leadN_take (x : Nat) : ∀ l k, k ≤ leadN x l → l.take k = List.replicate k x
  | [], k, h => by simp [leadN] at h; subst h; rfl
  | y :: l, 0, _ => rfl
  | y :: l, k + 1, h => by
    simp only [leadN] at h
    by_cases e : y = x
    · rw [if_pos e] at h
      rw [List.take_succ_cons, List.replicate_succ, leadN_take x l k (by omega), e]
    · rw [if_neg e] at h; omega
/-- The run at a place, and how many lengths it is: prev is the length ahead. -/
def fstR (prev : Option Nat) (x : Nat) (n : Nat) : (Int × Int) × Nat :=
  if x = 0 ∧ 11 ≤ n then ((18, (min n 138 - 11 : Nat)), min n 138)
  else if x = 0 ∧ 3 ≤ n then ((17, (n - 3 : Nat)), n)
  else if x ≠ 0 ∧ prev = some x ∧ 3 ≤ n then ((16, (min n 6 - 3 : Nat)), min n 6)
  else ((((x : Nat) : Int), 0), 1)
def ofR : Nat → Option Nat → List Nat → List (Int × Int)
  | 0, _, _ => []
  | _ + 1, _, [] => []
  | d + 1, prev, x :: l => (fstR prev x (leadN x l + 1)).1 :: ofR d (some x) ((x :: l).drop (fstR prev x (leadN x l + 1)).2)
def bitsR (s : Int) : Nat := if s = 16 then 2 else if s = 17 then 3 else if s = 18 then 7 else 0
def timesR (s x : Int) : Nat := if s = 16 ∨ s = 17 then x.toNat + 3 else if s = 18 then x.toNat + 11 else 1
theorem fstR_spec (prev : Option Nat) (x n : Nat) (hx : x ≤ 15) (hn : 1 ≤ n) : 1 ≤ (fstR prev x n).2 ∧ (fstR prev x n).2 ≤ n ∧ timesR (fstR prev x n).1.1 (fstR prev x n).1.2 = (fstR prev x n).2 ∧
    ¬ ((fstR prev x n).1.1 < 0 ∨ 18 < (fstR prev x n).1.1 ∨ (fstR prev x n).1.2 < 0 ∨ (2 ^ bitsR (fstR prev x n).1.1 : Nat) ≤ (fstR prev x n).1.2) ∧
    ((fstR prev x n).1.1 = 16 → prev = some x) ∧ ((fstR prev x n).1.1 ≠ 16 → (if (fstR prev x n).1.1 < 16 then (fstR prev x n).1.1.toNat else 0) = x) := by
  unfold fstR
  by_cases h1 : x = 0 ∧ 11 ≤ n
  · rw [if_pos h1]
    simp only [timesR, bitsR]
    refine ⟨by omega, by omega, by simp; omega, by simp; omega, by simp, by simp; omega⟩
  · rw [if_neg h1]
    by_cases h2 : x = 0 ∧ 3 ≤ n
    · rw [if_pos h2]
      simp only [timesR, bitsR]
      refine ⟨by omega, by omega, by simp; omega, by simp; omega, by simp, by simp; omega⟩
    · rw [if_neg h2]
      by_cases h3 : x ≠ 0 ∧ prev = some x ∧ 3 ≤ n
      · rw [if_pos h3]
        simp only [timesR, bitsR]
        refine ⟨by omega, by omega, by simp; omega, by simp; omega, fun _ => h3.2.1, by simp⟩
      · rw [if_neg h3]
        simp only [timesR, bitsR]
        refine ⟨by omega, by omega, ?_, ?_, fun h => by omega, fun _ => ?_⟩
        · rw [if_neg (by omega), if_neg (by omega)]
        · rw [if_neg (by omega), if_neg (by omega), if_neg (by omega)]; simp; omega
        · rw [if_pos (by omega)]; omega
end Go.Proofs.YtjhljkhgjcckhaaGreat

namespace Go.Proofs.YtjhljkhgjcckhaaGreat
/-- The lengths from a place on. -/
def dropU (f : Nat → Nat) (n a : Nat) : List Nat := ((List.range n).map f).drop a
theorem dropU_cons {f : Nat → Nat} {n a : Nat} (h : a < n) : dropU f n a = f a :: dropU f n (a + 1) := by
  unfold dropU
  rw [List.drop_eq_getElem_cons (by simpa using h)]
  simp
theorem dropU_end {f : Nat → Nat} {n a : Nat} (h : n ≤ a) : dropU f n a = [] := List.drop_eq_nil_of_le (by simpa using h)
theorem dropU_length (f : Nat → Nat) (n a : Nat) : (dropU f n a).length = n - a := by simp [dropU]
theorem dropU_drop (f : Nat → Nat) (n a k : Nat) : (dropU f n a).drop k = dropU f n (a + k) := by unfold dropU; rw [List.drop_drop]
/-- How many from a place on are as the one there. -/
def ldsU (f : Nat → Nat) (n a : Nat) : Nat := leadN (f a) (dropU f n (a + 1)) + 1
theorem lead_go {f : Nat → Nat} {n a x : Nat} (h : a < n) (hx : f a = x) : leadN x (dropU f n a) = leadN x (dropU f n (a + 1)) + 1 := by
  rw [dropU_cons h]; simp only [leadN]; rw [if_pos hx]
theorem lead_stop {f : Nat → Nat} {n a x : Nat} (h : n ≤ a ∨ f a ≠ x) : leadN x (dropU f n a) = 0 := by
  rcases Nat.lt_or_ge a n with g | g
  · rw [dropU_cons g]; simp only [leadN]; rw [if_neg (by omega)]
  · rw [dropU_end g]; rfl
theorem lds_le {f : Nat → Nat} {n a : Nat} (h : a < n) : 1 ≤ ldsU f n a ∧ a + ldsU f n a ≤ n := by
  have := leadN_le (f a) (dropU f n (a + 1))
  rw [dropU_length] at this
  unfold ldsU; omega
theorem lds_same {f : Nat → Nat} {n a : Nat} (h : a < n) : ∀ i, i < ldsU f n a → f (a + i) = f a := by
  intro i hi
  have h1 := leadN_take (f a) (dropU f n a) (ldsU f n a) (by unfold ldsU; rw [lead_go h rfl]; exact Nat.le_refl _)
  have h2 := congrArg (fun l => l[i]?) h1
  simp only [List.getElem?_take, if_pos hi, List.getElem?_replicate] at h2
  have hl := (lds_le (f := f) h).2
  unfold dropU at h2
  rw [List.getElem?_drop] at h2
  simp [show a + i < n by omega] at h2
  exact h2
/-- The length ahead. -/
def prvU (f : Nat → Nat) (a : Nat) : Option Nat := if a = 0 then none else some (f (a - 1))
def fstU (f : Nat → Nat) (n a : Nat) : (Int × Int) × Nat := fstR (prvU f a) (f a) (ldsU f n a)
theorem ofR_fuel : ∀ d d' prev l, l.length ≤ d → l.length ≤ d' → (∀ x ∈ l, x ≤ 15) → ofR d prev l = ofR d' prev l
  | 0, d', prev, l, h, _, _ => by
    have : l = [] := List.length_eq_zero_iff.1 (by omega)
    subst this
    cases d' <;> rfl
  | d + 1, 0, prev, l, _, h, _ => by
    have : l = [] := List.length_eq_zero_iff.1 (by omega)
    subst this; rfl
  | d + 1, d' + 1, prev, [], _, _, _ => rfl
  | d + 1, d' + 1, prev, x :: l, h1, h2, h15 => by
    simp only [ofR]
    have hs := fstR_spec prev x (leadN x l + 1) (h15 x List.mem_cons_self) (by omega)
    simp only [List.length_cons] at h1 h2
    rw [ofR_fuel d d' (some x) _ (by rw [List.length_drop, List.length_cons]; omega) (by rw [List.length_drop, List.length_cons]; omega) (fun y hy => h15 y (List.mem_of_mem_drop hy))]
/-- The runs of lengths from a place on. -/
def ofU (f : Nat → Nat) (n a : Nat) : List (Int × Int) := ofR (n - a) (prvU f a) (dropU f n a)
theorem ofU_end {f : Nat → Nat} {n a : Nat} (h : n ≤ a) : ofU f n a = [] := by unfold ofU; rw [show n - a = 0 by omega]; rfl
theorem ofU_cons {f : Nat → Nat} {n a : Nat} (h : a < n) (h15 : ∀ i, i < n → f i ≤ 15) : ofU f n a = (fstU f n a).1 :: ofU f n (a + (fstU f n a).2) ∧ 1 ≤ (fstU f n a).2 ∧ a + (fstU f n a).2 ≤ n := by
  obtain ⟨g1, g2, _⟩ := fstR_spec (prvU f a) (f a) (ldsU f n a) (h15 a h) (lds_le (f := f) h).1
  have hl := (lds_le (f := f) h).2
  have e : fstR (prvU f a) (f a) (ldsU f n a) = fstU f n a := rfl
  rw [e] at g1 g2
  refine ⟨?_, g1, by omega⟩
  unfold ofU
  rw [show n - a = (n - (a + 1)) + 1 by omega, dropU_cons h]
  simp only [ofR]
  have e2 : fstR (prvU f a) (f a) (leadN (f a) (dropU f n (a + 1)) + 1) = fstU f n a := rfl
  rw [e2, ← dropU_cons h, dropU_drop]
  have hp : prvU f (a + (fstU f n a).2) = some (f a) := by
    unfold prvU
    rw [if_neg (by omega)]
    have := lds_same (f := f) h ((fstU f n a).2 - 1) (by omega)
    rw [show a + (fstU f n a).2 - 1 = a + ((fstU f n a).2 - 1) by omega, this]
  rw [hp, ofR_fuel (n - (a + 1)) (n - (a + (fstU f n a).2)) _ _ (by rw [dropU_length]; omega) (by rw [dropU_length]; omega)]
  intro x hx
  unfold dropU at hx
  have hx := List.mem_of_mem_drop hx
  rw [List.mem_map] at hx
  obtain ⟨i, hi, rfl⟩ := hx
  exact h15 i (List.mem_range.1 hi)
def sqE (f : Nat → Nat) (n : Nat) : Int := if 320 < n then 4 else if ∀ i, i < n → f i ≤ 15 then 0 else 2
def sqV (f : Nat → Nat) (n : Nat) : List (Int × Int) := if sqE f n = 0 then ofU f n 0 else []
def bitE (s : Int) : Int := if 0 ≤ s ∧ s ≤ 18 then 0 else 2
def bitV (s : Int) : Int := if 0 ≤ s ∧ s ≤ 18 then (bitsR s : Nat) else 0
end Go.Proofs.YtjhljkhgjcckhaaGreat

namespace Go.Proofs.YtjhljkhgjcckhaaGreat
/-- The last of the first k places whose least number is n at most. -/
def atN (T : Nat → Nat) (n : Nat) : Nat → Nat
  | 0 => 0
  | k + 1 => if T k ≤ n then k else atN T n k
theorem atN_spec {T : Nat → Nat} {n : Nat} (h0 : T 0 ≤ n) : ∀ k, 0 < k → atN T n k < k ∧ T (atN T n k) ≤ n ∧ ∀ j, atN T n k < j → j < k → n < T j
  | 0, h => absurd h (by omega)
  | k + 1, _ => by
    simp only [atN]
    by_cases h : T k ≤ n
    · rw [if_pos h]; exact ⟨by omega, h, fun j h1 h2 => by omega⟩
    · rw [if_neg h]
      rcases Nat.eq_zero_or_pos k with e | e
      · subst e; exact absurd h0 h
      · obtain ⟨h1, h2, h3⟩ := atN_spec h0 k e
        refine ⟨by omega, h2, fun j g1 g2 => ?_⟩
        rcases Nat.eq_or_lt_of_le (Nat.le_of_lt_succ g2) with e2 | e2
        · subst e2; omega
        · exact h3 j g1 e2
theorem atN_one {T : Nat → Nat} {n i k : Nat} (hk : i < k) (h1 : T i ≤ n) (h2 : ∀ j, i < j → j < k → n < T j) : atN T n k = i := by
  induction k with
  | zero => omega
  | succ k ih =>
    simp only [atN]
    rcases Nat.eq_or_lt_of_le (Nat.le_of_lt_succ hk) with e | e
    · subst e; rw [if_pos h1]
    · rw [if_neg (by have := h2 k e (by omega); omega)]
      exact ih e (fun j g1 g2 => h2 j g1 (by omega))
/-- A table whose numbers rise, by what the extra bits tell at most. -/
structure Rises (T X : Nat → Nat) (N hi : Nat) : Prop where
  pos : 0 < N
  up : ∀ i, i + 1 < N → T i < T (i + 1) ∧ T (i + 1) ≤ T i + 2 ^ X i
  last : T (N - 1) ≤ hi ∧ hi < T (N - 1) + 2 ^ X (N - 1)
theorem Rises.mono {T X : Nat → Nat} {N hi : Nat} (h : Rises T X N hi) {i : Nat} : ∀ d, i + d < N → T i + d ≤ T (i + d)
  | 0, _ => Nat.le_refl _
  | d + 1, hd => by
    have := h.mono (i := i) d (by omega)
    have := (h.up (i + d) (by omega)).1
    rw [Nat.add_assoc] at this
    omega
theorem Rises.lt {T X : Nat → Nat} {N hi : Nat} (h : Rises T X N hi) {i j : Nat} (hij : i < j) (hj : j < N) : T i < T j := by
  have := h.mono (i := i) (j - i) (by omega)
  rw [show i + (j - i) = j by omega] at this
  omega
theorem Rises.at {T X : Nat → Nat} {N hi n : Nat} (h : Rises T X N hi) (h0 : T 0 ≤ n) (hn : n ≤ hi) : atN T n N < N ∧ T (atN T n N) ≤ n ∧ n - T (atN T n N) < 2 ^ X (atN T n N) := by
  obtain ⟨h1, h2, h3⟩ := atN_spec h0 N h.pos
  refine ⟨h1, h2, ?_⟩
  rcases Nat.lt_or_ge (atN T n N + 1) N with g | g
  · have := h3 (atN T n N + 1) (by omega) g
    have := (h.up _ g).2
    omega
  · have e : atN T n N = N - 1 := by omega
    have := h.last.2
    rw [← e] at this
    omega
/-- A symbol and its extra tell a number whose they are. -/
theorem Rises.back {T X : Nat → Nat} {N hi i x : Nat} (h : Rises T X N hi) (hi1 : i < N) (hx : ∀ j, i + 1 = j → j < N → T i + x < T j) : atN T (T i + x) N = i := by
  refine atN_one hi1 (by omega) fun j h1 h2 => ?_
  rcases Nat.eq_or_lt_of_le (show i + 1 ≤ j by omega) with e | e
  · exact hx j e h2
  · have := hx (i + 1) rfl (by omega)
    have := h.lt e h2
    omega
theorem Rises.rise {T X : Nat → Nat} {N hi n m : Nat} (h : Rises T X N hi) (h0 : T 0 ≤ n) (hnm : n < m) : atN T n N ≤ atN T m N := by
  obtain ⟨h1, h2, h3⟩ := atN_spec h0 N h.pos
  obtain ⟨g1, g2, g3⟩ := atN_spec (show T 0 ≤ m by omega) N h.pos
  rcases Nat.lt_or_ge (atN T m N) (atN T n N) with e | e
  · have := g3 _ e h1; omega
  · exact e
/-! ### lengths and distances -/
def longT (i : Nat) : Nat := [3, 4, 5, 6, 7, 8, 9, 10, 11, 13, 15, 17, 19, 23, 27, 31, 35, 43, 51, 59, 67, 83, 99, 115, 131, 163, 195, 227, 258].getD i 0
def longX (i : Nat) : Nat := [0, 0, 0, 0, 0, 0, 0, 0, 1, 1, 1, 1, 2, 2, 2, 2, 3, 3, 3, 3, 4, 4, 4, 4, 5, 5, 5, 5, 0].getD i 0
def farT (i : Nat) : Nat := [1, 2, 3, 4, 5, 7, 9, 13, 17, 25, 33, 49, 65, 97, 129, 193, 257, 385, 513, 769, 1025, 1537, 2049, 3073, 4097, 6145, 8193, 12289, 16385, 24577].getD i 0
def farX (i : Nat) : Nat := [0, 0, 0, 0, 1, 1, 2, 2, 3, 3, 4, 4, 5, 5, 6, 6, 7, 7, 8, 8, 9, 9, 10, 10, 11, 11, 12, 12, 13, 13].getD i 0
theorem all_lt {P : Nat → Prop} [DecidablePred P] {n : Nat} (h : ((List.range n).all fun i => decide (P i)) = true) : ∀ i, i < n → P i := fun i hi => by
  have := List.all_eq_true.1 h i (List.mem_range.2 hi)
  exact of_decide_eq_true this
theorem longs_rise : Rises longT longX 29 258 where
  pos := by omega
  up := fun i hi => all_lt (P := fun i => longT i < longT (i + 1) ∧ longT (i + 1) ≤ longT i + 2 ^ longX i) (n := 28) (by decide +kernel) i (by omega)
  last := by decide
theorem fars_rise : Rises farT farX 30 32768 where
  pos := by omega
  up := fun i hi => all_lt (P := fun i => farT i < farT (i + 1) ∧ farT (i + 1) ≤ farT i + 2 ^ farX i) (n := 29) (by decide +kernel) i (by omega)
  last := by decide
theorem long_next : ∀ i, i < 28 → i ≠ 27 → longT (i + 1) = longT i + 2 ^ longX i := fun i hi hn =>
  all_lt (P := fun i => i ≠ 27 → longT (i + 1) = longT i + 2 ^ longX i) (n := 28) (by decide +kernel) i hi hn
theorem far_next : ∀ i, i < 29 → farT (i + 1) = farT i + 2 ^ farX i := fun i hi => all_lt (P := fun i => farT (i + 1) = farT i + 2 ^ farX i) (n := 29) (by decide +kernel) i hi
/-- What LongOf and FarOf tell is told back. -/
theorem long_back {i x : Nat} (hi : i < 29) (hx : x < 2 ^ longX i) (hn : ¬ (i = 27 ∧ x = 31)) : atN longT (longT i + x) 29 = i ∧ 3 ≤ longT i + x ∧ longT i + x ≤ 258 := by
  have h3 : 3 ≤ longT i ∧ longT i ≤ 258 := all_lt (P := fun i => 3 ≤ longT i ∧ longT i ≤ 258) (n := 29) (by decide +kernel) i hi
  have hnx : ∀ j, i + 1 = j → j < 29 → longT i + x < longT j := fun j e hj => by
    subst e
    by_cases h27 : i = 27
    · subst h27
      have e1 : longT 27 = 227 := rfl
      have e2 : longT (27 + 1) = 258 := rfl
      have e3 : (2 : Nat) ^ longX 27 = 32 := rfl
      omega
    · rw [long_next i (by omega) h27]; omega
  refine ⟨longs_rise.back hi hnx, by omega, ?_⟩
  rcases Nat.lt_or_ge (i + 1) 29 with g | g
  · have h1 := hnx (i + 1) rfl g
    have h2 : longT (i + 1) ≤ 258 := (all_lt (P := fun i => 3 ≤ longT i ∧ longT i ≤ 258) (n := 29) (by decide +kernel) (i + 1) g).2
    omega
  · obtain rfl : i = 28 := by omega
    have e1 : longT 28 = 258 := rfl
    have e3 : (2 : Nat) ^ longX 28 = 1 := rfl
    omega
theorem far_back {i x : Nat} (hi : i < 30) (hx : x < 2 ^ farX i) : atN farT (farT i + x) 30 = i ∧ 1 ≤ farT i + x ∧ farT i + x ≤ 32768 := by
  have h3 : 1 ≤ farT i ∧ farT i ≤ 32768 := all_lt (P := fun i => 1 ≤ farT i ∧ farT i ≤ 32768) (n := 30) (by decide +kernel) i hi
  have hnx : ∀ j, i + 1 = j → j < 30 → farT i + x < farT j := fun j e hj => by
    subst e
    rw [far_next i (by omega)]; omega
  refine ⟨fars_rise.back hi hnx, by omega, ?_⟩
  rcases Nat.lt_or_ge (i + 1) 30 with g | g
  · have h1 := hnx (i + 1) rfl g
    have h2 : farT (i + 1) ≤ 32768 := (all_lt (P := fun i => 1 ≤ farT i ∧ farT i ≤ 32768) (n := 30) (by decide +kernel) (i + 1) g).2
    omega
  · obtain rfl : i = 29 := by omega
    have e1 : farT 29 = 24577 := rfl
    have e3 : (2 : Nat) ^ farX 29 = 8192 := rfl
    omega
end Go.Proofs.YtjhljkhgjcckhaaGreat

namespace Go.Proofs.YtjhljkhgjcckhaaGreat
def lgI (n : Int) : Nat := atN longT n.toNat 29
def lgE (n : Int) : Int := if 3 ≤ n ∧ n ≤ 258 then 0 else 2
def lgS (n : Int) : Int := if 3 ≤ n ∧ n ≤ 258 then ((257 + lgI n : Nat) : Int) else 0
def lgB (n : Int) : Int := if 3 ≤ n ∧ n ≤ 258 then ((longX (lgI n) : Nat) : Int) else 0
def lgX (n : Int) : Int := if 3 ≤ n ∧ n ≤ 258 then ((n.toNat - longT (lgI n) : Nat) : Int) else 0
def lbE (s : Int) : Int := if 257 ≤ s ∧ s ≤ 285 then 0 else 90
def lbV (s : Int) : Int := if 257 ≤ s ∧ s ≤ 285 then ((longX (s - 257).toNat : Nat) : Int) else 0
def loE (s x : Int) : Int := if 257 ≤ s ∧ s ≤ 285 then (if x < 0 ∨ ((2 ^ longX (s - 257).toNat : Nat) : Int) ≤ x then 2 else if s = 284 ∧ x = 31 then 90 else 0) else 90
def loV (s x : Int) : Int := if loE s x = 0 then ((longT (s - 257).toNat : Nat) : Int) + x else 0
def frI (n : Int) : Nat := atN farT n.toNat 30
def frE (n : Int) : Int := if 1 ≤ n ∧ n ≤ 32768 then 0 else 2
def frS (n : Int) : Int := if 1 ≤ n ∧ n ≤ 32768 then ((frI n : Nat) : Int) else 0
def frB (n : Int) : Int := if 1 ≤ n ∧ n ≤ 32768 then ((farX (frI n) : Nat) : Int) else 0
def frX (n : Int) : Int := if 1 ≤ n ∧ n ≤ 32768 then ((n.toNat - farT (frI n) : Nat) : Int) else 0
def fbE (s : Int) : Int := if 0 ≤ s ∧ s ≤ 29 then 0 else 90
def fbV (s : Int) : Int := if 0 ≤ s ∧ s ≤ 29 then ((farX s.toNat : Nat) : Int) else 0
def foE (s x : Int) : Int := if 0 ≤ s ∧ s ≤ 29 then (if x < 0 ∨ ((2 ^ farX s.toNat : Nat) : Int) ≤ x then 2 else 0) else 90
def foV (s x : Int) : Int := if foE s x = 0 then ((farT s.toNat : Nat) : Int) + x else 0
theorem longX_le (i : Nat) : longX i ≤ 5 := by
  rcases Nat.lt_or_ge i 29 with h | h
  · exact all_lt (P := fun i => longX i ≤ 5) (n := 29) (by decide +kernel) i h
  · unfold longX; rw [List.getD_eq_getElem?_getD, List.getElem?_eq_none (by simpa using h)]; exact Nat.zero_le _
theorem farX_le (i : Nat) : farX i ≤ 13 := by
  rcases Nat.lt_or_ge i 30 with h | h
  · exact all_lt (P := fun i => farX i ≤ 13) (n := 30) (by decide +kernel) i h
  · unfold farX; rw [List.getD_eq_getElem?_getD, List.getElem?_eq_none (by simpa using h)]; exact Nat.zero_le _
theorem lg_ok {n : Int} (h : lgE n = 0) : 3 ≤ n ∧ n ≤ 258 := by
  unfold lgE at h; split at h <;> omega
theorem fr_ok {n : Int} (h : frE n = 0) : 1 ≤ n ∧ n ≤ 32768 := by
  unfold frE at h; split at h <;> omega
/-- A length's symbol and extra tell it. -/
theorem long_there {n : Int} (h : lgE n = 0) : loE (lgS n) (lgX n) = 0 ∧ loV (lgS n) (lgX n) = n ∧ lbE (lgS n) = 0 ∧ lbV (lgS n) = lgB n ∧ 0 ≤ lgX n ∧ lgX n < ((2 ^ (lgB n).toNat : Nat) : Int) ∧ 0 ≤ lgB n ∧ lgB n ≤ 5 := by
  have hn := lg_ok h
  obtain ⟨m, rfl⟩ := Int.eq_ofNat_of_zero_le (show 0 ≤ n by omega)
  obtain ⟨h1, h2, h3⟩ := longs_rise.at (n := m) (show 3 ≤ m by omega) (by omega)
  have eI : lgI (m : Int) = atN longT m 29 := rfl
  obtain ⟨i, hi⟩ : ∃ i, i = atN longT m 29 := ⟨_, rfl⟩
  rw [← hi] at h1 h2 h3 eI
  have eS : lgS (m : Int) = ((257 + i : Nat) : Int) := by unfold lgS; rw [if_pos hn, eI]
  have eB : lgB (m : Int) = ((longX i : Nat) : Int) := by unfold lgB; rw [if_pos hn, eI]
  have eX : lgX (m : Int) = ((m - longT i : Nat) : Int) := by unfold lgX; rw [if_pos hn, eI]; rfl
  have et : (lgS (m : Int) - 257).toNat = i := by rw [eS]; omega
  have hx31 : ¬ (lgS (m : Int) = 284 ∧ lgX (m : Int) = 31) := by
    rw [eS, eX]
    rintro ⟨a, b⟩
    have h27 : i = 27 := by omega
    subst h27
    have e1 : longT 27 = 227 := rfl
    have hm : m = 258 := by omega
    subst hm
    exact absurd hi (by decide)
  have hE : loE (lgS (m : Int)) (lgX (m : Int)) = 0 := by
    unfold loE
    rw [et, if_pos ⟨by rw [eS]; omega, by rw [eS]; omega⟩, if_neg (by rw [eX]; omega), if_neg hx31]
  have hxl := longX_le i
  refine ⟨hE, ?_, ?_, ?_, by rw [eX]; omega, by rw [eX, eB, Int.toNat_natCast]; omega, by rw [eB]; omega, by rw [eB]; omega⟩
  · unfold loV; rw [if_pos hE, et, eX]; omega
  · unfold lbE; rw [if_pos ⟨by rw [eS]; omega, by rw [eS]; omega⟩]
  · unfold lbV; rw [if_pos ⟨by rw [eS]; omega, by rw [eS]; omega⟩, et, eB]
theorem far_there {n : Int} (h : frE n = 0) : foE (frS n) (frX n) = 0 ∧ foV (frS n) (frX n) = n ∧ fbE (frS n) = 0 ∧ fbV (frS n) = frB n ∧ 0 ≤ frX n ∧ frX n < ((2 ^ (frB n).toNat : Nat) : Int) ∧ 0 ≤ frB n ∧ frB n ≤ 13 := by
  have hn := fr_ok h
  obtain ⟨m, rfl⟩ := Int.eq_ofNat_of_zero_le (show 0 ≤ n by omega)
  obtain ⟨h1, h2, h3⟩ := fars_rise.at (n := m) (show 1 ≤ m by omega) (by omega)
  have eI : frI (m : Int) = atN farT m 30 := rfl
  obtain ⟨i, hi⟩ : ∃ i, i = atN farT m 30 := ⟨_, rfl⟩
  rw [← hi] at h1 h2 h3 eI
  have eS : frS (m : Int) = ((i : Nat) : Int) := by unfold frS; rw [if_pos hn, eI]
  have eB : frB (m : Int) = ((farX i : Nat) : Int) := by unfold frB; rw [if_pos hn, eI]
  have eX : frX (m : Int) = ((m - farT i : Nat) : Int) := by unfold frX; rw [if_pos hn, eI]; rfl
  have et : (frS (m : Int)).toNat = i := by rw [eS]; omega
  have hE : foE (frS (m : Int)) (frX (m : Int)) = 0 := by
    unfold foE
    rw [et, if_pos ⟨by rw [eS]; omega, by rw [eS]; omega⟩, if_neg (by rw [eX]; omega)]
  have hxl := farX_le i
  refine ⟨hE, ?_, ?_, ?_, by rw [eX]; omega, by rw [eX, eB, Int.toNat_natCast]; omega, by rw [eB]; omega, by rw [eB]; omega⟩
  · unfold foV; rw [if_pos hE, et, eX]; omega
  · unfold fbE; rw [if_pos ⟨by rw [eS]; omega, by rw [eS]; omega⟩]
  · unfold fbV; rw [if_pos ⟨by rw [eS]; omega, by rw [eS]; omega⟩, et, eB]
end Go.Proofs.YtjhljkhgjcckhaaGreat

namespace Go.Proofs.YtjhljkhgjcckhaaGreat
/-- How many bytes match from n on, d at most. -/
def samN (f : Nat → Nat) (L a p : Nat) : Nat → Nat → Nat
  | 0, n => n
  | d + 1, n => if a + n < L ∧ f (p + n) = f (a + n) then samN f L a p d (n + 1) else n
def matN (f : Nat → Nat) (L a p : Nat) : Nat := samN f L a p 258 0
/-! ### the best match -/
/-- The best of the places below p, so many at most, behind one that was found. -/
def bstN (f : Nat → Nat) (L a size : Nat) : Nat → Nat → Nat → Nat → Nat × Nat
  | 0, _, d, n => (d, n)
  | p + 1, c, d, n => if a - p ≤ size ∧ 0 < c then
      (if matN f L a p < 3 then bstN f L a size p c d n else if n < matN f L a p then bstN f L a size p (c - 1) (a - p) (matN f L a p) else bstN f L a size p (c - 1) d n)
    else (d, n)
end Go.Proofs.YtjhljkhgjcckhaaGreat

namespace Go.Proofs.YtjhljkhgjcckhaaGreat
/-- A token: its byte, its distance, its length. -/
structure Tok where
  x : Nat
  d : Int
  n : Int
def mayT (t : Tok) : Bool := decide ((t.n = 0 ∧ t.d = 0) ∨ (t.n ≠ 0 ∧ t.x = 0 ∧ 3 ≤ t.n ∧ t.n ≤ 258 ∧ 1 ≤ t.d ∧ t.d ≤ 32768))
end Go.Proofs.YtjhljkhgjcckhaaGreat

namespace Go.Proofs.YtjhljkhgjcckhaaGreat
open Go.RowKit
/-- A world that comes after U: below block n all is as it was. -/
structure After (n : Nat) (U : World) where
  w : World
  h : Below n U w
instance After.some (n : Nat) (U : World) : Inhabited (After n U) := ⟨⟨U, Below.refl n U⟩⟩
theorem wp_region_after {P : Program} {id : Nat} {Q : Exit → Act → World → Prop} {a : Act} {w : World} {l : List Oper} (n : Nat) (U : World) (hU : Below n U w) (hm : P.follows .mixedOrders = true) (hB : Region.lexB .any l.toArray = true)
    (h : wpQuiet P l.toArray (fun V => ∃ p : After n U, V = p.w) (fun a' => ∀ V, (∃ p : After n U, V = p.w) → Q .normal a' V) l a) : (Code.region id l.toArray true).wp P Q a w :=
  wp_region_quiet (C := fun V => ∃ p : After n U, V = p.w) hm hB ⟨⟨_, hU.drew⟩, rfl⟩ (by simpa using h)
/-- A callee that leaves all that was there. -/
theorem call_after {P : Program} {f : FuncId} {args : Array Value} {n : Nat} {U : World} {v : Value} (h : ∀ V, Below n U V → Calls P f args V fun e V' => e = .returned v ∧ Below n U V') (p : After n U) :
    Calls P f args p.w fun e w'' => e = .returned v ∧ ∃ q : After n U, w'' = q.w :=
  (h p.w p.h).mono fun _ _ ⟨he, hb⟩ => ⟨he, ⟨_, hb⟩, rfl⟩
/-- A whole array, read in such a region. -/
theorem quiet_load_row {P : Program} {C : World → Prop} {K : Act → Prop} {a : Act} {o : Oper} (ty : TypeId) (x : Operand) (ho : o.op = .load ty x) (b k : Nat) (hx : a.eval x = .pointer (some ⟨b, k, none⟩)) (cs : List Value) (d : TypeDesc)
    (hS : ∀ V, C V → V.rangeAt b k cs) (hu : P.underlying ty = some d) (hd : d.isRow = true) (hi : (P.info? ty).map (·.size) = some cs.length) (hk : K (a.put o.dst (.agg cs.toArray))) : o.quiet P a C K :=
  ⟨_, fun w hw => by
    unfold Oper.quietAt execOp
    simp only [ho, hx, Instr.loadAt, Instr.sureAddr, Sem.run_bind, Sem.run_pure, Result.andThen_ok, run_loadVar_mid w b k ty cs d (hS w hw) hu hd hi]
    exact ⟨rfl, rfl⟩, hk⟩
/-- Two values compared in a region that draws and only reads. -/
theorem quiet_neq {P : Program} {C : World → Prop} {K : Act → Prop} {a : Act} {o : Oper} (ty : TypeId) (x y : Operand) (ho : o.op = .binOp .neq ty x y ty) (u v : Value) (b : Bool) (hx : a.eval x = u) (hy : a.eval y = v)
    (hg : ∀ w, (eqGuard .neq ty x y u v).run P w = .ok () w) (hrun : ∀ w, (binOp .neq ty u v).run P w = .ok (.bool b) w) (hk : K (a.put o.dst (.bool b))) : o.quiet P a C K :=
  ⟨_, fun w hw => by
    unfold Oper.quietAt execOp
    simp only [ho, hx, hy, Sem.run_bind, hg, hrun, Result.andThen_ok]
    exact ⟨rfl, rfl⟩, hk⟩
end Go.Proofs.YtjhljkhgjcckhaaGreat

namespace Go.Proofs.YtjhljkhgjcckhaaGreat
open Go.RowKit
def fitsB (v n : Int) : Bool := decide (0 ≤ n ∧ n ≤ 32 ∧ v < 2 ^ n.toNat)
theorem fitsB_nat {v n : Nat} : fitsB v n = true ↔ n ≤ 32 ∧ v < 2 ^ n := by
  have e : ((2 : Int) ^ n) = ((2 ^ n : Nat) : Int) := by rw [Int.natCast_pow]; rfl
  simp only [fitsB, decide_eq_true_eq, Int.toNat_natCast]
  rw [e]
  constructor
  · rintro ⟨_, h1, h2⟩; exact ⟨by omega, by exact_mod_cast h2⟩
  · rintro ⟨h1, h2⟩; exact ⟨by omega, by omega, by exact_mod_cast h2⟩
theorem div_zero_iff (v p : Int) (h0 : 0 ≤ v) (hp : 0 < p) : (v / p == 0) = decide (v < p) := by
  rw [Bool.eq_iff_iff]; simp
  constructor
  · intro h
    have := Int.emod_add_mul_ediv v p
    rw [h] at this
    have := Int.emod_lt_of_pos v hp
    omega
  · intro h
    exact Int.ediv_eq_zero_of_lt h0 h
set_option maxHeartbeats 400000 in
theorem fits_any (v n : Int) (w : World) (h0 : 0 ≤ v) (_h1 : v < 4294967296) (hn0 : -9223372036854775808 ≤ n) (hn1 : n ≤ 9223372036854775807) :
    Calls Tryz.prog 71 #[.int .u32 v, .int .i64 n] w fun e w' => e = .returned (.bool (fitsB v n)) ∧ w = w' := by
  by_cases ha : 0 ≤ n
  · by_cases hb : n ≤ 32
    · go_enter Tryz.func71, Tryz.ntmps71
      go_wp2
      go_ret
      refine ⟨ret_bool ?_, rfl⟩
      rw [div_zero_iff v _ h0 (Int.pow_pos (by omega))]
      simp [fitsB, ha, hb]
    · go_enter Tryz.func71, Tryz.ntmps71
      go_wp2
      go_ret
      exact ⟨ret_bool (by simp [fitsB]; omega), rfl⟩
  · go_enter Tryz.func71, Tryz.ntmps71
    go_wp2
    go_ret
    exact ⟨ret_bool (by simp [fitsB]; omega), rfl⟩
theorem need_any (k : Nat) (w : World) (h : k ≤ 9223372036854775800) :
    Calls Tryz.prog 38 #[.int .i64 (k : Int)] w fun e w' => e = .returned (.int .i64 (((k + 7) / 8 : Nat) : Int)) ∧ w = w' := by
  go_enter Tryz.func38, Tryz.ntmps38
  go_wp2
  go_ret
  exact ⟨rfl, rfl⟩
/-- The number whose bits are the first i bits of v, the other way round. -/
def turnN (v : Nat) : Nat → Nat
  | 0 => 0
  | i + 1 => 2 * turnN v i + v / 2 ^ i % 2
theorem turnN_lt (v : Nat) : ∀ i, turnN v i < 2 ^ i
  | 0 => by simp [turnN]
  | i + 1 => by
    have := turnN_lt v i
    have h2 : v / 2 ^ i % 2 < 2 := Nat.mod_lt _ (by omega)
    simp only [turnN, Nat.pow_succ]; omega
set_option maxHeartbeats 400000 in
theorem turn_ok (v n : Nat) (w : World) (h1 : v < 4294967296) (hn1 : n ≤ 32) (hf : fitsB v n = true) :
    Calls Tryz.prog 48 #[.int .u32 v, .int .i64 n] w fun e w' => e = .returned (.tuple #[.int .u32 (turnN v n), .int .i64 0]) ∧ w = w' := by
  go_enter Tryz.func48, Tryz.ntmps48
  go_wp2_with (go_at_call 71; refine (fits_any _ _ _ (by omega) (by omega) (by omega) (by omega)).mono ?_; rintro e w' ⟨rfl, rfl⟩)
  go_loop [6, 7, 13] (fun t _ i => ∃ k : Nat, k ≤ n ∧ i = .int .i64 k ∧ t = .int .u32 (turnN v k)) (fun _ _ i => n - (intOf i).toNat)
  case atStart => exact ⟨0, Nat.zero_le _, rfl, rfl⟩
  case round =>
    obtain ⟨k, hk, rfl, rfl⟩ := hrel
    have hb := turnN_lt v k
    have hb2 : turnN v k < 4294967296 := lt_32 hb (by omega)
    by_cases hlt : k < n
    · go_wp2
      refine ⟨⟨k + 1, hlt, by go_num, val_int ?_⟩, by simp [intOf]; omega⟩
      have h3 : turnN v k * 2 < 4294967296 := by
        have := pow_le_32 (k := k + 1) (by omega)
        rw [Nat.pow_succ] at this; omega
      have h4 : v / 2 ^ k % 2 < 2 := Nat.mod_lt _ (by omega)
      rw [bit_cast v k h1, show ((turnN v k : Int) * 2 % 4294967296) = ((turnN v k * 2 : Nat) : Int) by omega,
        u32_or_add _ _ 1 h3 (by omega) (by omega) (by omega)]
      simp only [turnN]; congr 1; omega
    · go_wp2
      go_ret2
      exact ⟨ret_two (by rw [show k = n by omega]) rfl, rfl⟩
end Go.Proofs.YtjhljkhgjcckhaaGreat

namespace Go.Proofs.YtjhljkhgjcckhaaGreat
open Go.RowKit
def bitAt (f : Nat → Nat) (k : Nat) : Nat := f (k / 8) / 2 ^ (k % 8) % 2
/-! ### the document's own -/
/-- v without its lowest j bits; 2 to the power of j: by name, for the walks. -/
def shrN (v j : Nat) : Nat := v / 2 ^ j
theorem shrN_zero (v : Nat) : shrN v 0 = v := by simp [shrN]
theorem shrN_succ (v j : Nat) : shrN v (j + 1) = shrN v j / 2 := by unfold shrN; rw [Nat.pow_succ, ← Nat.div_div_eq_div_mul]
theorem shrN_le (v j : Nat) : shrN v j ≤ v := Nat.div_le_self _ _
def powN (j : Nat) : Nat := 2 ^ j
theorem powN_zero : powN 0 = 1 := rfl
theorem powN_succ (j : Nat) : powN (j + 1) = 2 * powN j := by unfold powN; rw [Nat.pow_succ, Nat.mul_comm]
theorem powN_le (j : Nat) (h : j ≤ 63) : powN j ≤ 9223372036854775808 := by
  have := Nat.pow_le_pow_right (n := 2) (by omega) h; simpa [powN] using this
theorem powN_pos (j : Nat) : 0 < powN j := Nat.two_pow_pos j
set_option maxHeartbeats 400000 in
theorem rbit_any (w : World) (B : Nat) (A : Option Addr) (n c : Nat) (f : Nat → Nat) (k : Nat) (hr : RdB w B A n f) (hk : k < 8 * n) (hn : n ≤ 1000000000000) :
    Calls Tryz.prog 49 #[.slice A n c, .int .i64 (k : Int)] w fun e w' => e = .returned (.int .u32 (bitAt f k : Nat)) ∧ w = w' := by
  obtain ⟨hf, hc⟩ := hr
  obtain ⟨b, o, rfl, hb, hc⟩ := hc (by omega)
  have hcell := hc (k / 8) (by omega)
  have hlt : k / 8 < n := by omega
  have hf8 := hf (k / 8)
  clear hc hf
  go_enter Tryz.func49, Tryz.ntmps49
  go_wp2
  go_loop [5, 6] (fun t i => ∃ j : Nat, j ≤ k % 8 ∧ i = .int .i64 j ∧ t = .int .i64 (shrN (f (k / 8)) j : Nat)) (fun _ i => 8 - (intOf i).toNat)
  case atStart => exact ⟨0, Nat.zero_le _, rfl, by rw [shrN_zero]⟩
  case round =>
    obtain ⟨j, hj, rfl, rfl⟩ := hrel
    have h5 := shrN_le (f (k / 8)) j
    have h6 := shrN_succ (f (k / 8)) j
    have H6 := Lib.hid h6; clear h6
    by_cases hlt : j < k % 8
    · go_wp2
      refine ⟨⟨j + 1, hlt, by go_num, val_int ?_⟩, by simp [intOf]; omega⟩
      rw [H6.out]; omega
    · go_wp2
      go_ret
      obtain rfl : j = k % 8 := by omega
      refine ⟨ret_int ?_, rfl⟩
      show _ = ((shrN (f (k / 8)) (k % 8) % 2 : Nat) : Int)
      omega
set_option maxHeartbeats 400000 in
theorem power_any (w : World) (n : Nat) (hn : n < 64) :
    Calls Tryz.prog 81 #[.int .i64 (n : Int)] w fun e w' => e = .returned (.int .u64 (powN n : Nat)) ∧ w = w' := by
  go_enter Tryz.func81, Tryz.ntmps81
  go_wp2
  go_loop [3, 4] (fun t i => ∃ j : Nat, j ≤ n ∧ i = .int .i64 j ∧ t = .int .u64 (powN j : Nat)) (fun _ i => n - (intOf i).toNat)
  case atStart => exact ⟨0, Nat.zero_le _, rfl, by rw [powN_zero]; rfl⟩
  case round =>
    obtain ⟨j, hj, rfl, rfl⟩ := hrel
    by_cases hlt : j < n
    · have hp := powN_le (j + 1) (by omega)
      rw [powN_succ] at hp
      have H := Lib.hid (powN_succ j)
      go_wp2
      refine ⟨⟨j + 1, hlt, by go_num, val_int ?_⟩, by simp [intOf]; omega⟩
      rw [H.out]; omega
    · go_wp2
      go_ret
      obtain rfl : j = n := by omega
      exact ⟨rfl, rfl⟩
theorem turned_any (v n : Nat) (w : World) (h1 : v < 4294967296) (hn1 : n ≤ 32) :
    Calls Tryz.prog 95 #[.int .u32 v, .int .i64 n] w fun e w' => e = .returned (.int .u32 (turnN v n)) ∧ w = w' := by
  go_enter Tryz.func95, Tryz.ntmps95
  go_wp2
  go_loop [0, 5, 6] (fun x t i => ∃ k : Nat, k ≤ n ∧ i = .int .i64 k ∧ t = .int .u32 (turnN v k) ∧ x = .int .u32 (shrN v k : Nat)) (fun _ _ i => n - (intOf i).toNat)
  case atStart => exact ⟨0, Nat.zero_le _, rfl, rfl, by rw [shrN_zero]⟩
  case round =>
    obtain ⟨k, hk, rfl, rfl, rfl⟩ := hrel
    have hb := turnN_lt v k
    have hb2 : turnN v k < 4294967296 := lt_32 hb (by omega)
    have h5 := shrN_le v k
    have h6 := shrN_succ v k
    have H6 := Lib.hid h6; clear h6
    by_cases hlt : k < n
    · have h3 : turnN v k * 2 < 4294967296 := by
        have := pow_le_32 (k := k + 1) (by omega)
        rw [Nat.pow_succ] at this; omega
      have h7 := turnN_lt v (k + 1)
      have h8 := lt_32 h7 (by omega)
      clear h7 hb
      have h9 : turnN v (k + 1) = 2 * turnN v k + shrN v k % 2 := rfl
      have H9 := Lib.hid h9; clear h9
      go_wp2
      refine ⟨⟨k + 1, hlt, by go_num, val_int ?_, val_int ?_⟩, by simp [intOf]; omega⟩
      · have := H9.out; omega
      · have := H6.out; omega
    · go_wp2
      go_ret
      exact ⟨ret_int (by rw [show k = n by omega]), rfl⟩
end Go.Proofs.YtjhljkhgjcckhaaGreat

namespace Go.Proofs.YtjhljkhgjcckhaaGreat
open Go.RowKit Go.ChangeShapes Go.WideShapes Go.ChangeAt
open Go.ChangeMaps (open_string shut_string)
theorem info5 : (Tryz.prog.info? 5).map (fun i => (i.zero, i.size, i.bytes)) = some (some (.int .u8 0), 1, 1) := by kernel_rfl
end Go.Proofs.YtjhljkhgjcckhaaGreat

namespace Go.Proofs.YtjhljkhgjcckhaaGreat
open Go.RowKit
theorem sz5 : (Tryz.prog.info? 5).map (·.size) = some 1 := by kernel_rfl
def zext (n : Nat) (f : Nat → Nat) (j : Nat) : Nat := if j < n then f j else 0
end Go.Proofs.YtjhljkhgjcckhaaGreat

namespace Go.Proofs.YtjhljkhgjcckhaaGreat
open Go.RowKit
/-! ### bits behind bits -/
def stepF (f : Nat → Nat) (k b : Nat) : Nat → Nat := upd f (k / 8) (f (k / 8) + b * 2 ^ (k % 8))
def putF (f : Nat → Nat) (k v : Nat) : Nat → (Nat → Nat)
  | 0 => f
  | i + 1 => stepF (putF f k v i) (k + i) (v / 2 ^ i % 2)
/-- Behind k bits all is nought. -/
def Clean (f : Nat → Nat) (k : Nat) : Prop := (∀ j, f j < 256) ∧ (∀ j, k / 8 < j → f j = 0) ∧ f (k / 8) < 2 ^ (k % 8)
theorem Clean.step {f : Nat → Nat} {k b : Nat} (h : Clean f k) (hb : b < 2) : Clean (stepF f k b) (k + 1) := by
  obtain ⟨h1, h2, h3⟩ := h
  have h8 : k % 8 < 8 := Nat.mod_lt _ (by omega)
  have hp : 2 ^ (k % 8) * 2 ≤ 256 := by
    have := Nat.pow_le_pow_right (n := 2) (by omega) (show k % 8 + 1 ≤ 8 by omega)
    rw [Nat.pow_succ] at this; simpa using this
  have hq : b * 2 ^ (k % 8) ≤ 1 * 2 ^ (k % 8) := Nat.mul_le_mul_right _ (by omega)
  refine ⟨fun j => ?_, fun j hj => ?_, ?_⟩
  · unfold stepF upd; split
    · omega
    · exact h1 j
  · unfold stepF upd
    rw [if_neg (by omega)]
    exact h2 j (by omega)
  · unfold stepF upd
    by_cases e : k % 8 = 7
    · rw [if_neg (by omega), h2 _ (by omega)]; exact Nat.two_pow_pos _
    · rw [if_pos (by omega), show (k + 1) % 8 = k % 8 + 1 by omega, Nat.pow_succ]; omega
theorem Clean.put {f : Nat → Nat} {k : Nat} (h : Clean f k) (v : Nat) : ∀ i, Clean (putF f k v i) (k + i)
  | 0 => h
  | i + 1 => (Clean.put h v i).step (Nat.mod_lt _ (by omega))
end Go.Proofs.YtjhljkhgjcckhaaGreat

namespace Go.Proofs.YtjhljkhgjcckhaaGreat
/-- How many bits numbers have together; bytes with numbers behind k bits. -/
def bitsT : List (Nat × Nat) → Nat
  | [] => 0
  | x :: l => x.2 + bitsT l
def putsF (f : Nat → Nat) (k : Nat) : List (Nat × Nat) → Nat → Nat
  | [] => f
  | x :: l => putsF (putF f k x.1 x.2) (k + x.2) l
theorem bitsT_app : ∀ a b, bitsT (a ++ b) = bitsT a + bitsT b
  | [], b => by simp [bitsT]
  | x :: a, b => by simp only [List.cons_append, bitsT, bitsT_app a b]; omega
theorem putsF_app (f : Nat → Nat) (k : Nat) : ∀ a b, putsF f k (a ++ b) = putsF (putsF f k a) (k + bitsT a) b
  | [], b => by simp [bitsT, putsF]
  | x :: a, b => by
    simp only [List.cons_append, bitsT, putsF]
    rw [putsF_app _ _ a b, Nat.add_assoc]
theorem Clean.puts {f : Nat → Nat} {k : Nat} (h : Clean f k) : ∀ l, Clean (putsF f k l) (k + bitsT l)
  | [] => h
  | x :: l => by
    have := (h.put x.1 x.2).puts l
    simp only [putsF, bitsT]
    rwa [Nat.add_assoc] at this
/-! ### tokens -/
def codP (F : Nat → Nat) (n i : Nat) : Nat × Nat := (turnN (codeB F n i) (F i), F i)
def symA (t : Tok) : Nat := if t.n = 0 then t.x else (lgS t.n).toNat
def symB (t : Tok) : Nat := (frS t.d).toNat
def tokP (F : Nat → Nat) (n : Nat) (G : Nat → Nat) (m : Nat) (t : Tok) : List (Nat × Nat) :=
  if t.n = 0 then [codP F n t.x] else [codP F n (lgS t.n).toNat, ((lgX t.n).toNat, (lgB t.n).toNat), codP G m (frS t.d).toNat, ((frX t.d).toNat, (frB t.d).toNat)]
def toksP (F : Nat → Nat) (n : Nat) (G : Nat → Nat) (m : Nat) (l : List Tok) : List (Nat × Nat) := l.flatMap (tokP F n G m) ++ [codP F n 256]
def fixA (i : Nat) : Nat := if 256 ≤ i ∧ i ≤ 279 then 7 else if 144 ≤ i ∧ i ≤ 255 then 9 else 8
def fixB (_ : Nat) : Nat := 5
def ordN (i : Nat) : Nat := [16, 17, 18, 0, 8, 7, 9, 6, 10, 5, 11, 4, 12, 3, 13, 2, 14, 1, 15].getD i 0
/-! ### how often symbols stand in tokens -/
def cntA (l : List Tok) (i : Nat) : Nat := (if i = 256 then 1 else 0) + l.countP fun t => decide (symA t = i)
def cntB (l : List Tok) (i : Nat) : Nat := l.countP fun t => decide (t.n ≠ 0 ∧ symB t = i)
theorem cntA_one (l : List Tok) (t : Tok) (i : Nat) : cntA (l ++ [t]) i = cntA l i + if symA t = i then 1 else 0 := by
  unfold cntA; rw [List.countP_append, List.countP_singleton]; simp only [decide_eq_true_eq]; omega
theorem cntB_one (l : List Tok) (t : Tok) (i : Nat) : cntB (l ++ [t]) i = cntB l i + if t.n ≠ 0 ∧ symB t = i then 1 else 0 := by
  unfold cntB; rw [List.countP_append, List.countP_singleton]; simp only [decide_eq_true_eq]
theorem cntA_le (l : List Tok) (i : Nat) : cntA l i ≤ l.length + 1 := by
  have := List.countP_le_length (p := fun t => decide (symA t = i)) (l := l)
  unfold cntA; split <;> omega
theorem cntB_le (l : List Tok) (i : Nat) : cntB l i ≤ l.length := List.countP_le_length
theorem cntA_pos {l : List Tok} {t : Tok} (h : t ∈ l) : 0 < cntA l (symA t) := by
  have : 0 < l.countP fun u => decide (symA u = symA t) := List.countP_pos_iff.2 ⟨t, h, by simp⟩
  unfold cntA; omega
theorem cntB_pos {l : List Tok} {t : Tok} (h : t ∈ l) (hn : t.n ≠ 0) : 0 < cntB l (symB t) := List.countP_pos_iff.2 ⟨t, h, by simp [hn]⟩
/-- A list of numbers by a function. -/
def frqL (c : Nat → Nat) (n : Nat) : List Int := (List.range n).map fun i => ((c i : Nat) : Int)
theorem frqL_length (c : Nat → Nat) (n : Nat) : (frqL c n).length = n := by simp [frqL]
theorem frqL_get (c : Nat → Nat) {n i : Nat} (h : i < n) : (frqL c n).getD i 0 = ((c i : Nat) : Int) := by
  unfold frqL; rw [List.getD_eq_getElem?_getD]; simp [h]
theorem freq_frq (c : Nat → Nat) {n i : Nat} (h : i < n) : freqN (frqL c n) i = c i := by unfold freqN; rw [frqL_get c h]; rfl
theorem ask_frq {c : Nat → Nat} {n : Nat} {most : Nat} (h1 : 1 ≤ most) (h2 : most ≤ 15) (hn : n ≤ 320) (hn2 : n ≤ 2 ^ most) (hc : ∀ i, c i ≤ 1073741824) : askE (frqL c n) (most : Int) = 0 := by
  unfold askE
  rw [frqL_length, if_neg (by omega), if_neg (by omega), if_neg, if_neg]
  · have := nI_le (freqN (frqL c n)) n
    rw [Int.toNat_natCast]; omega
  · unfold badL
    simp only [decide_eq_true_eq]
    rintro ⟨j, hj, hb⟩
    rw [frqL_get c hj] at hb
    unfold badI at hb
    simp only [decide_eq_true_eq] at hb
    have := hc j
    omega
/-- The lengths that cost least. -/
def lenM (c : Nat → Nat) (n most : Nat) : Nat → Nat := outL (frqL c n) (most : Int)
theorem lenM_lt (c : Nat → Nat) (n most i : Nat) : lenM c n most i < 256 := outL_lt _ _ _
theorem lenM_may {c : Nat → Nat} {n : Nat} {most : Nat} (h1 : 1 ≤ most) (h2 : most ≤ 15) (hn : n ≤ 320) (hn2 : n ≤ 2 ^ most) (hc : ∀ i, c i ≤ 1073741824) :
    (∀ i, lenM c n most i ≤ most) ∧ allN (lenM c n most) n ≤ 32768 ∧ (∀ i, i < n → (0 < lenM c n most i ↔ 0 < c i)) ∧ lenM c n most = lenB (freqN (frqL c n)) n most ∧ nI (freqN (frqL c n)) n ≤ 2 ^ most := by
  have ha := ask_frq h1 h2 hn hn2 hc
  obtain ⟨h3, h4, h5⟩ := out_may ha
  rw [frqL_length] at h4 h5
  obtain ⟨_, _, _, _, g5, _⟩ := check_ok h4
  have hnI : nI (freqN (frqL c n)) n ≤ 2 ^ most := Nat.le_trans (nI_le _ _) hn2
  have e : lenM c n most = lenB (freqN (frqL c n)) n most := by
    funext i; unfold lenM outL; rw [if_pos ha, frqL_length, Int.toNat_natCast]
  refine ⟨fun i => by rw [e]; exact lenB_le _ (by omega) i, g5, fun i hi => ?_, e, hnI⟩
  rw [e]
  constructor
  · intro g
    rcases Nat.eq_zero_or_pos (c i) with h0 | h0
    · unfold lenB at g; rw [freq_frq c hi, if_pos h0] at g; omega
    · exact h0
  · intro g; exact (lenB_bd (by omega) hnI hi (by rw [freq_frq c hi]; exact g)).1
/-- Lengths up to the last one that is not 0, but so many at least. -/
def cutN (f : Nat → Nat) (least : Nat) : Nat → Nat
  | 0 => least
  | k + 1 => if least ≤ k ∧ f k ≠ 0 then k + 1 else cutN f least k
theorem cutN_ge (f : Nat → Nat) (least : Nat) : ∀ n, least ≤ cutN f least n
  | 0 => Nat.le_refl _
  | k + 1 => by
    simp only [cutN]
    split
    · omega
    · exact cutN_ge f least k
theorem cutN_le (f : Nat → Nat) (least : Nat) : ∀ n, least ≤ n → cutN f least n ≤ n
  | 0, h => h
  | k + 1, h => by
    simp only [cutN]
    split
    · omega
    · rename_i g
      rcases Nat.eq_or_lt_of_le h with e | e
      · have : ∀ j, j ≤ k → cutN f least j = least := by
          intro j
          induction j with
          | zero => intro _; rfl
          | succ j ih => intro hj; simp only [cutN]; rw [if_neg (by omega)]; exact ih (by omega)
        rw [this k (Nat.le_refl _)]; omega
      · exact Nat.le_trans (cutN_le f least k (by omega)) (by omega)
theorem cutN_in (f : Nat → Nat) (least : Nat) : ∀ n i, i < n → f i ≠ 0 → i < cutN f least n
  | 0, i, h, _ => absurd h (by omega)
  | k + 1, i, h, hf => by
    simp only [cutN]
    split
    · omega
    · rename_i g
      rcases Nat.eq_or_lt_of_le (Nat.le_of_lt_succ h) with e | e
      · subst e
        have := cutN_ge f least i
        have : ¬ least ≤ i := fun h2 => g ⟨h2, hf⟩
        omega
      · exact cutN_in f least k i e hf
theorem allN_mono (f : Nat → Nat) {a b : Nat} (h : a ≤ b) : allN f a ≤ allN f b := by
  induction b with
  | zero => rw [show a = 0 by omega]; exact Nat.le_refl _
  | succ b ih =>
    rcases Nat.eq_or_lt_of_le h with h | h
    · subst h; exact Nat.le_refl _
    · exact Nat.le_trans (ih (by omega)) (Nat.le_add_right _ _)
/-! ### a dynamic block -/
def lnA (l : List Tok) : Nat → Nat := lenM (cntA l) 286 15
def lnB (l : List Tok) : Nat → Nat := lenM (cntB l) 30 15
def nA (l : List Tok) : Nat := cutN (lnA l) 257 286
def nB (l : List Tok) : Nat := cutN (lnB l) 1 30
def allF (l : List Tok) : Nat → Nat := cat (lnA l) (nA l) (lnB l)
def runD (l : List Tok) : List (Int × Int) := ofU (allF l) (nA l + nB l) 0
def cntR (l : List (Int × Int)) (i : Nat) : Nat := l.countP fun r => decide (r.1 = (i : Int))
theorem cntR_one (l : List (Int × Int)) (r : Int × Int) (i : Nat) : cntR (l ++ [r]) i = cntR l i + if r.1 = (i : Int) then 1 else 0 := by
  unfold cntR; rw [List.countP_append, List.countP_singleton]; simp only [decide_eq_true_eq]
theorem cntR_le (l : List (Int × Int)) (i : Nat) : cntR l i ≤ l.length := List.countP_le_length
def lnR (l : List Tok) : Nat → Nat := lenM (cntR (runD l)) 19 7
def rowR (l : List Tok) (i : Nat) : Nat := lnR l (ordN i)
def nR (l : List Tok) : Nat := cutN (rowR l) 4 19
def runP (F : Nat → Nat) (r : Int × Int) : List (Nat × Nat) := [codP F 19 r.1.toNat, (r.2.toNat, (bitV r.1).toNat)]
def dynP (l : List Tok) : List (Nat × Nat) :=
  [(nA l - 257, 5), (nB l - 1, 5), (nR l - 4, 4)] ++ ((List.range (nR l)).map fun i => (rowR l i, 3)) ++ (runD l).flatMap (runP (lnR l))
/-- A block's numbers, behind so many bits: of a kind, of bytes, of tokens. -/
def padN (a : Nat) : Nat := (8 - (a + 3) % 8) % 8
def stoP (a n : Nat) (r : Nat → Nat) : List (Nat × Nat) := List.replicate (padN a) (0, 1) ++ [(n, 16), (65535 - n, 16)] ++ ((List.range n).map fun i => (r i, 8))
def blkP (a kind n : Nat) (r : Nat → Nat) (l : List Tok) (last : Bool) : List (Nat × Nat) :=
  [(if last then 1 else 0, 1), (kind, 2)] ++ (if kind = 1 then toksP fixA 288 fixB 32 l else if kind = 2 then dynP l ++ toksP (lnA l) (nA l) (lnB l) (nB l) l else stoP a n r)
/-- What is wrong with a block. -/
def askW (kind n : Nat) (l : List Tok) : Int := if 2 < kind then 2 else if 65535 < n ∨ 65535 < l.length then 4 else if l.all mayT then 0 else 8
theorem sym_lt {t : Tok} (h : mayT t = true) (hx : t.x < 256) : symA t < 286 ∧ (t.n = 0 → symA t = t.x) ∧ (t.n ≠ 0 → lgE t.n = 0 ∧ frE t.d = 0 ∧ 257 ≤ symA t ∧ symB t < 30) := by
  unfold mayT at h
  simp only [decide_eq_true_eq] at h
  unfold symA symB
  by_cases h0 : t.n = 0
  · rw [if_pos h0]; exact ⟨by omega, fun _ => rfl, fun g => absurd h0 g⟩
  · rw [if_neg h0]
    obtain ⟨_, _, h3, h4, h5, h6⟩ : t.n ≠ 0 ∧ t.x = 0 ∧ 3 ≤ t.n ∧ t.n ≤ 258 ∧ 1 ≤ t.d ∧ t.d ≤ 32768 := by
      rcases h with ⟨a, _⟩ | h
      · exact absurd a h0
      · exact h
    have e1 : lgE t.n = 0 := if_pos ⟨h3, h4⟩
    have e2 : frE t.d = 0 := if_pos ⟨h5, h6⟩
    have a1 := (atN_spec (T := longT) (n := t.n.toNat) (show 3 ≤ t.n.toNat by omega) 29 (by omega)).1
    have a2 := (atN_spec (T := farT) (n := t.d.toNat) (show 1 ≤ t.d.toNat by omega) 30 (by omega)).1
    have s1 : lgS t.n = ((257 + lgI t.n : Nat) : Int) := if_pos ⟨h3, h4⟩
    have s2 : frS t.d = ((frI t.d : Nat) : Int) := if_pos ⟨h5, h6⟩
    have b1 : lgI t.n < 29 := a1
    have b2 : frI t.d < 30 := a2
    refine ⟨by omega, fun g => absurd g h0, fun _ => ⟨e1, e2, by omega, by omega⟩⟩
/-- What holds of the lengths of a dynamic block. -/
theorem dyn_ok (l : List Tok) (hl : l.length ≤ 1000000) :
    (∀ i, lnA l i ≤ 15) ∧ (∀ i, lnB l i ≤ 15) ∧ allN (lnA l) (nA l) ≤ 32768 ∧ allN (lnB l) (nB l) ≤ 32768 ∧ 257 ≤ nA l ∧ nA l ≤ 286 ∧ 1 ≤ nB l ∧ nB l ≤ 30 ∧
    (∀ i, i < 286 → 0 < cntA l i → i < nA l ∧ 0 < lnA l i) ∧ (∀ i, i < 30 → 0 < cntB l i → i < nB l ∧ 0 < lnB l i) := by
  obtain ⟨a1, a2, a3, _, _⟩ := lenM_may (c := cntA l) (n := 286) (most := 15) (by omega) (by omega) (by omega) (by decide) (fun i => by have := cntA_le l i; omega)
  obtain ⟨b1, b2, b3, _, _⟩ := lenM_may (c := cntB l) (n := 30) (most := 15) (by omega) (by omega) (by omega) (by decide) (fun i => by have := cntB_le l i; omega)
  have c1 := cutN_ge (lnA l) 257 286
  have c2 := cutN_le (lnA l) 257 286 (by omega)
  have d1 := cutN_ge (lnB l) 1 30
  have d2 := cutN_le (lnB l) 1 30 (by omega)
  refine ⟨a1, b1, Nat.le_trans (allN_mono _ c2) a2, Nat.le_trans (allN_mono _ d2) b2, c1, c2, d1, d2, fun i hi h => ?_, fun i hi h => ?_⟩
  · have := (a3 i hi).2 h
    exact ⟨cutN_in _ _ _ i hi (by unfold lnA; omega), this⟩
  · have := (b3 i hi).2 h
    exact ⟨cutN_in _ _ _ i hi (by unfold lnB; omega), this⟩
theorem all_le (l : List Tok) (hl : l.length ≤ 1000000) (i : Nat) : allF l i ≤ 15 := by
  obtain ⟨h1, h2, _⟩ := dyn_ok l hl
  unfold allF cat; split
  · exact h1 _
  · exact h2 _
end Go.Proofs.YtjhljkhgjcckhaaGreat

namespace Go.Proofs.YtjhljkhgjcckhaaGreat
open Go.RowKit
/-- A slice of bytes, its room too. -/
def ByR (w : World) (B : Nat) (A : Option Addr) (n c : Nat) (f : Nat → Nat) : Prop := RdB w B A n f ∧ (A = none → c = 0) ∧ n ≤ c ∧ c ≤ maxLen
theorem ByR.below {w w' : World} {B B' n c : Nat} {A : Option Addr} {f : Nat → Nat} (h : ByR w B A n c f) (hb : Below B' w w') (hB : B ≤ B') : ByR w' B A n c f := ⟨h.1.below hb hB, h.2⟩
theorem ByR.more {w : World} {B B' n c : Nat} {A : Option Addr} {f : Nat → Nat} (h : ByR w B A n c f) (hB : B ≤ B') : ByR w B' A n c f := ⟨h.1.more hB, h.2⟩
theorem ByR.nil (w : World) (B : Nat) (f : Nat → Nat) (hf : ∀ j, f j < 256) : ByR w B none 0 0 f := ⟨⟨hf, fun h => by omega⟩, fun _ => rfl, Nat.le_refl _, by unfold maxLen; omega⟩
theorem ByR.of_own {w : World} {base n c : Nat} {A : Option Addr} {f : Nat → Nat} (h : w.ownsRow base 5 1 (.slice A n c) n (bytesL n f)) (hf : ∀ j, f j < 256) : ByR w w.heap.size A n c f := by
  refine ⟨RdB.of_own h hf, ?_⟩
  rcases h.2 with ⟨hv, h0⟩ | ⟨g, cap, cur, hv, _, _, h1, h2, _⟩
  · injection hv with h3 h4 h5
    exact ⟨fun _ => h5, by omega, by unfold maxLen; omega⟩
  · injection hv with h3 h4 h5
    exact ⟨(fun h => by rw [h] at h3; cases h3), by omega, by omega⟩
theorem RdB.ext {w : World} {B n : Nat} {A : Option Addr} {f g : Nat → Nat} (h : RdB w B A n f) (hg : ∀ j, g j < 256) (e : ∀ j, j < n → f j = g j) : RdB w B A n g := by
  refine ⟨hg, fun hn => ?_⟩
  obtain ⟨b, o, rfl, hlt, hc⟩ := h.2 hn
  exact ⟨b, o, rfl, hlt, fun j hj => by rw [← e j hj]; exact hc j hj⟩
theorem ByR.ext {w : World} {B n c : Nat} {A : Option Addr} {f g : Nat → Nat} (h : ByR w B A n c f) (hg : ∀ j, g j < 256) (e : ∀ j, j < n → f j = g j) : ByR w B A n c g := ⟨h.1.ext hg e, h.2⟩
/-- The bytes of a slice that came in, their room too. -/
theorem open_byr {H : Type} {enc : TypeId × Value → H} {W : World} {base : Nat} {sp : Nat → Bool} {hd : Bool} {a : Option Addr} {len cap : Nat} {d : DataW H} {p : List MemPlace}
    (h : ∃ fuel, DataW.trod enc Tryz.prog W base sp hd fuel 22 (Value.slice a len cap).cells.toList = some (d, p)) : ∃ f, ByR W W.heap.size a len cap f := by
  obtain ⟨f, h1, h2, h3, h4⟩ := open_bytes h
  exact ⟨f, h1, h2, h3, h4⟩
/-- What stands from p on. -/
theorem ByR.drop {w : World} {B n c p : Nat} {a : Addr} {A2 : Option Addr} {f : Nat → Nat} (h : ByR w B (some a) n c f) (hp : p ≤ n) (hA : (if c = p then some a else some (a.add p)) = A2) : ByR w B A2 (n - p) (c - p) (fun j => f (j + p)) := by
  obtain ⟨h1, h2, h3, h4⟩ := h
  refine ⟨⟨fun j => h1.1 _, fun hn => ?_⟩, fun h => ?_, by omega, by omega⟩
  · obtain ⟨b, o, e, hb, hcc⟩ := h1.2 (by omega)
    cases e
    rw [if_neg (by omega)] at hA
    have e : (⟨b, o, none⟩ : Addr).add p = ⟨b, o + p, none⟩ := by unfold Addr.add; split <;> simp_all
    rw [e] at hA
    refine ⟨b, o + p, hA.symm, hb, fun j hj => ?_⟩
    have := hcc (j + p) (by omega)
    rw [show o + p + j = o + (j + p) by omega]
    exact this
  · rw [h] at hA; split at hA <;> cases hA
theorem ByR.other {w : World} {B n c : Nat} {A : Option Addr} {f : Nat → Nat} (h : ByR w B A n c f) (p : Addr) (u : Value) (hne : ∀ b, A.map (·.block) = some b → b ≠ p.block) : ByR (w.setCell p u) B A n c f := by
  refine ⟨⟨h.1.1, fun hn => ?_⟩, h.2⟩
  obtain ⟨b, o, rfl, hlt, hc⟩ := h.1.2 hn
  exact ⟨b, o, rfl, hlt, fun j hj => (World.cell?_setCell_other _ _ _ _ (fun e => hne b rfl (by first | exact congrArg Addr.block e | exact (congrArg Addr.block e).symm))).trans (hc j hj)⟩
theorem ByR.drew {w : World} {B n c : Nat} {A : Option Addr} {f : Nat → Nat} (h : ByR w B A n c f) : ByR w.drew B A n c f := h
theorem bytesL_ext {n : Nat} {f g : Nat → Nat} (h : ∀ j, j < n → f j = g j) : bytesL n f = bytesL n g := by
  unfold bytesL
  exact List.map_congr_left fun j hj => by rw [h j (List.mem_range.1 hj)]
/-- One more byte behind a row of the call's own, whose bytes are F's. -/
theorem run_oneB (w : World) (base : Nat) (A : Option Addr) (n c : Nat) (F : Nat → Nat) (hF : ∀ j, F j < 256) (hown : w.ownsRow base 5 1 (.slice A n c) n (bytesL n F)) (x : Nat) (hx : x = F n) (hn : n ≤ 1000000000) (hbase : base ≤ w.heap.size) :
    ∃ A' c' w', (Builtin.append_ #[22, 22] 22 #[.slice A n c, .slice (some ⟨w.heap.size, 0, none⟩) 1 1]).run Tryz.prog (w.alloc (.cells #[.int .u8 (x : Int)] 5)) = .ok (.slice A' (n + 1) c') w' ∧
      w'.ownsRow base 5 1 (.slice A' (n + 1) c') (n + 1) (bytesL (n + 1) F) ∧ Below base w w' := by
  subst hx
  have hb1 : Below base w (w.alloc (.cells #[.int .u8 (F n : Int)] 5)) := (Below.refl base w).alloc hbase _
  have hr : RdB (w.alloc (.cells #[.int .u8 (F n : Int)] 5)) (w.alloc (.cells #[.int .u8 (F n : Int)] 5)).heap.size (some ⟨w.heap.size, 0, none⟩) 1 (fun _ => F n) :=
    ⟨fun _ => hF n, fun _ => ⟨w.heap.size, 0, rfl, by simp, fun j hj => by
      obtain rfl : j = 0 := by omega
      rw [cell_of_row _ _ _ _ _ (0, 0) (heap_alloc_new w _)]; rfl⟩⟩
  obtain ⟨A', c', w', h1, h2, h3⟩ := run_more (w.alloc (.cells #[.int .u8 (F n : Int)] 5)) base _ (.slice A n c) n F (hown.alloc _) (some ⟨w.heap.size, 0, none⟩) 1 1 (fun _ => F n) hr (by omega) 22 (fun h => by cases h) (Nat.le_trans hbase hb1.size)
  refine ⟨A', c', w', h1, ?_, hb1.trans h3⟩
  rw [← bytesL_ext (f := cat F n (fun _ => F n)) (g := F)]
  · exact h2
  · intro j hj
    unfold cat
    split
    · rfl
    · rw [show j = n by omega]
/-- How many bytes the first k of some slices have, and which. -/
def sumU (n : Nat → Nat) : Nat → Nat
  | 0 => 0
  | k + 1 => sumU n k + n k
def catU (n : Nat → Nat) (f : Nat → Nat → Nat) : Nat → Nat → Nat
  | 0, _ => 0
  | k + 1, j => cat (catU n f k) (sumU n k) (f k) j
theorem sumU_mono (n : Nat → Nat) {a b : Nat} (h : a ≤ b) : sumU n a ≤ sumU n b := by
  induction h with
  | refl => exact Nat.le_refl _
  | step _ ih => exact Nat.le_trans ih (Nat.le_add_right _ _)
/-- k slices of bytes in a row at A. -/
def RowsB (w : World) (B : Nat) (A : Option Addr) (k : Nat) (n : Nat → Nat) (f : Nat → Nat → Nat) : Prop :=
  0 < k → ∃ b o, A = some ⟨b, o, none⟩ ∧ b < B ∧ ∀ i, i < k → ∃ Ai ci, w.cell? ⟨b, o + i, none⟩ = some (.slice Ai (n i) ci) ∧ RdB w B Ai (n i) (f i) ∧ (Ai = none → ci = 0)
theorem RowsB.below {w w' : World} {B B' k : Nat} {A : Option Addr} {n : Nat → Nat} {f : Nat → Nat → Nat} (h : RowsB w B A k n f) (hb : Below B' w w') (hB : B ≤ B') : RowsB w' B A k n f := fun hk => by
  obtain ⟨b, o, h1, h2, h3⟩ := h hk
  refine ⟨b, o, h1, h2, fun i hi => ?_⟩
  obtain ⟨Ai, ci, q1, q2, q3⟩ := h3 i hi
  exact ⟨Ai, ci, by rw [hb.cell (p := ⟨b, o + i, none⟩) (by show b < B'; omega)]; exact q1, q2.below hb hB, q3⟩
end Go.Proofs.YtjhljkhgjcckhaaGreat

namespace Go.Proofs.YtjhljkhgjcckhaaGreat
open Go.RowKit Go.ChangeShapes Go.WideShapes Go.ChangeAt Go.Joins
def num0 : Nat × Nat := (0, 0)
def numC (r : Nat × Nat) : List Value := [.int .u32 (r.1 : Int), .int .i64 (r.2 : Int)]
def numsL : List (Nat × Nat) → List Value
  | [] => []
  | r :: l => numC r ++ numsL l
theorem numsL_length : ∀ l, (numsL l).length = l.length * 2
  | [] => rfl
  | r :: l => by simp only [numsL, List.length_append, List.length_cons, numsL_length l]; simp [numC]; omega
theorem numsL_app : ∀ l m, numsL (l ++ m) = numsL l ++ numsL m
  | [], _ => rfl
  | r :: l, m => by simp [numsL, numsL_app l m]
theorem numsL_get : ∀ (l : List (Nat × Nat)) (j i : Nat), j < l.length → i < 2 → (numsL l)[j * 2 + i]? = (numC (l.getD j num0))[i]?
  | [], j, i, h, _ => absurd h (by simp)
  | r :: l, 0, i, _, hi => by
    simp only [numsL, Nat.zero_mul, Nat.zero_add]
    rw [List.getElem?_append_left (by simpa [numC] using hi)]
    rfl
  | r :: l, j + 1, i, h, hi => by
    simp only [numsL]
    rw [List.getElem?_append_right (by simp [numC]; omega)]
    have e : (j + 1) * 2 + i - (numC r).length = j * 2 + i := by simp [numC]; omega
    rw [e, numsL_get l j i (by simpa using h) hi]
    rfl
theorem numsL_one (l : List (Nat × Nat)) : ∀ u ∈ numsL l, u.oneCell' = true := by
  induction l with
  | nil => intro u hu; simp [numsL] at hu
  | cons r l ih =>
    intro u hu
    simp only [numsL, List.mem_append] at hu
    rcases hu with hu | hu
    · simp [numC] at hu; rcases hu with rfl | rfl <;> rfl
    · exact ih u hu
theorem infoNum : (Tryz.prog.info? 102).map (fun i => (i.zero, i.size, i.bytes)) = some (some (.agg #[.int .u32 0, .int .i64 0]), 2, 16) := by kernel_rfl
theorem szNum : (Tryz.prog.info? 102).map (·.size) = some 2 := by kernel_rfl
def RdN (w : World) (B : Nat) (A : Option Addr) (l : List (Nat × Nat)) : Prop := SrcL w B 2 A l.length (numsL l)
theorem RdN.below {w w' : World} {B B' : Nat} {A : Option Addr} {l : List (Nat × Nat)} (h : RdN w B A l) (hb : Below B' w w') (hB : B ≤ B') : RdN w' B A l := SrcL.below h hb hB
theorem RdN.more {w : World} {B B' : Nat} {A : Option Addr} {l : List (Nat × Nat)} (h : RdN w B A l) (hB : B ≤ B') : RdN w B' A l := SrcL.more h hB
theorem RdN.nil (w : World) (B : Nat) (A : Option Addr) : RdN w B A [] := SrcL.none_ w B 2 A
theorem RdN.of_own {w : World} {base c n : Nat} {A : Option Addr} {l : List (Nat × Nat)} (h : w.ownsRow base 102 2 (.slice A n c) n (numsL l)) : n = l.length ∧ RdN w w.heap.size A l := by
  have h1 := SrcL.of_own h
  have h2 := h1.1
  rw [numsL_length] at h2
  obtain rfl : n = l.length := by omega
  exact ⟨rfl, h1⟩
theorem RdN.at {w : World} {B : Nat} {A : Option Addr} {l : List (Nat × Nat)} (h : RdN w B A l) {k : Nat} (hk : k < l.length) : ∃ b o, A = some ⟨b, o, none⟩ ∧ b < B ∧ ∀ j, j < l.length →
    w.cell? ⟨b, o + j * 2, none⟩ = some (.int .u32 ((l.getD j num0).1 : Int)) ∧ w.cell? ⟨b, o + j * 2 + 1, none⟩ = some (.int .i64 ((l.getD j num0).2 : Int)) := by
  obtain ⟨b, o, h1, h2, h3⟩ := h.2 (by omega)
  refine ⟨b, o, h1, h2, fun j hj => ⟨?_, ?_⟩⟩
  · have := h3 (j * 2 + 0) _ ((numsL_get l j 0 hj (by omega)).trans rfl)
    simpa using this
  · have := h3 (j * 2 + 1) _ ((numsL_get l j 1 hj (by omega)).trans rfl)
    rw [show o + j * 2 + 1 = o + (j * 2 + 1) by omega]; exact this
theorem RdN.range {w : World} {B : Nat} {A : Option Addr} {l : List (Nat × Nat)} (h : RdN w B A l) {b o : Nat} (hA : A = some ⟨b, o, none⟩) {j : Nat} (hj : j < l.length) : w.rangeAt b (o + j * 2) (numC (l.getD j num0)) := by
  obtain ⟨b', o', h1, _, h3⟩ := h.at hj
  rw [hA] at h1
  injection h1 with h1
  injection h1 with hb ho _
  subst hb; subst ho
  obtain ⟨c0, c1⟩ := h3 j hj
  intro i v hv
  rcases i with _ | _ | i
  · simp [numC] at hv; subst hv; exact c0
  · simp [numC] at hv; subst hv; exact c1
  · simp [numC] at hv
/-- One more run behind a row of the call's own. -/
theorem run_oneN (w : World) (base : Nat) (A : Option Addr) (n c : Nat) (l : List (Nat × Nat)) (hown : w.ownsRow base 102 2 (.slice A n c) n (numsL l)) (r : Nat × Nat) (hn : n ≤ 1000000) (hbase : base ≤ w.heap.size) :
    ∃ A' c' w', (Builtin.append_ #[67, 67] 67 #[.slice A n c, .slice (some ⟨w.heap.size, 0, none⟩) 1 1]).run Tryz.prog (w.alloc (.cells #[.int .u32 (r.1 : Int), .int .i64 (r.2 : Int)] 102)) = .ok (.slice A' (n + 1) c') w' ∧
      w'.ownsRow base 102 2 (.slice A' (n + 1) c') (n + 1) (numsL (l ++ [r])) ∧ Below base w w' := by
  have hb1 : Below base w (w.alloc (.cells #[.int .u32 (r.1 : Int), .int .i64 (r.2 : Int)] 102)) := (Below.refl base w).alloc hbase _
  obtain ⟨A', c', w', h2, o2, b2⟩ := run_app (by_ := 16) Tryz.underlying67 infoNum rfl (by decide) (w.alloc (.cells #[.int .u32 (r.1 : Int), .int .i64 (r.2 : Int)] 102)) base _ (.slice A n c) n _ (hown.alloc _) _ 1 1 _
    (SrcL.new w 2 1 #[.int .u32 (r.1 : Int), .int .i64 (r.2 : Int)] 102 rfl) (fun u hu => by simp at hu; rcases hu with rfl | rfl <;> rfl) (by unfold maxLen; omega) (by omega) 67 (fun h => by cases h) (Nat.le_trans hbase hb1.size)
  refine ⟨A', c', w', h2, ?_, hb1.trans b2⟩
  rw [numsL_app]
  exact o2
/-- A slice of runs, its room too. -/
def NuR (w : World) (B : Nat) (A : Option Addr) (n c : Nat) (l : List (Nat × Nat)) : Prop := n = l.length ∧ RdN w B A l ∧ (A = none → c = 0) ∧ n ≤ c ∧ c ≤ maxLen
theorem NuR.below {w w' : World} {B B' n c : Nat} {A : Option Addr} {l : List (Nat × Nat)} (h : NuR w B A n c l) (hb : Below B' w w') (hB : B ≤ B') : NuR w' B A n c l := ⟨h.1, h.2.1.below hb hB, h.2.2⟩
theorem NuR.more {w : World} {B B' n c : Nat} {A : Option Addr} {l : List (Nat × Nat)} (h : NuR w B A n c l) (hB : B ≤ B') : NuR w B' A n c l := ⟨h.1, h.2.1.more hB, h.2.2⟩
theorem NuR.nil (w : World) (B : Nat) : NuR w B none 0 0 [] := ⟨rfl, RdN.nil w B none, fun _ => rfl, Nat.le_refl _, by unfold maxLen; omega⟩
theorem NuR.of_own {w : World} {base n c : Nat} {A : Option Addr} {l : List (Nat × Nat)} (h : w.ownsRow base 102 2 (.slice A n c) n (numsL l)) : NuR w w.heap.size A n c l := by
  obtain ⟨h1, h2⟩ := RdN.of_own h
  refine ⟨h1, h2, ?_⟩
  rcases h.2 with ⟨hv, h0⟩ | ⟨g, cap, cur, hv, _, _, k1, k2, _⟩
  · injection hv with h3 h4 h5
    exact ⟨fun _ => h5, by omega, by unfold maxLen; omega⟩
  · injection hv with h3 h4 h5
    exact ⟨(fun h => by rw [h] at h3; cases h3), by omega, by omega⟩
/-- A row of the call's own stays where all that was there does. -/
theorem own_keepG {w w' : World} {base : Nat} {e : TypeId} {sz : Nat} {v : Value} {n : Nat} {xs : List Value} (h : w.ownsRow base e sz v n xs) (hb : Below w.heap.size w w') : w'.ownsRow base e sz v n xs := by
  obtain ⟨h1, h2⟩ := h
  refine ⟨h1, ?_⟩
  rcases h2 with h2 | ⟨g, cap, cur, hv, hg, hh, r⟩
  · exact .inl h2
  · exact .inr ⟨g, cap, cur, hv, hg, (hb.block g (Array.getElem?_eq_some_iff.1 hh).1).trans hh, r⟩
/-- Some numbers more behind a row of the call's own: a literal's row, just made. -/
theorem run_moreN (w : World) (base : Nat) (A : Option Addr) (n c : Nat) (l : List (Nat × Nat)) (hown : w.ownsRow base 102 2 (.slice A n c) n (numsL l)) (m : List (Nat × Nat)) (k : Nat) (hk : k = m.length) (cs : Array Value) (hcs : cs.toList = numsL m) (hn : n + k ≤ 1000000) (hbase : base ≤ w.heap.size) :
    ∃ A' c' w', (Builtin.append_ #[67, 67] 67 #[.slice A n c, .slice (some ⟨w.heap.size, 0, none⟩) k k]).run Tryz.prog (w.alloc (.cells cs 102)) = .ok (.slice A' (n + k) c') w' ∧
      w'.ownsRow base 102 2 (.slice A' (n + k) c') (n + k) (numsL (l ++ m)) ∧ Below base w w' := by
  subst hk
  have hb1 : Below base w (w.alloc (.cells cs 102)) := (Below.refl base w).alloc hbase _
  have hsz : cs.size = m.length * 2 := by rw [← Array.length_toList, hcs, numsL_length]
  obtain ⟨A', c', w', h2, o2, b2⟩ := run_app (by_ := 16) Tryz.underlying67 infoNum rfl (by decide) (w.alloc (.cells cs 102)) base _ (.slice A n c) n _ (hown.alloc _) _ m.length m.length _
    (SrcL.new w 2 m.length cs 102 hsz) (fun u hu => by rw [hcs] at hu; exact numsL_one m u hu) (by unfold maxLen; omega) (by omega) 67 (fun h => by cases h) (Nat.le_trans hbase hb1.size)
  refine ⟨A', c', w', h2, ?_, hb1.trans b2⟩
  rw [numsL_app, ← hcs]
  exact o2
end Go.Proofs.YtjhljkhgjcckhaaGreat

