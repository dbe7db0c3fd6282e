/-
  Layer 3 (canon): a tally of lengths: numbers, and what lies in memory.
-/
import Derived.Test.YtedjapamimhglaaCanonNum
import Derived.Test.YtedjapamimhglaaCodeMem
import Derived.Test.YtedjapamimhglaaNums
import Derived.Deep.WholeRow
import Derived.OneCell
namespace Go.Proofs.Ytedjapamimhglaa
open Go.RowKit
/-- How many of the first n lengths are m; those of 0 are not counted. -/
def tcN (f : Nat → Nat) (m : Nat) : Nat → Nat
  | 0 => 0
  | n + 1 => tcN f m n + if 0 < f n ∧ f n = m then 1 else 0
theorem cntN_le (f : Nat → Nat) (m : Nat) : ∀ n, tcN f m n ≤ n
  | 0 => Nat.le_refl _
  | n + 1 => by have := cntN_le f m n; simp only [tcN]; split <;> omega
theorem cntN_zero (f : Nat → Nat) : ∀ n, tcN f 0 n = 0
  | 0 => rfl
  | n + 1 => by simp only [tcN]; rw [cntN_zero f n, if_neg (by omega)]
theorem inN_cnt (f : Nat → Nat) {m : Nat} (hm : 0 < m) : ∀ n, inN f m n = tcN f m n * pt m
  | 0 => by simp [inN, tcN]
  | n + 1 => by
    simp only [inN, tcN]
    rw [inN_cnt f hm n]
    by_cases h : f n = m
    · rw [if_pos h, if_pos ⟨by omega, h⟩, Nat.add_mul, Nat.one_mul]
    · rw [if_neg h, if_neg (fun g => h g.2)]; rfl
/-- How many have the lengths 1 to m. -/
def sumC (f : Nat → Nat) (n : Nat) : Nat → Nat
  | 0 => 0
  | m + 1 => sumC f n m + tcN f (m + 1) n
theorem sumC_none (f : Nat → Nat) : ∀ M, sumC f 0 M = 0
  | 0 => rfl
  | M + 1 => by simp only [sumC, tcN]; rw [sumC_none f M]
theorem sumC_more (f : Nat → Nat) (n : Nat) : ∀ M, sumC f (n + 1) M = sumC f n M + if 0 < f n ∧ f n ≤ M then 1 else 0
  | 0 => by rw [if_neg (by omega)]; rfl
  | M + 1 => by
    simp only [sumC, tcN]
    rw [sumC_more f n M]
    repeat' split
    all_goals omega
theorem usedN_sum (f : Nat → Nat) : ∀ n, (∀ j, j < n → f j ≤ 15) → usedN f n = sumC f n 15
  | 0, _ => (sumC_none f 15).symm
  | n + 1, h => by
    rw [sumC_more, ← usedN_sum f n (fun j hj => h j (by omega))]
    simp only [usedN]
    have := h n (by omega)
    by_cases h1 : 0 < f n
    · rw [if_pos h1, if_pos ⟨h1, this⟩]
    · rw [if_neg h1, if_neg (fun g => h1 g.1)]
/-! ### what is left over -/
def leftI (t : Nat → Nat) : Nat → Int
  | 0 => 1
  | k + 1 => 2 * leftI t k - (t (k + 1) : Int)
theorem leftI_bd {t : Nat → Nat} (ht : ∀ m, t m ≤ 1000) : ∀ k, leftI t k ≤ ((2 ^ k : Nat) : Int) ∧ 1000 - ((1000 * 2 ^ k : Nat) : Int) ≤ leftI t k
  | 0 => by simp [leftI]
  | k + 1 => by
    have := leftI_bd ht k
    have h1 := ht (k + 1)
    simp only [leftI, Nat.pow_succ]
    omega
theorem leftI_in {t : Nat → Nat} (ht : ∀ m, t m ≤ 1000) {k : Nat} (hk : k ≤ 15) : leftI t k ≤ 32768 ∧ -32768000 ≤ leftI t k := by
  have := leftI_bd ht k
  have h2 : (2 : Nat) ^ k ≤ 2 ^ 15 := Nat.pow_le_pow_right (by omega) hk
  have h3 : (2 : Nat) ^ 15 = 32768 := rfl
  omega
theorem leftI_sum (f : Nat → Nat) (n : Nat) : ∀ k, k ≤ 15 → leftI (fun m => tcN f m n) k * (pt k : Int) = 32768 - (sumTo f n k : Int)
  | 0, _ => by simp [leftI, sumTo, pt]
  | k + 1, h => by
    have ih := leftI_sum f n k (by omega)
    have e : pt k = pt (k + 1) * 2 := by rw [pt_mul (Nat.le_succ k) h, show k + 1 - k = 1 by omega]
    simp only [leftI, sumTo]
    rw [inN_cnt f (by omega), Int.sub_mul, Int.natCast_add, Int.natCast_mul]
    rw [e, Int.natCast_mul, ← Int.mul_assoc] at ih
    have h2 : 2 * leftI (fun m => tcN f m n) k * (pt (k + 1) : Int) = leftI (fun m => tcN f m n) k * (pt (k + 1) : Int) * ((2 : Nat) : Int) := by
      rw [Int.mul_comm 2, Int.mul_assoc, Int.mul_comm 2, ← Int.mul_assoc]; rfl
    rw [h2]
    omega
theorem left_all {f : Nat → Nat} {n : Nat} (h : ∀ j, j < n → f j ≤ 15) : leftI (fun m => tcN f m n) 15 = 32768 - (allN f n : Int) := by
  have := leftI_sum f n 15 (Nat.le_refl _)
  rw [allN_sum f n h]
  rw [← this, show pt 15 = 1 from rfl]; simp
/-! ### no symbol, and one of length 1 -/
def oneT (m : Nat) : Nat := if m = 1 then 1 else 0
theorem sumC_all (f : Nat → Nat) (n : Nat) : sumC f n 15 = 0 + tcN f 1 n + tcN f 2 n + tcN f 3 n + tcN f 4 n + tcN f 5 n + tcN f 6 n + tcN f 7 n + tcN f 8 n + tcN f 9 n + tcN f 10 n + tcN f 11 n + tcN f 12 n + tcN f 13 n + tcN f 14 n + tcN f 15 n := rfl
theorem none_iff {f : Nat → Nat} {n : Nat} (h : ∀ j, j < n → f j ≤ 15) : (∀ m, m < 16 → tcN f m n = 0) ↔ usedN f n = 0 := by
  rw [usedN_sum f n h]
  constructor
  · intro g
    have : ∀ M, M < 16 → sumC f n M = 0 := by
      intro M
      induction M with
      | zero => intro _; rfl
      | succ M ih => intro hM; simp only [sumC]; rw [ih (by omega), g (M + 1) hM]
    exact this 15 (by omega)
  · intro g m hm
    have hz := cntN_zero f n
    rw [sumC_all] at g
    obtain rfl | rfl | rfl | rfl | rfl | rfl | rfl | rfl | rfl | rfl | rfl | rfl | rfl | rfl | rfl | rfl : m = 0 ∨ m = 1 ∨ m = 2 ∨ m = 3 ∨ m = 4 ∨ m = 5 ∨ m = 6 ∨ m = 7 ∨ m = 8 ∨ m = 9 ∨ m = 10 ∨ m = 11 ∨ m = 12 ∨ m = 13 ∨ m = 14 ∨ m = 15 := by omega
    all_goals omega
theorem half_bd (c1 c2 c3 c4 c5 c6 c7 c8 c9 c10 c11 c12 c13 c14 c15 : Nat) : c1 * 16384 + c2 * 8192 + c3 * 4096 + c4 * 2048 + c5 * 1024 + c6 * 512 + c7 * 256 + c8 * 128 + c9 * 64 + c10 * 32 + c11 * 16 + c12 * 8 + c13 * 4 + c14 * 2 + c15 * 1 ≤ 8192 * (0 + c1 + c2 + c3 + c4 + c5 + c6 + c7 + c8 + c9 + c10 + c11 + c12 + c13 + c14 + c15) + 8192 * c1 := by omega
theorem one_iff {f : Nat → Nat} {n : Nat} (h : ∀ j, j < n → f j ≤ 15) : (∀ m, m < 16 → tcN f m n = oneT m) ↔ usedN f n = 1 ∧ allN f n = 16384 := by
  rw [usedN_sum f n h, allN_sum f n h]
  have hp : ∀ m, 0 < m → inN f m n = tcN f m n * pt m := fun m hm => inN_cnt f hm n
  have e : sumTo f n 15 = tcN f 1 n * 16384 + tcN f 2 n * 8192 + tcN f 3 n * 4096 + tcN f 4 n * 2048 + tcN f 5 n * 1024 + tcN f 6 n * 512 + tcN f 7 n * 256 + tcN f 8 n * 128 + tcN f 9 n * 64 + tcN f 10 n * 32 + tcN f 11 n * 16 + tcN f 12 n * 8 + tcN f 13 n * 4 + tcN f 14 n * 2 + tcN f 15 n * 1 := by
    simp only [sumTo]
    rw [hp 1 (by omega), hp 2 (by omega), hp 3 (by omega), hp 4 (by omega), hp 5 (by omega), hp 6 (by omega), hp 7 (by omega), hp 8 (by omega), hp 9 (by omega), hp 10 (by omega), hp 11 (by omega), hp 12 (by omega), hp 13 (by omega), hp 14 (by omega), hp 15 (by omega)]
    have : pt 1 = 16384 ∧ pt 2 = 8192 ∧ pt 3 = 4096 ∧ pt 4 = 2048 ∧ pt 5 = 1024 ∧ pt 6 = 512 ∧ pt 7 = 256 ∧ pt 8 = 128 ∧ pt 9 = 64 ∧ pt 10 = 32 ∧ pt 11 = 16 ∧ pt 12 = 8 ∧ pt 13 = 4 ∧ pt 14 = 2 ∧ pt 15 = 1 := by decide
    obtain ⟨h1, h2, h3, h4, h5, h6, h7, h8, h9, h10, h11, h12, h13, h14, h15⟩ := this
    rw [h1, h2, h3, h4, h5, h6, h7, h8, h9, h10, h11, h12, h13, h14, h15]
    omega
  rw [e]
  clear hp e
  rw [sumC_all]
  constructor
  · intro g
    rw [g 1 (by omega), g 2 (by omega), g 3 (by omega), g 4 (by omega), g 5 (by omega), g 6 (by omega), g 7 (by omega), g 8 (by omega), g 9 (by omega), g 10 (by omega), g 11 (by omega), g 12 (by omega), g 13 (by omega), g 14 (by omega), g 15 (by omega)]
    decide
  · rintro ⟨g1, g2⟩ m hm
    have hz := cntN_zero f n
    have hone : tcN f 1 n = 1 := by
      have h1 : 16384 ≤ 8192 * 1 + 8192 * tcN f 1 n := by
        have := half_bd (tcN f 1 n) (tcN f 2 n) (tcN f 3 n) (tcN f 4 n) (tcN f 5 n) (tcN f 6 n) (tcN f 7 n) (tcN f 8 n) (tcN f 9 n) (tcN f 10 n) (tcN f 11 n) (tcN f 12 n) (tcN f 13 n) (tcN f 14 n) (tcN f 15 n)
        rw [g1, g2] at this
        exact this
      clear g2
      omega
    clear g2
    rw [hone] at g1
    obtain rfl | rfl | rfl | rfl | rfl | rfl | rfl | rfl | rfl | rfl | rfl | rfl | rfl | rfl | rfl | rfl : m = 0 ∨ m = 1 ∨ m = 2 ∨ m = 3 ∨ m = 4 ∨ m = 5 ∨ m = 6 ∨ m = 7 ∨ m = 8 ∨ m = 9 ∨ m = 10 ∨ m = 11 ∨ m = 12 ∨ m = 13 ∨ m = 14 ∨ m = 15 := by omega
    all_goals (unfold oneT; first | exact hone | (rw [if_neg (by decide)]; omega))
/-! ### the first code of each length -/
def fstN (t : Nat → Nat) : Nat → Nat
  | 0 => 0
  | m + 1 => 2 * (fstN t m + t m)
theorem fstN_bd {t : Nat → Nat} (ht : ∀ m, t m ≤ 1000) : ∀ k, fstN t k + 2000 ≤ 2000 * 2 ^ k
  | 0 => by simp [fstN]
  | k + 1 => by
    have := fstN_bd ht k
    have h1 := ht k
    simp only [fstN, Nat.pow_succ]
    omega
theorem fstN_in {t : Nat → Nat} (ht : ∀ m, t m ≤ 1000) {k : Nat} (hk : k ≤ 16) : fstN t k ≤ 131072000 := by
  have := fstN_bd ht k
  have h2 : (2 : Nat) ^ k ≤ 2 ^ 16 := Nat.pow_le_pow_right (by omega) hk
  have h3 : (2 : Nat) ^ 16 = 65536 := rfl
  omega
theorem fst_sum (f : Nat → Nat) (n : Nat) : ∀ m, m < 15 → fstN (fun m => tcN f m n) (m + 1) * pt (m + 1) = sumTo f n m
  | 0, _ => by simp only [fstN, sumTo, cntN_zero]; omega
  | m + 1, h => by
    have ih := fst_sum f n m (by omega)
    have e : pt (m + 1) = pt (m + 2) * 2 := by rw [pt_mul (Nat.le_succ (m + 1)) h, show m + 1 + 1 - (m + 1) = 1 by omega]
    have e1 : fstN (fun m => tcN f m n) (m + 1 + 1) = 2 * (fstN (fun m => tcN f m n) (m + 1) + tcN f (m + 1) n) := rfl
    have e2 : sumTo f n (m + 1) = sumTo f n m + inN f (m + 1) n := rfl
    rw [e1, e2, inN_cnt f (by omega), ← ih, ← Nat.add_mul, e, Nat.mul_comm 2, Nat.mul_assoc, Nat.mul_comm 2]
/-- The next code, when those of the first i symbols are told. -/
def nxtN (f : Nat → Nat) (n i m : Nat) : Nat := fstN (fun m => tcN f m n) m + tcN f m i
theorem nxt_code {f : Nat → Nat} {n i : Nat} (h0 : 0 < f i) (h : f i ≤ 15) : codeB f n i = nxtN f n i (f i) := by
  unfold codeB nxtN stN
  rw [if_neg (by omega)]
  obtain ⟨m, hm⟩ : ∃ m, f i = m + 1 := ⟨f i - 1, by omega⟩
  rw [hm, Nat.add_sub_cancel, ← fst_sum f n m (by omega), inN_cnt f (by omega), ← Nat.add_mul]
  exact Nat.mul_div_cancel _ (pt_pos (by omega))
theorem nxt_step {f : Nat → Nat} {n i : Nat} (h0 : 0 < f i) : upd (nxtN f n i) (f i) (nxtN f n i (f i) + 1) = nxtN f n (i + 1) := by
  funext m
  unfold upd nxtN
  simp only [tcN]
  by_cases e : m = f i
  · subst e; rw [if_pos rfl, if_pos ⟨h0, rfl⟩]; omega
  · rw [if_neg e, if_neg (fun g => e g.2.symm)]; rfl
theorem nxt_skip {f : Nat → Nat} {n i : Nat} (h0 : f i = 0) : nxtN f n i = nxtN f n (i + 1) := by
  funext m
  unfold nxtN
  simp only [tcN]
  rw [if_neg (by omega)]; rfl
theorem nxt_none (f : Nat → Nat) (n : Nat) : fstN (fun m => tcN f m n) = nxtN f n 0 := rfl
theorem cnt_step {f : Nat → Nat} {i : Nat} (h0 : 0 < f i) : upd (fun m => tcN f m i) (f i) (tcN f (f i) i + 1) = fun m => tcN f m (i + 1) := by
  funext m
  unfold upd
  simp only [tcN]
  by_cases e : m = f i
  · subst e; rw [if_pos rfl, if_pos ⟨h0, rfl⟩]
  · rw [if_neg e, if_neg (fun g => e g.2.symm)]; rfl
theorem cnt_skip {f : Nat → Nat} {i : Nat} (h0 : f i = 0) : (fun m => tcN f m i) = fun m => tcN f m (i + 1) := by
  funext m
  simp only [tcN]
  rw [if_neg (by omega)]; rfl
/-! ### memory -/
def talL (g : Nat → Nat) : List Value := (List.range 16).map fun i => .int .i64 (g i : Int)
def talA (g : Nat → Nat) : Array Value := (talL g).toArray
theorem talA_size (g : Nat → Nat) : (talA g).size = 16 := by simp [talA, talL]
theorem talA_get (g : Nat → Nat) (i : Nat) : (talA g)[i]? = if i < 16 then some (.int .i64 (g i : Int)) else none := by
  unfold talA talL
  by_cases h : i < 16 <;> simp [h]
theorem talA_one (g : Nat → Nat) : (talA g).all (·.oneCell') = true := by
  rw [Array.all_eq_true]
  intro i hi
  have : (talA g)[i] = .int .i64 (g i : Int) := by simp [talA, talL]
  rw [this]; rfl
theorem talA_ext {g h : Nat → Nat} (e : ∀ i, i < 16 → g i = h i) : talA g = talA h := by
  apply Array.ext_getElem?
  intro i
  rw [talA_get, talA_get]
  split
  · rename_i hi; rw [e i hi]
  · rfl
theorem talA_set (g : Nat → Nat) (i x : Nat) : (talA g).setIfInBounds i (.int .i64 (x : Int)) = talA (upd g i x) := by
  apply Array.ext_getElem?
  intro j
  rw [Array.getElem?_setIfInBounds, talA_get, talA_get, talA_size]
  unfold upd
  by_cases e : i = j
  · subst e
    by_cases h : i < 16 <;> simp [h]
  · have e' : ¬ j = i := fun h => e h.symm
    simp [e, e']
theorem infoTal : (Try.prog.info? 79).map (fun i => (i.zero, i.size)) = some (some (.agg (talA zeroN)), 16) := by kernel_rfl
theorem szTal : (Try.prog.info? 79).map (·.size) = some 16 := (zero_of_info infoTal).2
/-- A block that holds a tally. -/
def Tal (w : World) (b : Nat) (g : Nat → Nat) : Prop := w.heap[b]? = some (.cells (talA g) 79 (0, 0))
theorem Tal.lt {w : World} {b : Nat} {g : Nat → Nat} (h : Tal w b g) : b < w.heap.size := (Array.getElem?_eq_some_iff.1 h).1
theorem Tal.cell {w : World} {b : Nat} {g : Nat → Nat} (h : Tal w b g) {j : Nat} (hj : j < 16) : w.cell? ⟨b, j, none⟩ = some (.int .i64 (g j : Int)) := by
  rw [cell_of_row w b j _ _ (0, 0) h, talA_get, if_pos hj]
theorem Tal.frozen {w : World} {b : Nat} {g : Nat → Nat} (h : Tal w b g) (j : Nat) : w.frozen? ⟨b, j, none⟩ = false := frozen_of_row w b j _ _ h
theorem Tal.set {w : World} {b : Nat} {g : Nat → Nat} (h : Tal w b g) (i x : Nat) : Tal (w.setCell ⟨b, i, none⟩ (.int .i64 (x : Int))) b (upd g i x) := by
  unfold Tal
  rw [heap_setCell_same w b i _ _ _ h, talA_set]
theorem Tal.other {w : World} {b : Nat} {g : Nat → Nat} (h : Tal w b g) {p : Addr} (hp : b ≠ p.block) (u : Value) : Tal (w.setCell p u) b g := (Below.heap_setCell w p u b hp).trans h
theorem Tal.alloc {w : World} {b : Nat} {g : Nat → Nat} (h : Tal w b g) (o : Obj) : Tal (w.alloc o) b g := (Below.heap_alloc w o b h.lt).trans h
theorem Tal.below {w w' : World} {b B : Nat} {g : Nat → Nat} (h : Tal w b g) (hb : Below B w w') (hg : b < B) : Tal w' b g := (hb.block b hg).trans h
theorem tal_new (w : World) (g : Nat → Nat) : Tal (w.alloc (.cells (talA g) 79)) w.heap.size g := heap_alloc_new w _
theorem Tal.ext {w : World} {b : Nat} {g g' : Nat → Nat} (h : Tal w b g) (e : ∀ i, i < 16 → g i = g' i) : Tal w b g' := by
  unfold Tal at h ⊢; rw [← talA_ext e]; exact h
end Go.Proofs.Ytedjapamimhglaa
