/-
  Layer 11 (block), mathematics: the bits ahead of a block stay, its first three tell its kind; a block is as long whether it is the last one or not; a stored block.
-/
import Derived.ChangeKeysEq
import Derived.Laws.StructEq
import Derived.Deep.MidRow
import Derived.Deep.WholeRow
import Derived.OneCell
import Derived.Deep.DeepCutAuto
import Derived.Lib.AppendZeros
import Derived.LoopN
import Derived.Test.YtjhljkhgjcckhaaMgaa
import Derived.Test.YtjhljkhgjcckhaaMgab
import Derived.Test.YtjhljkhgjcckhaaMgac
namespace Go.Proofs.Ytjhljkhgjcckhaa
theorem ofR_cover : ∀ d prev l, l.length ≤ d → (∀ x ∈ l, x ≤ 15) → l.length ≤ 138 * (ofR d prev l).length
  | 0, _, l, h, _ => by omega
  | _ + 1, _, [], _, _ => by simp
  | d + 1, prev, x :: l, h, h15 => by
    obtain ⟨h1, h2, h3, h4, _⟩ := fstR_spec prev x (leadN x l + 1) (h15 x List.mem_cons_self) (by omega)
    have hl := leadN_le x l
    obtain ⟨R, hR⟩ : ∃ R, R = fstR prev x (leadN x l + 1) := ⟨_, rfl⟩
    simp only [ofR, List.length_cons]
    rw [← hR] at h1 h2 h3 h4 ⊢
    have h5 : (2 ^ bitsR R.1.1 : Nat) ≤ 128 := by
      have a : 2 ^ bitsR R.1.1 ≤ 2 ^ 7 := Nat.pow_le_pow_right (by omega) (bitsR_le' _)
      exact a
    have hk : R.2 ≤ 138 := by
      rw [← h3]
      have h6 : (2 : Nat) ^ bitsR R.1.1 = if R.1.1 = 16 then 4 else if R.1.1 = 17 then 8 else if R.1.1 = 18 then 128 else 1 := by
        unfold bitsR; split; rfl; split; rfl; split <;> rfl
      rw [h6] at h4
      unfold timesR
      by_cases c16 : R.1.1 = 16
      · rw [if_pos c16] at h4; rw [if_pos (.inl c16)]; omega
      · rw [if_neg c16] at h4
        by_cases c17 : R.1.1 = 17
        · rw [if_pos c17] at h4; rw [if_pos (.inr c17)]; omega
        · rw [if_neg c17] at h4
          rw [if_neg (by omega)]
          by_cases c18 : R.1.1 = 18
          · rw [if_pos c18] at h4; rw [if_pos c18]; omega
          · rw [if_neg c18]; omega
    have ih := ofR_cover d (some x) ((x :: l).drop R.2) (by rw [List.length_drop]; simp only [List.length_cons] at h ⊢; omega) (fun y hy => h15 y (List.mem_of_mem_drop hy))
    rw [List.length_drop, List.length_cons] at ih
    omega
theorem two_runs (l : List Tok) (hl : l.length ≤ 1000000) : 2 ≤ (runD l).length := by
  obtain ⟨_, _, _, _, a1, _, b1, _, _⟩ := dyn_ok l hl
  have h := ofR_cover (nA l + nB l - 0) (prvU (allF l) 0) (dropU (allF l) (nA l + nB l) 0) (by rw [dropU_length]; exact Nat.le_refl _) (dropU_mem (fun i _ => all_le l hl i))
  rw [dropU_length] at h
  have e : ofR (nA l + nB l - 0) (prvU (allF l) 0) (dropU (allF l) (nA l + nB l) 0) = runD l := rfl
  rw [e] at h
  omega
theorem bits_runs (F : Nat → Nat) : ∀ rs : List (Int × Int), (∀ r ∈ rs, 1 ≤ F r.1.toNat) → rs.length ≤ bitsT (rs.flatMap (runP F))
  | [], _ => by simp
  | r :: rs, h => by
    have h1 := h r List.mem_cons_self
    have := bits_runs F rs fun x hx => h x (List.mem_cons_of_mem _ hx)
    rw [List.flatMap_cons, bitsT_app, List.length_cons]
    have e : bitsT (runP F r) = F r.1.toNat + ((bitV r.1).toNat + 0) := rfl
    rw [e]; omega
theorem bits_map3 (f : Nat → Nat) (q : Nat) : ∀ n, bitsT ((List.range n).map fun i => (f i, q)) = q * n
  | 0 => rfl
  | n + 1 => by
    rw [List.range_succ, List.map_append, bitsT_app, bits_map3 f q n]
    simp only [List.map_cons, List.map_nil, bitsT]
    rw [Nat.mul_succ]; omega
theorem bits_toks (F : Nat → Nat) (n : Nat) (G : Nat → Nat) (m : Nat) (h256 : 1 ≤ F 256) : ∀ l : List Tok, (∀ t ∈ l, 1 ≤ F (symA t)) → l.length + 1 ≤ bitsT (toksP F n G m l)
  | [], _ => by
    have e : bitsT (toksP F n G m []) = F 256 + 0 := rfl
    rw [e]; simp; omega
  | t :: l, h => by
    have h1 := h t List.mem_cons_self
    have ih := bits_toks F n G m h256 l fun x hx => h x (List.mem_cons_of_mem _ hx)
    have e : toksP F n G m (t :: l) = tokP F n G m t ++ toksP F n G m l := by unfold toksP; rw [List.flatMap_cons, List.append_assoc]
    have e2 : F (symA t) ≤ bitsT (tokP F n G m t) := by
      unfold tokP symA
      by_cases h0 : t.n = 0
      · rw [if_pos h0, if_pos h0]; exact Nat.le_refl _
      · rw [if_neg h0, if_neg h0]; simp only [bitsT, codP]; omega
    rw [e, bitsT_app, List.length_cons]; omega
/-- A dynamic block is 31 bits and one of each token, and of End, at least, behind its first three. -/
theorem dyn_long (a n : Nat) (r : Nat → Nat) (l : List Tok) (last : Bool) (hl : l.length ≤ 100000) (hok : ∀ t ∈ l, mayT t = true ∧ t.x < 256) : l.length + 32 ≤ bitsT (blkP a 2 n r l last) := by
  obtain ⟨_, _, _, _, _, _, _, _, hA, _⟩ := dyn_ok l (by omega)
  obtain ⟨hr, hrl⟩ := run_ok l (by omega)
  obtain ⟨_, _, hR, _⟩ := lenM_may (c := cntR (runD l)) (n := 19) (most := 7) (by omega) (by omega) (by omega) (by decide) (fun i => by have := cntR_le (runD l) i; omega)
  have hR' : ∀ i, i < 19 → 0 < cntR (runD l) i → 1 ≤ lnR l i := fun i hi h => (hR i hi).2 h
  have h1 : l.length + 1 ≤ bitsT (toksP (lnA l) (nA l) (lnB l) (nB l) l) := bits_toks _ _ _ _ (hA 256 (by omega) (cntA_end l)).2 l fun t ht => (hA _ (sym_lt (hok t ht).1 (hok t ht).2).1 (cntA_pos ht)).2
  have h2 : (runD l).length ≤ bitsT ((runD l).flatMap (runP (lnR l))) := bits_runs _ _ fun t ht => by
    obtain ⟨s0, s18, -⟩ := hr t ht
    have hp : 0 < cntR (runD l) t.1.toNat := List.countP_pos_iff.2 ⟨t, ht, decide_eq_true (Int.toNat_of_nonneg s0).symm⟩
    exact hR' _ (by omega) hp
  have h3 := two_runs l (by omega)
  have h4 : 4 ≤ nR l := cutN_ge _ _ _
  have e : bitsT (dynP l) = 14 + 3 * nR l + bitsT ((runD l).flatMap (runP (lnR l))) := by
    unfold dynP
    have e4 : ∀ x y z : Nat, bitsT [(x, 5), (y, 5), (z, 4)] = 14 := fun _ _ _ => rfl
    rw [bitsT_app, bitsT_app, bits_map3, e4]
  have e2 : blkP a 2 n r l last = [(if last then 1 else 0, 1), (2, 2)] ++ (dynP l ++ toksP (lnA l) (nA l) (lnB l) (nB l) l) := by
    unfold blkP; rw [if_neg (show ¬ (2 : Nat) = 1 by omega), if_pos (show (2 : Nat) = 2 from rfl)]
  rw [e2, bitsT_app, bitsT_app, e]
  have e3 : ∀ b : Nat, bitsT [(b, 1), (2, 2)] = 3 := fun _ => rfl
  rw [e3]; omega
end Go.Proofs.Ytjhljkhgjcckhaa

namespace Go.Proofs.Ytjhljkhgjcckhaa
open Go.RowKit
def nilF : Nat → Nat := fun _ => 0
def tokA : Tok := ⟨97, 0, 0⟩
theorem val_abc : wrtE nilF 0 0 0 3 (lst [97, 98, 99]) [] true = 0 ∧ wrtK nilF 0 0 0 3 (lst [97, 98, 99]) [] true = 64 := by
  refine ⟨?_, ?_⟩ <;> kernel_rfl
theorem val_abcF : strB 8 (wrtF nilF 0 0 0 3 (lst [97, 98, 99]) [] true) = strL [1, 3, 0, 252, 255, 97, 98, 99] := by kernel_rfl
theorem val_none : wrtE nilF 0 0 1 0 (lst []) [] true = 0 ∧ wrtK nilF 0 0 1 0 (lst []) [] true = 10 := by
  refine ⟨?_, ?_⟩ <;> kernel_rfl
theorem val_noneF : strB 2 (wrtF nilF 0 0 1 0 (lst []) [] true) = strL [3, 0] := by kernel_rfl
theorem val_a : wrtE nilF 0 0 1 0 (lst []) [tokA] true = 0 ∧ wrtK nilF 0 0 1 0 (lst []) [tokA] true = 18 := by
  refine ⟨?_, ?_⟩ <;> kernel_rfl
theorem val_aF : strB 3 (wrtF nilF 0 0 1 0 (lst []) [tokA] true) = strL [75, 4, 0] := by kernel_rfl
theorem val_lng : lngE 0 0 0 [] = 0 ∧ lngV 0 0 0 nilF [] = 40 ∧ lngE 6 0 0 [] = 0 ∧ lngV 6 0 0 nilF [] = 42 ∧ lngE 0 3 0 [] = 2 ∧ lngE 8 0 0 [] = 2 := by
  refine ⟨?_, ?_, ?_, ?_, ?_, ?_⟩ <;> kernel_rfl
theorem val_best : bestE 0 3 [tokA, ⟨98, 0, 0⟩, ⟨99, 0, 0⟩] = 0 ∧ bestE 0 0 [] = 0 ∧ bestE (-1) 0 [] = 2 := by
  refine ⟨?_, ?_, ?_⟩ <;> kernel_rfl
theorem shF_one {f : Nat → Nat} (h0 : f 0 = 64) (h1 : f 1 = 34) (h2 : 35 ≤ f 2) : shF f 2 = 1 := by
  have e1 : shF f 1 = 1 := by
    show (if f 1 < f 0 then 1 else 0) = 1
    rw [if_pos (by omega)]
  show (if f 2 < f (shF f 1) then 2 else shF f 1) = 1
  rw [e1, if_neg (by omega)]
theorem val_bestV3 : bestV 0 3 (lst [97, 98, 99]) [tokA, ⟨98, 0, 0⟩, ⟨99, 0, 0⟩] = 1 := by
  have e0 : bestE 0 3 [tokA, ⟨98, 0, 0⟩, ⟨99, 0, 0⟩] = 0 := val_best.1
  have h0 : bitsT (blkP 0 0 3 (lst [97, 98, 99]) [tokA, ⟨98, 0, 0⟩, ⟨99, 0, 0⟩] false) = 64 := by kernel_rfl
  have h1 : bitsT (blkP 0 1 3 (lst [97, 98, 99]) [tokA, ⟨98, 0, 0⟩, ⟨99, 0, 0⟩] false) = 34 := by kernel_rfl
  have h2 := dyn_long 0 3 (lst [97, 98, 99]) [tokA, ⟨98, 0, 0⟩, ⟨99, 0, 0⟩] false (by simp) (by
    intro t ht
    simp only [List.mem_cons, List.not_mem_nil, or_false] at ht
    rcases ht with rfl | rfl | rfl <;> exact ⟨by decide, by decide⟩)
  simp only [List.length_cons, List.length_nil] at h2
  unfold bestV
  rw [if_pos e0]
  exact shF_one (f := fun k => bitsT (blkP 0 k 3 (lst [97, 98, 99]) [tokA, ⟨98, 0, 0⟩, ⟨99, 0, 0⟩] false)) h0 h1 (by omega)
theorem val_bestV0 : bestV 0 0 nilF [] = 1 := by kernel_rfl
end Go.Proofs.Ytjhljkhgjcckhaa

namespace Go.Proofs.Ytjhljkhgjcckhaa
open Go.RowKit Go.ChangeShapes Go.WideShapes Go.ChangeAt
theorem run_eqItems_nums {P : Program} (w : World) (d : Nat) {e : TypeId} {q : IntKind} (he : P.underlying e = some (.int q)) (xs ys : Array Value) (f g : Nat → Int) : ∀ (is : List Nat),
    (∀ i ∈ is, xs[i]? = some (.int q (f i)) ∧ ys[i]? = some (.int q (g i))) → (Op.eqItems (d + 1) e 1 xs ys is).run P w = .ok (decide (∀ i ∈ is, f i = g i)) w
  | [], _ => by simp [Op.eqItems]
  | i :: is, h => by
    obtain ⟨h1, h2⟩ := h i (by simp)
    have hp : ∀ (zs : Array Value) (z : Int), zs[i]? = some (.int q z) → (part e zs (i * 1)).run P w = .ok (.int q z) w := by
      intro zs z hz
      unfold part isAgg
      simp [Sem.run_bind, run_underlying he, hz]
    have h3 : (Op.equalIn (d + 1) e (.int q (f i)) (.int q (g i))).run P w = .ok (f i == g i) w := run_equalIn_int w d e q q _ _ he
    simp only [Op.eqItems, Sem.run_bind, hp _ _ h1, hp _ _ h2, h3, Result.andThen_ok]
    have ih := run_eqItems_nums w d he xs ys f g is (fun j hj => h j (by simp [hj]))
    by_cases hc : f i = g i
    · simp [hc, ih]
    · simp [hc]
end Go.Proofs.Ytjhljkhgjcckhaa

namespace Go.Proofs.Ytjhljkhgjcckhaa
open Go.RowKit
/-- How many of the first n lengths are m; those of 0 are not counted. -/
def tcN (f : Nat → Nat) (m : Nat) : Nat → Nat
  | 0 => 0
  | n + 1 => tcN f m n + if 0 < f n ∧ f n = m then 1 else 0
theorem cntN_le (f : Nat → Nat) (m : Nat) : ∀ n, tcN f m n ≤ n
  | 0 => Nat.le_refl _
  | n + 1 => by have := cntN_le f m n; simp only [tcN]; split <;> omega
theorem cntN_zero (f : Nat → Nat) : ∀ n, tcN f 0 n = 0
  | 0 => rfl
  | n + 1 => by simp only [tcN]; rw [cntN_zero f n, if_neg (by omega)]
theorem inN_cnt (f : Nat → Nat) {m : Nat} (hm : 0 < m) : ∀ n, inN f m n = tcN f m n * pt m
  | 0 => by simp [inN, tcN]
  | n + 1 => by
    simp only [inN, tcN]
    rw [inN_cnt f hm n]
    by_cases h : f n = m
    · rw [if_pos h, if_pos ⟨by omega, h⟩, Nat.add_mul, Nat.one_mul]
    · rw [if_neg h, if_neg (fun g => h g.2)]; rfl
/-- How many have the lengths 1 to m. -/
def sumC (f : Nat → Nat) (n : Nat) : Nat → Nat
  | 0 => 0
  | m + 1 => sumC f n m + tcN f (m + 1) n
theorem sumC_none (f : Nat → Nat) : ∀ M, sumC f 0 M = 0
  | 0 => rfl
  | M + 1 => by simp only [sumC, tcN]; rw [sumC_none f M]
theorem sumC_more (f : Nat → Nat) (n : Nat) : ∀ M, sumC f (n + 1) M = sumC f n M + if 0 < f n ∧ f n ≤ M then 1 else 0
  | 0 => by rw [if_neg (by omega)]; rfl
  | M + 1 => by
    simp only [sumC, tcN]
    rw [sumC_more f n M]
    repeat' split
    all_goals omega
theorem usedN_sum (f : Nat → Nat) : ∀ n, (∀ j, j < n → f j ≤ 15) → usedN f n = sumC f n 15
  | 0, _ => (sumC_none f 15).symm
  | n + 1, h => by
    rw [sumC_more, ← usedN_sum f n (fun j hj => h j (by omega))]
    simp only [usedN]
    have := h n (by omega)
    by_cases h1 : 0 < f n
    · rw [if_pos h1, if_pos ⟨h1, this⟩]
    · rw [if_neg h1, if_neg (fun g => h1 g.1)]
/-! ### what is left over -/
def leftI (t : Nat → Nat) : Nat → Int
  | 0 => 1
  | k + 1 => 2 * leftI t k - (t (k + 1) : Int)
theorem leftI_bd {t : Nat → Nat} (ht : ∀ m, t m ≤ 1000) : ∀ k, leftI t k ≤ ((2 ^ k : Nat) : Int) ∧ 1000 - ((1000 * 2 ^ k : Nat) : Int) ≤ leftI t k
  | 0 => by simp [leftI]
  | k + 1 => by
    have := leftI_bd ht k
    have h1 := ht (k + 1)
    simp only [leftI, Nat.pow_succ]
    omega
theorem leftI_in {t : Nat → Nat} (ht : ∀ m, t m ≤ 1000) {k : Nat} (hk : k ≤ 15) : leftI t k ≤ 32768 ∧ -32768000 ≤ leftI t k := by
  have := leftI_bd ht k
  have h2 : (2 : Nat) ^ k ≤ 2 ^ 15 := Nat.pow_le_pow_right (by omega) hk
  have h3 : (2 : Nat) ^ 15 = 32768 := rfl
  omega
theorem leftI_sum (f : Nat → Nat) (n : Nat) : ∀ k, k ≤ 15 → leftI (fun m => tcN f m n) k * (pt k : Int) = 32768 - (sumTo f n k : Int)
  | 0, _ => by simp [leftI, sumTo, pt]
  | k + 1, h => by
    have ih := leftI_sum f n k (by omega)
    have e : pt k = pt (k + 1) * 2 := by rw [pt_mul (Nat.le_succ k) h, show k + 1 - k = 1 by omega]
    simp only [leftI, sumTo]
    rw [inN_cnt f (by omega), Int.sub_mul, Int.natCast_add, Int.natCast_mul]
    rw [e, Int.natCast_mul, ← Int.mul_assoc] at ih
    have h2 : 2 * leftI (fun m => tcN f m n) k * (pt (k + 1) : Int) = leftI (fun m => tcN f m n) k * (pt (k + 1) : Int) * ((2 : Nat) : Int) := by
      rw [Int.mul_comm 2, Int.mul_assoc, Int.mul_comm 2, ← Int.mul_assoc]; rfl
    rw [h2]
    omega
theorem left_all {f : Nat → Nat} {n : Nat} (h : ∀ j, j < n → f j ≤ 15) : leftI (fun m => tcN f m n) 15 = 32768 - (allN f n : Int) := by
  have := leftI_sum f n 15 (Nat.le_refl _)
  rw [allN_sum f n h]
  rw [← this, show pt 15 = 1 from rfl]; simp
/-! ### no symbol, and one of length 1 -/
def oneT (m : Nat) : Nat := if m = 1 then 1 else 0
theorem sumC_all (f : Nat → Nat) (n : Nat) : sumC f n 15 = 0 + tcN f 1 n + tcN f 2 n + tcN f 3 n + tcN f 4 n + tcN f 5 n + tcN f 6 n + tcN f 7 n + tcN f 8 n + tcN f 9 n + tcN f 10 n + tcN f 11 n + tcN f 12 n + tcN f 13 n + tcN f 14 n + tcN f 15 n := rfl
theorem none_iff {f : Nat → Nat} {n : Nat} (h : ∀ j, j < n → f j ≤ 15) : (∀ m, m < 16 → tcN f m n = 0) ↔ usedN f n = 0 := by
  rw [usedN_sum f n h]
  constructor
  · intro g
    have : ∀ M, M < 16 → sumC f n M = 0 := by
      intro M
      induction M with
      | zero => intro _; rfl
      | succ M ih => intro hM; simp only [sumC]; rw [ih (by omega), g (M + 1) hM]
    exact this 15 (by omega)
  · intro g m hm
    have hz := cntN_zero f n
    rw [sumC_all] at g
    obtain rfl | rfl | rfl | rfl | rfl | rfl | rfl | rfl | rfl | rfl | rfl | rfl | rfl | rfl | rfl | rfl : m = 0 ∨ m = 1 ∨ m = 2 ∨ m = 3 ∨ m = 4 ∨ m = 5 ∨ m = 6 ∨ m = 7 ∨ m = 8 ∨ m = 9 ∨ m = 10 ∨ m = 11 ∨ m = 12 ∨ m = 13 ∨ m = 14 ∨ m = 15 := by omega
    all_goals omega
theorem half_bd (c1 c2 c3 c4 c5 c6 c7 c8 c9 c10 c11 c12 c13 c14 c15 : Nat) : c1 * 16384 + c2 * 8192 + c3 * 4096 + c4 * 2048 + c5 * 1024 + c6 * 512 + c7 * 256 + c8 * 128 + c9 * 64 + c10 * 32 + c11 * 16 + c12 * 8 + c13 * 4 + c14 * 2 + c15 * 1 ≤ 8192 * (0 + c1 + c2 + c3 + c4 + c5 + c6 + c7 + c8 + c9 + c10 + c11 + c12 + c13 + c14 + c15) + 8192 * c1 := by omega
theorem one_iff {f : Nat → Nat} {n : Nat} (h : ∀ j, j < n → f j ≤ 15) : (∀ m, m < 16 → tcN f m n = oneT m) ↔ usedN f n = 1 ∧ allN f n = 16384 := by
  rw [usedN_sum f n h, allN_sum f n h]
  have hp : ∀ m, 0 < m → inN f m n = tcN f m n * pt m := fun m hm => inN_cnt f hm n
  have e : sumTo f n 15 = tcN f 1 n * 16384 + tcN f 2 n * 8192 + tcN f 3 n * 4096 + tcN f 4 n * 2048 + tcN f 5 n * 1024 + tcN f 6 n * 512 + tcN f 7 n * 256 + tcN f 8 n * 128 + tcN f 9 n * 64 + tcN f 10 n * 32 + tcN f 11 n * 16 + tcN f 12 n * 8 + tcN f 13 n * 4 + tcN f 14 n * 2 + tcN f 15 n * 1 := by
    simp only [sumTo]
    rw [hp 1 (by omega), hp 2 (by omega), hp 3 (by omega), hp 4 (by omega), hp 5 (by omega), hp 6 (by omega), hp 7 (by omega), hp 8 (by omega), hp 9 (by omega), hp 10 (by omega), hp 11 (by omega), hp 12 (by omega), hp 13 (by omega), hp 14 (by omega), hp 15 (by omega)]
    have : pt 1 = 16384 ∧ pt 2 = 8192 ∧ pt 3 = 4096 ∧ pt 4 = 2048 ∧ pt 5 = 1024 ∧ pt 6 = 512 ∧ pt 7 = 256 ∧ pt 8 = 128 ∧ pt 9 = 64 ∧ pt 10 = 32 ∧ pt 11 = 16 ∧ pt 12 = 8 ∧ pt 13 = 4 ∧ pt 14 = 2 ∧ pt 15 = 1 := by decide
    obtain ⟨h1, h2, h3, h4, h5, h6, h7, h8, h9, h10, h11, h12, h13, h14, h15⟩ := this
    rw [h1, h2, h3, h4, h5, h6, h7, h8, h9, h10, h11, h12, h13, h14, h15]
    omega
  rw [e]
  clear hp e
  rw [sumC_all]
  constructor
  · intro g
    rw [g 1 (by omega), g 2 (by omega), g 3 (by omega), g 4 (by omega), g 5 (by omega), g 6 (by omega), g 7 (by omega), g 8 (by omega), g 9 (by omega), g 10 (by omega), g 11 (by omega), g 12 (by omega), g 13 (by omega), g 14 (by omega), g 15 (by omega)]
    decide
  · rintro ⟨g1, g2⟩ m hm
    have hz := cntN_zero f n
    have hone : tcN f 1 n = 1 := by
      have h1 : 16384 ≤ 8192 * 1 + 8192 * tcN f 1 n := by
        have := half_bd (tcN f 1 n) (tcN f 2 n) (tcN f 3 n) (tcN f 4 n) (tcN f 5 n) (tcN f 6 n) (tcN f 7 n) (tcN f 8 n) (tcN f 9 n) (tcN f 10 n) (tcN f 11 n) (tcN f 12 n) (tcN f 13 n) (tcN f 14 n) (tcN f 15 n)
        rw [g1, g2] at this
        exact this
      clear g2
      omega
    clear g2
    rw [hone] at g1
    obtain rfl | rfl | rfl | rfl | rfl | rfl | rfl | rfl | rfl | rfl | rfl | rfl | rfl | rfl | rfl | rfl : m = 0 ∨ m = 1 ∨ m = 2 ∨ m = 3 ∨ m = 4 ∨ m = 5 ∨ m = 6 ∨ m = 7 ∨ m = 8 ∨ m = 9 ∨ m = 10 ∨ m = 11 ∨ m = 12 ∨ m = 13 ∨ m = 14 ∨ m = 15 := by omega
    all_goals (unfold oneT; first | exact hone | (rw [if_neg (by decide)]; omega))
/-! ### the first code of each length -/
def fstN (t : Nat → Nat) : Nat → Nat
  | 0 => 0
  | m + 1 => 2 * (fstN t m + t m)
theorem fstN_bd {t : Nat → Nat} (ht : ∀ m, t m ≤ 1000) : ∀ k, fstN t k + 2000 ≤ 2000 * 2 ^ k
  | 0 => by simp [fstN]
  | k + 1 => by
    have := fstN_bd ht k
    have h1 := ht k
    simp only [fstN, Nat.pow_succ]
    omega
theorem fstN_in {t : Nat → Nat} (ht : ∀ m, t m ≤ 1000) {k : Nat} (hk : k ≤ 16) : fstN t k ≤ 131072000 := by
  have := fstN_bd ht k
  have h2 : (2 : Nat) ^ k ≤ 2 ^ 16 := Nat.pow_le_pow_right (by omega) hk
  have h3 : (2 : Nat) ^ 16 = 65536 := rfl
  omega
theorem fst_sum (f : Nat → Nat) (n : Nat) : ∀ m, m < 15 → fstN (fun m => tcN f m n) (m + 1) * pt (m + 1) = sumTo f n m
  | 0, _ => by simp only [fstN, sumTo, cntN_zero]; omega
  | m + 1, h => by
    have ih := fst_sum f n m (by omega)
    have e : pt (m + 1) = pt (m + 2) * 2 := by rw [pt_mul (Nat.le_succ (m + 1)) h, show m + 1 + 1 - (m + 1) = 1 by omega]
    have e1 : fstN (fun m => tcN f m n) (m + 1 + 1) = 2 * (fstN (fun m => tcN f m n) (m + 1) + tcN f (m + 1) n) := rfl
    have e2 : sumTo f n (m + 1) = sumTo f n m + inN f (m + 1) n := rfl
    rw [e1, e2, inN_cnt f (by omega), ← ih, ← Nat.add_mul, e, Nat.mul_comm 2, Nat.mul_assoc, Nat.mul_comm 2]
/-- The next code, when those of the first i symbols are told. -/
def nxtN (f : Nat → Nat) (n i m : Nat) : Nat := fstN (fun m => tcN f m n) m + tcN f m i
theorem nxt_code {f : Nat → Nat} {n i : Nat} (h0 : 0 < f i) (h : f i ≤ 15) : codeB f n i = nxtN f n i (f i) := by
  unfold codeB nxtN stN
  rw [if_neg (by omega)]
  obtain ⟨m, hm⟩ : ∃ m, f i = m + 1 := ⟨f i - 1, by omega⟩
  rw [hm, Nat.add_sub_cancel, ← fst_sum f n m (by omega), inN_cnt f (by omega), ← Nat.add_mul]
  exact Nat.mul_div_cancel _ (pt_pos (by omega))
theorem nxt_step {f : Nat → Nat} {n i : Nat} (h0 : 0 < f i) : upd (nxtN f n i) (f i) (nxtN f n i (f i) + 1) = nxtN f n (i + 1) := by
  funext m
  unfold upd nxtN
  simp only [tcN]
  by_cases e : m = f i
  · subst e; rw [if_pos rfl, if_pos ⟨h0, rfl⟩]; omega
  · rw [if_neg e, if_neg (fun g => e g.2.symm)]; rfl
theorem nxt_skip {f : Nat → Nat} {n i : Nat} (h0 : f i = 0) : nxtN f n i = nxtN f n (i + 1) := by
  funext m
  unfold nxtN
  simp only [tcN]
  rw [if_neg (by omega)]; rfl
theorem nxt_none (f : Nat → Nat) (n : Nat) : fstN (fun m => tcN f m n) = nxtN f n 0 := rfl
theorem cnt_step {f : Nat → Nat} {i : Nat} (h0 : 0 < f i) : upd (fun m => tcN f m i) (f i) (tcN f (f i) i + 1) = fun m => tcN f m (i + 1) := by
  funext m
  unfold upd
  simp only [tcN]
  by_cases e : m = f i
  · subst e; rw [if_pos rfl, if_pos ⟨h0, rfl⟩]
  · rw [if_neg e, if_neg (fun g => e g.2.symm)]; rfl
theorem cnt_skip {f : Nat → Nat} {i : Nat} (h0 : f i = 0) : (fun m => tcN f m i) = fun m => tcN f m (i + 1) := by
  funext m
  simp only [tcN]
  rw [if_neg (by omega)]; rfl
/-! ### memory -/
def talL (g : Nat → Nat) : List Value := (List.range 16).map fun i => .int .i64 (g i : Int)
def talA (g : Nat → Nat) : Array Value := (talL g).toArray
theorem talA_size (g : Nat → Nat) : (talA g).size = 16 := by simp [talA, talL]
theorem talA_get (g : Nat → Nat) (i : Nat) : (talA g)[i]? = if i < 16 then some (.int .i64 (g i : Int)) else none := by
  unfold talA talL
  by_cases h : i < 16 <;> simp [h]
theorem talA_one (g : Nat → Nat) : (talA g).all (·.oneCell') = true := by
  rw [Array.all_eq_true]
  intro i hi
  have : (talA g)[i] = .int .i64 (g i : Int) := by simp [talA, talL]
  rw [this]; rfl
theorem talA_ext {g h : Nat → Nat} (e : ∀ i, i < 16 → g i = h i) : talA g = talA h := by
  apply Array.ext_getElem?
  intro i
  rw [talA_get, talA_get]
  split
  · rename_i hi; rw [e i hi]
  · rfl
theorem talA_set (g : Nat → Nat) (i x : Nat) : (talA g).setIfInBounds i (.int .i64 (x : Int)) = talA (upd g i x) := by
  apply Array.ext_getElem?
  intro j
  rw [Array.getElem?_setIfInBounds, talA_get, talA_get, talA_size]
  unfold upd
  by_cases e : i = j
  · subst e
    by_cases h : i < 16 <;> simp [h]
  · have e' : ¬ j = i := fun h => e h.symm
    simp [e, e']
theorem infoTal : (Try.prog.info? 70).map (fun i => (i.zero, i.size)) = some (some (.agg (talA zeroN)), 16) := by kernel_rfl
theorem szTal : (Try.prog.info? 70).map (·.size) = some 16 := (zero_of_info infoTal).2
/-- A block that holds a tally. -/
def Tal (w : World) (b : Nat) (g : Nat → Nat) : Prop := w.heap[b]? = some (.cells (talA g) 70 (0, 0))
theorem Tal.lt {w : World} {b : Nat} {g : Nat → Nat} (h : Tal w b g) : b < w.heap.size := (Array.getElem?_eq_some_iff.1 h).1
theorem Tal.cell {w : World} {b : Nat} {g : Nat → Nat} (h : Tal w b g) {j : Nat} (hj : j < 16) : w.cell? ⟨b, j, none⟩ = some (.int .i64 (g j : Int)) := by
  rw [cell_of_row w b j _ _ (0, 0) h, talA_get, if_pos hj]
theorem Tal.frozen {w : World} {b : Nat} {g : Nat → Nat} (h : Tal w b g) (j : Nat) : w.frozen? ⟨b, j, none⟩ = false := frozen_of_row w b j _ _ h
theorem Tal.set {w : World} {b : Nat} {g : Nat → Nat} (h : Tal w b g) (i x : Nat) : Tal (w.setCell ⟨b, i, none⟩ (.int .i64 (x : Int))) b (upd g i x) := by
  unfold Tal
  rw [heap_setCell_same w b i _ _ _ h, talA_set]
theorem Tal.other {w : World} {b : Nat} {g : Nat → Nat} (h : Tal w b g) {p : Addr} (hp : b ≠ p.block) (u : Value) : Tal (w.setCell p u) b g := (Below.heap_setCell w p u b hp).trans h
theorem Tal.alloc {w : World} {b : Nat} {g : Nat → Nat} (h : Tal w b g) (o : Obj) : Tal (w.alloc o) b g := (Below.heap_alloc w o b h.lt).trans h
theorem Tal.below {w w' : World} {b B : Nat} {g : Nat → Nat} (h : Tal w b g) (hb : Below B w w') (hg : b < B) : Tal w' b g := (hb.block b hg).trans h
theorem Tal.ext {w : World} {b : Nat} {g g' : Nat → Nat} (h : Tal w b g) (e : ∀ i, i < 16 → g i = g' i) : Tal w b g' := by
  unfold Tal at h ⊢; rw [← talA_ext e]; exact h
end Go.Proofs.Ytjhljkhgjcckhaa

namespace Go.Proofs.Ytjhljkhgjcckhaa
open Go.RowKit
theorem wpList_store_rowT {P : Program} {ops : Array Oper} {rest : List Oper} {o : Oper} {a : Act} {w : World} {Q : Exit → Act → World → Prop} (hgd : o.guard = none) (ty : TypeId) (x y : Operand) (ho : o.op = .store ty x y)
    (g : Nat) (cells : Array Value) (hx : a.eval x = .pointer (some ⟨g, 0, none⟩)) (hy : a.eval y = .agg cells)
    (t : TypeId) (old : Array Value) (hg : w.heap[g]? = some (.cells old t (0, 0))) (hi : (P.info? ty).map (·.size) = some cells.size)
    (hold : old.size = cells.size) (h1 : cells.all (·.oneCell') = true)
    (h : wpList P ops Q rest (a.put o.dst undef) (w.setRow g cells)) : wpList P ops Q (o :: rest) a w :=
  wpList_plain hgd fun _ hK => wp_store_row ty x y ho g cells hx hy t old hg hi hold h1 (hK _ _ h)
theorem below_setRowT {B : Nat} {a w : World} (h : Below B a w) {g : Nat} (hp : B ≤ g) (cs : Array Value) : Below B a (w.setRow g cs) :=
  ⟨h.os, h.tape, h.output, by rw [size_setRow]; exact h.size, fun k hk => (setRow_other w g k cs (by omega)).trans (h.block k hk)⟩
theorem Tal.setRow {w : World} {b : Nat} {g h : Nat → Nat} (ht : Tal w b g) : Tal (w.setRow b (talA h)) b h := setRow_heap w b _ _ _ _ ht
set_option maxRecDepth 100000 in
set_option maxHeartbeats 1000000 in
theorem count_any (w : World) (A : Option Addr) (n c : Nat) (f : Nat → Nat) (hr : RdB w w.heap.size A n f) (hn : n ≤ 1000000) (h15 : ∀ j, j < n → f j ≤ 15) :
    Calls Try.prog 31 #[.slice A n c] w fun e w' => e = .returned (.agg (talA fun m => tcN f m n)) ∧ Below w.heap.size w w' := by
  have hz := (zero_of_info infoTal).1
  have HR := Lib.hid hr; have H15 := Lib.hid h15
  clear hr h15
  go_enter Try.func31, Try.ntmps31
  go_wp2
  go_loopw [8] (fun i wr => ∃ k : Nat, k ≤ n ∧ i = .int .i64 k ∧ Tal wr w.heap.size zeroN ∧ Tal wr (w.heap.size + 1) (fun m => tcN f m k) ∧ w.heap.size + 1 < wr.heap.size ∧ Below w.heap.size w wr) (fun i _ => n - (intOf i).toNat)
  case atStart =>
    exact ⟨0, Nat.zero_le _, rfl, heap_alloc2_old w _ _, heap_alloc2_new w _ _, by simp, ((Below.refl _ _).alloc (Nat.le_refl _) _).alloc (by simp) _⟩
  case round =>
    obtain ⟨k, hk, rfl, h0, h1, hsz, hb⟩ := hrel
    by_cases hlt : k < n
    · obtain ⟨b, o, rfl, _, hc⟩ := (HR.out.below hb (Nat.le_refl _)).2 (by omega)
      have hcell := hc k hlt
      have hf := H15.out k hlt
      have hcn := cntN_le f (f k) k
      clear hc
      by_cases hp : 0 < f k
      · have c1 := h1.cell (show f k < 16 by omega)
        have f1 := h1.frozen (f k)
        have H0 := Lib.hid h0; have H1 := Lib.hid h1; have HB := Lib.hid hb
        have HS := Lib.hid (cnt_step hp)
        clear h0 h1 hb
        obtain ⟨q, hq⟩ : ∃ q, q = tcN f (f k) k := ⟨_, rfl⟩
        have HQ := Lib.hid hq
        rw [← hq] at c1 hcn
        clear hq
        go_wp2
        go_roundw
        case rel =>
          have hset := H1.out.set (f k) (q + 1)
          rw [HQ.out, HS.out] at hset
          refine ⟨k + 1, by omega, by go_num, H0.out.other (by simp) _, ?_, by simpa [World.setCell] using hsz, HB.out.setCell (by simp) _⟩
          rw [HQ.out]; exact hset
        case measure => simp [intOf]; omega
      · have hz0 : f k = 0 := by omega
        have hno : decide (0 < ((f k : Nat) : Int)) = false := by simp; omega
        have H0 := Lib.hid h0; have H1 := Lib.hid h1; have HB := Lib.hid hb
        have HS := Lib.hid (cnt_skip hz0)
        clear h0 h1 hb hz0
        go_wp2
        go_roundw
        case rel =>
          refine ⟨k + 1, by omega, by go_num, H0.out, ?_, hsz, HB.out⟩
          rw [← HS.out]; exact H1.out
        case measure => simp [intOf]; omega
    · obtain rfl : k = n := by omega
      have H0 := Lib.hid h0; have H1 := Lib.hid h1; have HB := Lib.hid hb
      clear h0 h1 hb hlt hk
      go_wp2_with (first
        | (refine wpList_load_row rfl _ _ rfl (w.heap.size + 1) rfl _ (talA fun m => tcN f m k) (0, 0) _ H1.out Try.underlying70 rfl (by rw [talA_size]; exact szTal) ?_)
        | (refine wpList_store_rowT rfl _ _ _ rfl w.heap.size (talA fun m => tcN f m k) rfl rfl _ (talA zeroN) H0.out (by rw [talA_size]; exact szTal) (by rw [talA_size, talA_size]) (talA_one _) ?_))
      refine bodyPost_ret (v := .agg (talA fun m => tcN f m k)) ?_ rfl ⟨rfl, below_setRowT HB.out (Nat.le_refl _) _⟩
      exact results_cell_row rfl _ _ w.heap.size _ _ (0, 0) _ rfl (H0.out.setRow (h := fun m => tcN f m k)) Try.underlying70 rfl (by rw [talA_size]; exact szTal)
set_option maxRecDepth 100000 in
set_option maxHeartbeats 1000000 in
theorem left_any (w : World) (t : Nat → Nat) (ht : ∀ m, t m ≤ 1000) :
    Calls Try.prog 46 #[.agg (talA t)] w fun e w' => e = .returned (.int .i64 (leftI t 15)) ∧ Below w.heap.size w w' := by
  have HT := Lib.hid ht
  clear ht
  go_enter Try.func46, Try.ntmps46
  go_wp2
  go_loopw [3, 8] (fun l i wr => ∃ k : Nat, k ≤ 15 ∧ i = .int .i64 k ∧ l = .int .i64 (leftI t k) ∧ Tal wr w.heap.size t ∧ Below w.heap.size w wr) (fun _ i _ => 15 - (intOf i).toNat)
  case atStart => exact ⟨0, by omega, rfl, rfl, heap_alloc_new w _, (Below.refl _ _).alloc (Nat.le_refl _) _⟩
  case round =>
    obtain ⟨k, hk, rfl, rfl, ht, hb⟩ := hrel
    have HS := Lib.hid (show leftI t (k + 1) = 2 * leftI t k - (t (k + 1) : Int) from rfl)
    have hbd := leftI_in HT.out (k := k) (by omega)
    obtain ⟨l, hl⟩ : ∃ l, l = leftI t k := ⟨_, rfl⟩
    have HL := Lib.hid hl
    rw [← hl] at hbd HS ⊢
    clear hl
    obtain ⟨hbd1, hbd2⟩ := hbd
    by_cases hlt : k < 15
    · have c1 := ht.cell (show 1 + k < 16 by omega)
      have hm := HT.out (1 + k)
      have H1 := Lib.hid ht; have HB := Lib.hid hb
      clear ht hb
      go_wp2
      go_roundw
      case rel => exact ⟨k + 1, by omega, by go_num, val_int (by rw [HS.out, Nat.add_comm 1 k]), H1.out, HB.out⟩
      case measure => simp [intOf]; omega
    · obtain rfl : k = 15 := by omega
      have HB := Lib.hid hb
      clear ht hb hlt hk
      go_wp2
      go_ret
      exact ⟨ret_int (by rw [HL.out]), HB.out⟩
end Go.Proofs.Ytjhljkhgjcckhaa

namespace Go.Proofs.Ytjhljkhgjcckhaa
open Go.RowKit
theorem wpList_on {P : Program} {ops : Array Oper} {rest : List Oper} {o : Oper} {a : Act} {w : World} {Q : Exit → Act → World → Prop} (hw : Region.wanted o (yielded ops a.tmps) = true)
    (h : ∀ K : Act → World → Prop, (∀ a w, wpList P ops Q rest a w → K a w) → o.wp P a w K Q) : wpList P ops Q (o :: rest) a w :=
  wpList_step fun K hK => by rw [if_pos hw]; exact h K hK
theorem wpList_load_row_on {P : Program} {ops : Array Oper} {rest : List Oper} {o : Oper} {a : Act} {w : World} {Q : Exit → Act → World → Prop} (hw : Region.wanted o (yielded ops a.tmps) = true) (ty : TypeId) (x : Operand) (ho : o.op = .load ty x)
    (g : Nat) (hx : a.eval x = .pointer (some ⟨g, 0, none⟩)) (t : TypeId) (cs : Array Value) (fr : Nat × Nat) (d : TypeDesc) (hg : w.heap[g]? = some (.cells cs t fr))
    (hu : P.underlying ty = some d) (hd : (match d with | .struct _ | .array _ _ => true | _ => false) = true) (hi : (P.info? ty).map (·.size) = some cs.size)
    (h : wpList P ops Q rest (a.put o.dst (.agg cs)) w) : wpList P ops Q (o :: rest) a w :=
  wpList_on hw fun _ hK => wp_load_row ty x ho g hx t cs fr d hg hu hd hi (hK _ _ h)
theorem wpList_build_on {P : Program} {ops : Array Oper} {rest : List Oper} {o : Oper} {a : Act} {w : World} {Q : Exit → Act → World → Prop} (hw : Region.wanted o (yielded ops a.tmps) = true) (ty : TypeId) (parts : Array (Nat × Operand)) (ho : o.op = .build ty parts)
    (v : Value) (hrun : (Instr.build ty (parts.map fun (i, x) => (i, a.eval x))).run P w = .ok v w)
    (h : wpList P ops Q rest (a.put o.dst v) w) : wpList P ops Q (o :: rest) a w :=
  wpList_on hw fun K hK => by
    unfold Oper.wp execOp
    simp only [ho]
    simp [hrun]
    exact hK _ _ h
theorem wpList_neq_on {P : Program} {ops : Array Oper} {rest : List Oper} {o : Oper} {a : Act} {w : World} {Q : Exit → Act → World → Prop} (hw : Region.wanted o (yielded ops a.tmps) = true) (ty : TypeId) (x y : Operand) (ho : o.op = .binOp .neq ty x y ty)
    (u v : Value) (b : Bool) (hx : a.eval x = u) (hy : a.eval y = v) (hg : (eqGuard .neq ty x y u v).run P w = .ok () w) (hrun : (binOp .neq ty u v).run P w = .ok (.bool b) w)
    (h : wpList P ops Q rest (a.put o.dst (.bool b)) w) : wpList P ops Q (o :: rest) a w :=
  wpList_on hw fun K hK => by
    unfold Oper.wp execOp
    simp only [ho, hx, hy]
    simp [hrun, hg, Sem.run_bind]
    exact hK _ _ h
theorem guard_tal (w : World) (x y : Operand) (u v : Array Value) : (eqGuard .neq 70 x y (.agg u) (.agg v)).run Try.prog w = .ok () w := by
  have h : Try.prog.eqGuardType Try.prog.depth 70 = false := by kernel_rfl
  unfold eqGuard
  simp [Sem.run_bind, h]
def sameB (t g : Nat → Nat) : Bool := (List.range 16).all fun m => t m == g m
theorem sameB_iff (t g : Nat → Nat) : sameB t g = true ↔ ∀ m, m < 16 → t m = g m := by simp [sameB]
theorem run_neq_nums {P : Program} (w : World) {t e : TypeId} {n : Nat} {q : IntKind} (ht : P.underlying t = some (.array n e)) (he : P.underlying e = some (.int q)) (hce : P.cellsOf e = 1) (hi : (P.info? e).isSome = true)
    (xs ys : Array Value) (f g : Nat → Int) (hx : ∀ i, i < n → xs[i]? = some (.int q (f i))) (hy : ∀ i, i < n → ys[i]? = some (.int q (g i))) :
    (binOp .neq t (.agg xs) (.agg ys)).run P w = .ok (.bool (!decide (∀ i, i < n → f i = g i))) w := by
  obtain ⟨i, hi⟩ := Option.isSome_iff_exists.1 hi
  have h := run_equalIn_array (P := P) w 9999 xs ys ht hi
  rw [hce, run_eqItems_nums w 9998 he xs ys f g (List.range n) (fun i hi => by have := List.mem_range.1 hi; exact ⟨hx i this, hy i this⟩)] at h
  have e : (binOp .neq t (.agg xs) (.agg ys)).run P w = ((Op.equal t (.agg xs) (.agg ys)).run P w).andThen fun b w' => .ok (.bool (!b)) w' := by
    unfold binOp
    simp
  rw [e]
  unfold Op.equal Op.maxDepth
  rw [h]
  simp
theorem run_neq_tal (w : World) (t g : Nat → Nat) : (binOp .neq 70 (.agg (talA t)) (.agg (talA g))).run Try.prog w = .ok (.bool (!sameB t g)) w := by
  rw [run_neq_nums (P := Try.prog) w (n := 16) (q := .i64) Try.underlying70 Try.underlying3 (by kernel_rfl) (by kernel_rfl) (talA t) (talA g) (fun i => (t i : Int)) (fun i => (g i : Int)) (fun i hi => by rw [talA_get, if_pos hi]) (fun i hi => by rw [talA_get, if_pos hi])]
  have : (∀ i, i < 16 → (t i : Int) = (g i : Int)) ↔ sameB t g = true := ⟨fun h => (sameB_iff t g).2 fun m hm => by have := h m hm; omega, fun h m hm => by have := (sameB_iff t g).1 h m hm; omega⟩
  simp only [this]
  cases sameB t g <;> rfl
set_option maxRecDepth 100000 in
set_option maxHeartbeats 1000000 in
theorem chk_less (w : World) (t : Nat → Nat) (ht : ∀ m, t m ≤ 1000) (h : leftI t 15 < 0) :
    Calls Try.prog 32 #[.agg (talA t)] w fun e w' => e = .returned (.int .i64 30) ∧ Below w.heap.size w w' := by
  have HT := Lib.hid ht
  clear ht
  obtain ⟨l, hl⟩ : ∃ l, l = leftI t 15 := ⟨_, rfl⟩
  have HL := Lib.hid hl
  rw [← hl] at h
  clear hl
  go_enter Try.func32, Try.ntmps32
  have h1 : Tal (w.alloc (.cells (talA t) 70)) w.heap.size t := heap_alloc_new w _
  have H1 := Lib.hid h1
  have HB := Lib.hid ((Below.refl w.heap.size w).alloc (Nat.le_refl _) (.cells (talA t) 70))
  clear h1
  go_wp2_with (first
    | (refine wpList_load_row rfl _ _ rfl w.heap.size rfl _ (talA t) (0, 0) _ H1.out Try.underlying70 rfl (by rw [talA_size]; exact szTal) ?_)
    | (go_at_call 46; refine (left_any _ t HT.out).mono ?_; rintro e w' ⟨rfl, hb⟩; rw [← HL.out]; have HB2 := Lib.hid (HB.out.trans (hb.mono (by simp))); clear hb))
  go_ret
  exact ⟨rfl, HB2.out⟩
set_option maxRecDepth 100000 in
set_option maxHeartbeats 1000000 in
theorem chk_none (w : World) (t : Nat → Nat) (ht : ∀ m, t m ≤ 1000) (h : leftI t 15 = 0) :
    Calls Try.prog 32 #[.agg (talA t)] w fun e w' => e = .returned (.int .i64 0) ∧ Below w.heap.size w w' := by
  have HT := Lib.hid ht
  clear ht
  have HL := Lib.hid h
  clear h
  go_enter Try.func32, Try.ntmps32
  have h1 : Tal (w.alloc (.cells (talA t) 70)) w.heap.size t := heap_alloc_new w _
  have H1 := Lib.hid h1
  have HB := Lib.hid ((Below.refl w.heap.size w).alloc (Nat.le_refl _) (.cells (talA t) 70))
  clear h1
  go_wp2_with (first
    | (refine wpList_load_row rfl _ _ rfl w.heap.size rfl _ (talA t) (0, 0) _ H1.out Try.underlying70 rfl (by rw [talA_size]; exact szTal) ?_)
    | (go_at_call 46; refine (left_any _ t HT.out).mono ?_; rintro e w' ⟨rfl, hb⟩; rw [HL.out]; have HB2 := Lib.hid (HB.out.trans (hb.mono (by simp))); clear hb))
  go_ret
  exact ⟨rfl, HB2.out⟩
def moreE (z o : Bool) : Int := if z = false ∧ o = false then 31 else 0
set_option maxRecDepth 100000 in
set_option maxHeartbeats 1000000 in
theorem chk_more (w : World) (t : Nat → Nat) (ht : ∀ m, t m ≤ 1000) (h : 0 < leftI t 15) :
    Calls Try.prog 32 #[.agg (talA t)] w fun e w' => e = .returned (.int .i64 (moreE (sameB t zeroN) (sameB t oneT))) ∧ Below w.heap.size w w' := by
  have HT := Lib.hid ht
  have hbd := leftI_in ht (Nat.le_refl 15)
  obtain ⟨hbd1, hbd2⟩ := hbd
  clear ht
  obtain ⟨l, hl⟩ : ∃ l, l = leftI t 15 := ⟨_, rfl⟩
  have HL := Lib.hid hl
  rw [← hl] at h hbd1 hbd2
  clear hl
  have Q0 := Lib.hid fun u : World => run_neq_tal u t zeroN
  have Q1 := Lib.hid fun u : World => run_neq_tal u t oneT
  have hd : decide (l < 0) = false := by simp; omega
  cases hz : sameB t zeroN
  · rw [hz] at Q0
    cases ho : sameB t oneT
    all_goals
      rw [ho] at Q1
      clear hz ho
      go_enter Try.func32, Try.ntmps32
      have h1 : Tal (w.alloc (.cells (talA t) 70)) w.heap.size t := heap_alloc_new w _
      have H1 := Lib.hid h1
      have HB := Lib.hid ((Below.refl w.heap.size w).alloc (Nat.le_refl _) (.cells (talA t) 70))
      clear h1
      go_wp2_with (refine wpList_load_row rfl _ _ rfl w.heap.size rfl _ (talA t) (0, 0) _ H1.out Try.underlying70 rfl (by rw [talA_size]; exact szTal) ?_)
      refine (left_any _ t HT.out).mono ?_
      rintro e w' ⟨rfl, hb⟩
      rw [← HL.out]
      have HB2 := Lib.hid (HB.out.trans (hb.mono (by simp)))
      have HT2 := Lib.hid (H1.out.below hb (by simp))
      clear hb
      go_wp2_with (first
        | (refine wpList_load_row_on (by rfl) _ _ rfl w.heap.size rfl _ (talA t) (0, 0) _ HT2.out Try.underlying70 rfl (by rw [talA_size]; exact szTal) ?_)
        | (refine wpList_neq_on (by rfl) _ _ _ rfl (.agg (talA t)) (.agg (talA zeroN)) _ rfl rfl (guard_tal _ _ _ _ _) (Q0.out _) ?_)
        | (refine wpList_neq_on (by rfl) _ _ _ rfl (.agg (talA t)) (.agg (talA oneT)) _ rfl rfl (guard_tal _ _ _ _ _) (Q1.out _) ?_))
      go_ret
      exact ⟨rfl, HB2.out⟩
  · rw [hz] at Q0
    clear hz Q1
    have he : moreE true (sameB t oneT) = 0 := by unfold moreE; rw [if_neg (by simp)]
    rw [he]
    clear he
    go_enter Try.func32, Try.ntmps32
    have h1 : Tal (w.alloc (.cells (talA t) 70)) w.heap.size t := heap_alloc_new w _
    have H1 := Lib.hid h1
    have HB := Lib.hid ((Below.refl w.heap.size w).alloc (Nat.le_refl _) (.cells (talA t) 70))
    clear h1
    go_wp2_with (refine wpList_load_row rfl _ _ rfl w.heap.size rfl _ (talA t) (0, 0) _ H1.out Try.underlying70 rfl (by rw [talA_size]; exact szTal) ?_)
    refine (left_any _ t HT.out).mono ?_
    rintro e w' ⟨rfl, hb⟩
    rw [← HL.out]
    have HB2 := Lib.hid (HB.out.trans (hb.mono (by simp)))
    have HT2 := Lib.hid (H1.out.below hb (by simp))
    clear hb
    go_wp2_with (first
      | (refine wpList_load_row_on (by rfl) _ _ rfl w.heap.size rfl _ (talA t) (0, 0) _ HT2.out Try.underlying70 rfl (by rw [talA_size]; exact szTal) ?_)
      | (refine wpList_neq_on (by rfl) _ _ _ rfl (.agg (talA t)) (.agg (talA zeroN)) _ rfl rfl (guard_tal _ _ _ _ _) (Q0.out _) ?_))
    go_ret
    exact ⟨rfl, HB2.out⟩
/-- What check answers. -/
theorem chk_any (w : World) (f : Nat → Nat) (n : Nat) (hn : n ≤ 1000) (h15 : ∀ j, j < n → f j ≤ 15) :
    Calls Try.prog 32 #[.agg (talA fun m => tcN f m n)] w fun e w' => e = .returned (.int .i64 (endE (allN f n) (usedN f n))) ∧ Below w.heap.size w w' := by
  have ht : ∀ m, tcN f m n ≤ 1000 := fun m => Nat.le_trans (cntN_le f m n) hn
  have hl := left_all h15
  unfold endE
  by_cases h1 : 32768 < allN f n
  · rw [if_pos h1]; exact chk_less w _ ht (by omega)
  · rw [if_neg h1]
    by_cases h2 : allN f n = 32768
    · rw [if_pos (.inl h2)]; exact chk_none w _ ht (by omega)
    · have := chk_more w _ ht (by omega)
      have e : moreE (sameB (fun m => tcN f m n) zeroN) (sameB (fun m => tcN f m n) oneT) = if allN f n = 32768 ∨ usedN f n = 0 ∨ (usedN f n = 1 ∧ allN f n = 16384) then 0 else 31 := by
        have e0 : sameB (fun m => tcN f m n) zeroN = true ↔ usedN f n = 0 := (sameB_iff _ _).trans (none_iff h15)
        have e1 : sameB (fun m => tcN f m n) oneT = true ↔ usedN f n = 1 ∧ allN f n = 16384 := (sameB_iff _ _).trans (one_iff h15)
        unfold moreE
        simp only [← e0, ← e1]
        cases sameB (fun m => tcN f m n) zeroN <;> cases sameB (fun m => tcN f m n) oneT <;> simp [h2]
      rw [e] at this
      exact this
theorem kcheck_arg (w : World) (A : Option Addr) (n c : Nat) (most : Int) (h : most < 1 ∨ 15 < most) :
    Calls Try.prog 16 #[.slice A n c, .int .i64 most] w fun e w' => e = .returned (.int .i64 2) ∧ w = w' := by
  by_cases h1 : most < 1
  · have hd : decide (most < 1) = true := by simpa using h1
    clear h
    go_enter Try.func16, Try.ntmps16
    go_wp2
    go_ret
    exact ⟨rfl, rfl⟩
  · have h2 : 15 < most := by omega
    have hd : decide (most < 1) = false := by simpa using h1
    clear h
    go_enter Try.func16, Try.ntmps16
    go_wp2
    go_ret
    exact ⟨rfl, rfl⟩
theorem kcheck_many (w : World) (A : Option Addr) (n c : Nat) (most : Int) (h1 : 1 ≤ most) (h2 : most ≤ 15) (h : 320 < n) :
    Calls Try.prog 16 #[.slice A n c, .int .i64 most] w fun e w' => e = .returned (.int .i64 4) ∧ w = w' := by
  have hd : decide (most < 1) = false := by simp; omega
  have hd2 : decide (15 < most) = false := by simp; omega
  go_enter Try.func16, Try.ntmps16
  go_wp2
  go_ret
  exact ⟨rfl, rfl⟩
set_option maxRecDepth 100000 in
set_option maxHeartbeats 2000000 in
theorem kcheck_rest (w : World) (A : Option Addr) (n c : Nat) (f : Nat → Nat) (most : Int) (hr : RdB w w.heap.size A n f) (h1 : 1 ≤ most) (h2 : most ≤ 15) (h : n ≤ 320) :
    Calls Try.prog 16 #[.slice A n c, .int .i64 most] w fun e w' => e = .returned (.int .i64 (if bigB f n most = true then 2 else endE (allN f n) (usedN f n))) ∧ Below w.heap.size w w' := by
  have HR := Lib.hid hr
  clear hr
  have hd : decide (most < 1) = false := by simp; omega
  have hd2 : decide (15 < most) = false := by simp; omega
  have hd3 : decide ((320 : Int) < (n : Int)) = false := by simp; omega
  obtain ⟨E, hE⟩ : ∃ E, E = (if bigB f n most = true then 2 else endE (allN f n) (usedN f n)) := ⟨_, rfl⟩
  rw [← hE]
  have HE := Lib.hid hE
  clear hE
  go_enter Try.func16, Try.ntmps16
  go_wp2
  go_loop [18] (fun i => ∃ k : Nat, k ≤ n ∧ i = .int .i64 k ∧ ∀ j, j < k → (f j : Int) ≤ most) (fun i => n - (intOf i).toNat)
  case atStart => exact ⟨0, Nat.zero_le _, rfl, fun j hj => absurd hj (by omega)⟩
  case round =>
    obtain ⟨k, hk, rfl, hall⟩ := hrel
    have HALL := Lib.hid hall
    clear hall
    have hf := HR.out.1 k
    by_cases hlt : k < n
    · obtain ⟨b, o, rfl, _, hc⟩ := HR.out.2 (by omega)
      have hcell := hc k hlt
      clear hc
      by_cases hb : most < (f k : Int)
      · have HB := Lib.hid (bigB_yes hlt hb)
        go_wp2
        go_ret
        exact ⟨ret_int (by rw [HE.out, if_pos HB.out]), Below.refl _ _⟩
      · go_wp2
        refine ⟨⟨k + 1, hlt, by go_num, fun j hj => ?_⟩, by simp [intOf]; omega⟩
        rcases Nat.eq_or_lt_of_le (Nat.le_of_lt_succ hj) with e | e
        · subst e; omega
        · exact HALL.out j e
    · obtain rfl : k = n := by omega
      clear hk hlt
      have h15 : ∀ j, j < k → f j ≤ 15 := fun j hj => by have := HALL.out j hj; omega
      have H15 := Lib.hid h15
      have HE2 := Lib.hid (HE.out.trans (by rw [if_neg (by rw [bigB_mk HALL.out]; decide)] : _ = endE (allN f k) (usedN f k)))
      clear h15
      go_wp2_with fail
      refine (count_any w A k c f HR.out (by omega) H15.out).mono ?_
      rintro e w1 ⟨rfl, hb⟩
      have HB := Lib.hid hb
      clear hb
      go_wp2_with fail
      refine (chk_any w1 f k (by omega) H15.out).mono ?_
      rintro e w2 ⟨rfl, hb⟩
      rw [← HE2.out]
      have HB2 := Lib.hid (HB.out.trans (hb.mono HB.out.size))
      clear hb
      go_wp2
      go_ret
      exact ⟨rfl, HB2.out⟩
end Go.Proofs.Ytjhljkhgjcckhaa

namespace Go.Proofs.Ytjhljkhgjcckhaa
open Go.RowKit Go.ChangeShapes Go.WideShapes Go.ChangeAt Go.Joins
theorem by_nilF (w : World) (B : Nat) : ByR w B none 0 0 nilF := ByR.nil _ _ _ (fun _ => by show 0 < 256; omega)
set_option maxRecDepth 100000 in
set_option maxHeartbeats 2000000 in
theorem is11_any (HC : WriteCon) (w : World) (kind : Nat) (T : List Nat) (A2 : Option Addr) (m c2 : Nat) (l : List Tok) (Y : ByteArray) (K L : Nat) (hkd : kind < 256) (hT : ∀ x ∈ T, x < 256) (hn : T.length ≤ 1000) (hl : TkR w w.heap.size A2 m c2 l) (hm : m ≤ 1000) (hin : ∀ t ∈ l, TokIn t)
    (hE : wrtE nilF 0 0 kind T.length (lst T) l true = 0) (hK : wrtK nilF 0 0 kind T.length (lst T) l true = K) (hL : L = (K + 7) / 8) (hY : strB L (wrtF nilF 0 0 kind T.length (lst T) l true) = Y) :
    Calls Try.prog 10 #[.int .u8 (kind : Int), .string (strL T), .slice A2 m c2, .string Y, .int .i64 (K : Int)] w fun e w' => e = .returned (.bool true) ∧ Below w.heap.size w w' := by
  obtain ⟨c, w1, hrun, hby, hb1⟩ := strbytes_any w T hT (by omega)
  have hwr := HC w1 none 0 0 nilF 0 kind (some ⟨w.heap.size, 0, none⟩) T.length c (lst T) A2 m c2 l true (by_nilF _ _) (by omega) (by omega) (by omega) hkd hby (by omega) ((hl.below hb1 (Nat.le_refl _)).more hb1.size) (by omega) hin
  rw [hE, hK] at hwr
  obtain ⟨F, hF⟩ : ∃ F, F = wrtF nilF 0 0 kind T.length (lst T) l true := ⟨_, rfl⟩
  rw [← hF] at hwr hY
  obtain ⟨N, hN⟩ : ∃ N, N = T.length := ⟨_, rfl⟩
  obtain ⟨ZT, hZT⟩ : ∃ ZT, ZT = strL T := ⟨_, rfl⟩
  rw [← hN, ← hZT] at hrun
  rw [← hN] at hwr
  rw [← hZT]
  have HWR := Lib.hid hwr; have HB1 := Lib.hid hb1; have HLE := Lib.hid hL; have HY := Lib.hid hY
  clear hwr hby hb1 hE hK hF hT hn hl hin hL hY hN hZT HC
  go_enter Try.func10, Try.ntmps10
  go_wp2_with (first
    | (refine wpList_buildTo rfl 32 #[] rfl (some 14) rfl #[.slice none 0 0, .int .i64 0] ?_ ?_; focus (simpa [Act.eval] using built_pen0))
    | fail)
  clear hrun
  refine HWR.out.mono ?_
  rintro e w2 ⟨A', c', L', hL', rfl, hy2, hb2, -⟩
  obtain rfl : L' = L := hL'.trans HLE.out.symm
  obtain ⟨h, hh⟩ : ∃ h, h = w2.heap.size := ⟨_, rfl⟩
  obtain ⟨W3, hW3⟩ : ∃ W, W = w2.alloc (.cells #[.slice A' L' c', .int .i64 (K : Int)] 32) := ⟨_, rfl⟩
  have h03 : W3.heap[h]? = some (.cells #[.slice A' L' c', .int .i64 (K : Int)] 32 (0, 0)) := by rw [hW3, hh]; exact heap_alloc_new w2 _
  have hb23 : Below w2.heap.size w2 W3 := by rw [hW3]; exact (Below.refl _ _).alloc (Nat.le_refl _) _
  have k0 : W3.cell? ⟨h, 0, none⟩ = some (.slice A' L' c') := (cell_of_row W3 h 0 _ _ (0, 0) h03).trans rfl
  have k1 : W3.cell? ⟨h, 1, none⟩ = some (.int .i64 (K : Int)) := (cell_of_row W3 h 1 _ _ (0, 0) h03).trans rfl
  have s1 := run_str ((hy2.below hb23 (Nat.le_refl _)).more hb23.size).1 c'
  rw [HY.out] at s1
  have z1 : (Y.toList == Y.toList) = true := by simp
  have zk : ((K : Int) == (K : Int)) = true := by simp
  have HW3 := Lib.hid hW3; have HH := Lib.hid hh; have HB := Lib.hid (HB1.out.trans ((hb2.trans (hb23.mono hb2.size)).mono HB1.out.size))
  clear h03 hb23 hW3 hh hy2 hb2 hL' HWR
  go_wp2_with (rw [← HW3.out, ← HH.out])
  go_ret
  exact ⟨rfl, HB.out⟩
theorem built_tok1 (x : Int) : Try.prog.built 29 [(0, .int .u8 x)] = some #[.int .u8 x, .int .i64 0, .int .i64 0] := by kernel_rfl
theorem wpList_buildOnTo {P : Program} {ops : Array Oper} {rest : List Oper} {o : Oper} {a : Act} {w : World} {Q : Exit → Act → World → Prop} (hw : Region.wanted o (yielded ops a.tmps) = true) (t : TypeId) (parts : Array (Nat × Operand)) (ho : o.op = .build t parts)
    (d : Option Tmp) (hd : o.dst = d) (cells : Array Value) (hf : P.built t (parts.map fun (i, x) => (i, a.eval x)).toList = some cells) (h : wpList P ops Q rest (a.put d (.agg cells)) w) : wpList P ops Q (o :: rest) a w := by
  subst hd
  exact wpList_build_on hw t parts ho (.agg cells) (run_build w t _ cells hf) h
theorem tk_new (w : World) (l : List Tok) (n : Nat) (hn : n = l.length) (hn2 : n ≤ 1000) (cs : Array Value) (hcs : cs.toList = toksL l) : TkR (w.alloc (.cells cs 29)) (w.alloc (.cells cs 29)).heap.size (some ⟨w.heap.size, 0, none⟩) n n l := by
  subst hn
  have hsz : cs.size = l.length * 3 := by rw [← Array.length_toList, hcs, toksL_length]
  have h : (w.alloc (.cells cs 29)).ownsRow w.heap.size 29 3 (.slice (some ⟨w.heap.size, 0, none⟩) l.length l.length) l.length (toksL l) := by
    refine ⟨toksL_length l, .inr ⟨w.heap.size, l.length, cs, rfl, Nat.le_refl _, heap_alloc_new w _, Nat.le_refl _, by unfold maxLen; omega, hsz, ?_⟩⟩
    rw [hcs, List.take_of_length_le (by rw [toksL_length]; exact Nat.le_refl _)]
  exact TkR.of_own h
theorem strE (L : List Nat) (d : Array UInt8) (h : (L.map UInt8.ofNat).toArray = d) : (⟨d⟩ : ByteArray) = strL L := by rw [strL_eq, h]
theorem tokIn_a (x : Nat) (h : x < 256) : TokIn ⟨x, 0, 0⟩ := ⟨h, ⟨by show (-9223372036854775808 : Int) ≤ 0; omega, by show (0 : Int) ≤ 9223372036854775807; omega⟩, by show (-9223372036854775808 : Int) ≤ 0; omega, by show (0 : Int) ≤ 9223372036854775807; omega⟩
theorem is_abc (HC : WriteCon) (w : World) : Calls Try.prog 10 #[.int .u8 0, .string ⟨#[97, 98, 99]⟩, .slice none 0 0, .string ⟨#[1, 3, 0, 252, 255, 97, 98, 99]⟩, .int .i64 64] w fun e w' => e = .returned (.bool true) ∧ Below w.heap.size w w' := by
  rw [strE [97, 98, 99] #[97, 98, 99] rfl, strE [1, 3, 0, 252, 255, 97, 98, 99] #[1, 3, 0, 252, 255, 97, 98, 99] rfl]
  exact is11_any HC w 0 [97, 98, 99] none 0 0 [] _ 64 8 (by omega) (by decide) (by decide) (TkR.nil _ _) (by omega) (fun t ht => by cases ht) val_abc.1 val_abc.2 rfl val_abcF
theorem is_none (HC : WriteCon) (w : World) : Calls Try.prog 10 #[.int .u8 1, .string ⟨#[]⟩, .slice none 0 0, .string ⟨#[3, 0]⟩, .int .i64 10] w fun e w' => e = .returned (.bool true) ∧ Below w.heap.size w w' := by
  rw [strE [] #[] rfl, strE [3, 0] #[3, 0] rfl]
  exact is11_any HC w 1 [] none 0 0 [] _ 10 2 (by omega) (by simp) (by simp) (TkR.nil _ _) (by omega) (fun t ht => by cases ht) val_none.1 val_none.2 rfl val_noneF
theorem is_a (HC : WriteCon) (w : World) (A : Option Addr) (h : TkR w w.heap.size A 1 1 [tokA]) : Calls Try.prog 10 #[.int .u8 1, .string ⟨#[]⟩, .slice A 1 1, .string ⟨#[75, 4, 0]⟩, .int .i64 18] w fun e w' => e = .returned (.bool true) ∧ Below w.heap.size w w' := by
  rw [strE [] #[] rfl, strE [75, 4, 0] #[75, 4, 0] rfl]
  exact is11_any HC w 1 [] A 1 1 [tokA] _ 18 3 (by omega) (by simp) (by simp) h (by omega) (fun t ht => by simp only [List.mem_singleton] at ht; subst ht; exact tokIn_a 97 (by omega)) val_a.1 val_a.2 rfl val_aF
set_option maxRecDepth 100000 in
theorem alive11_any (HC : WriteCon) (w : World) : Calls Try.prog 11 #[] w fun e w' => e = .returned (.bool true) ∧ Below w.heap.size w w' := by
  have H0 := Lib.hid (is_abc HC)
  have H1 := Lib.hid (is_a HC)
  clear HC
  go_enter Try.func11, Try.ntmps11
  go_wp2_with fail
  refine (H0.out w).mono ?_
  rintro e w1 ⟨rfl, hb1⟩
  have HB1 := Lib.hid hb1
  clear hb1
  go_wp2_with (first
    | (refine wpList_buildOnTo (by rfl) 29 #[(0, .const (.int .u8 97))] rfl (some 3) rfl #[.int .u8 97, .int .i64 0, .int .i64 0] ?_ ?_; focus (simpa [Act.eval] using built_tok1 97))
    | fail)
  have hbn : Below w1.heap.size w1 (w1.alloc (.cells #[.int .u8 97, .int .i64 0, .int .i64 0] 29)) := (Below.refl _ _).alloc (Nat.le_refl _) _
  refine (H1.out _ (some ⟨w1.heap.size, 0, none⟩) (tk_new w1 [tokA] 1 rfl (by omega) #[.int .u8 97, .int .i64 0, .int .i64 0] rfl)).mono ?_
  rintro e w2 ⟨rfl, hb2⟩
  have HB2 := Lib.hid (HB1.out.trans ((hbn.trans (hb2.mono hbn.size)).mono HB1.out.size))
  clear hb2 hbn
  go_wp2
  go_ret
  exact ⟨rfl, HB2.out⟩
end Go.Proofs.Ytjhljkhgjcckhaa

namespace Go.Proofs.Ytjhljkhgjcckhaa
open Go.RowKit
theorem check_any (w : World) (A : Option Addr) (n c : Nat) (f : Nat → Nat) (most : Int) (hr : RdB w w.heap.size A n f) (hn : n ≤ 1000000) :
    Calls Try.prog 16 #[.slice A n c, .int .i64 most] w fun e w' => e = .returned (.int .i64 (checkE f n most)) ∧ Below w.heap.size w w' := by
  unfold checkE
  by_cases h1 : most < 1 ∨ 15 < most
  · rw [if_pos h1]; exact (kcheck_arg w A n c most h1).mono fun _ _ ⟨he, hw⟩ => ⟨he, hw ▸ Below.refl _ _⟩
  · rw [if_neg h1]
    by_cases h2 : 320 < n
    · rw [if_pos h2]; exact (kcheck_many w A n c most (by omega) (by omega) h2).mono fun _ _ ⟨he, hw⟩ => ⟨he, hw ▸ Below.refl _ _⟩
    · rw [if_neg h2]; exact kcheck_rest w A n c f most hr (by omega) (by omega) (by omega)
end Go.Proofs.Ytjhljkhgjcckhaa

namespace Go.Proofs.Ytjhljkhgjcckhaa
open Go.RowKit Go.ChangeShapes Go.WideShapes Go.ChangeAt Go.Joins
theorem own_cells8 {w : World} {base n g c : Nat} {F : Nat → Nat} (h : w.ownsRow base 5 1 (.slice (some ⟨g, 0, none⟩) n c) n (bytesL n F)) : ∃ cur, w.heap[g]? = some (.cells cur 5 (0, 0)) ∧ base ≤ g ∧ n ≤ c ∧ c ≤ maxLen ∧ cur.size = c ∧ ∀ j, j < n → cur[j]? = some (.int .u8 (F j : Int)) := by
  rcases h.2 with ⟨hv, _⟩ | ⟨g', cap, cur, hv, hg, hh, k1, k2, k3, k4⟩
  · cases hv
  · injection hv with e1 _ e3
    injection e1 with e1
    injection e1 with e1 _ _
    subst e1; subst e3
    refine ⟨cur, hh, hg, k1, k2, by rw [k3, Nat.mul_one], fun j hj => ?_⟩
    have h2 := congrArg (fun l => l[j]?) k4
    simp only [Nat.mul_one, List.getElem?_take, if_pos hj, Array.getElem?_toList] at h2
    rw [h2]; simp [bytesL, hj]
theorem add_off8 (b o p : Nat) : (⟨b, o, none⟩ : Addr).add p = ⟨b, o + p, none⟩ := by unfold Addr.add; split <;> simp_all
/-- One byte more: what it makes, and that the row reads on as it did. -/
theorem run_oneB_old (w : World) (base g n c x : Nat) (F : Nat → Nat) (hF : ∀ j, F j < 256) (hx : x < 256) (hown : w.ownsRow base 5 1 (.slice (some ⟨g, 0, none⟩) n c) n (bytesL n F)) (hn : n ≤ 1000000) (hbase : base ≤ w.heap.size) :
    ∃ A' c' w', (Builtin.append_ #[27, 27] 27 #[.slice (some ⟨g, 0, none⟩) n c, .slice (some ⟨w.heap.size, 0, none⟩) 1 1]).run Try.prog (w.alloc (.cells #[.int .u8 (x : Int)] 5)) = .ok (.slice A' (n + 1) c') w' ∧
      RdB w' w'.heap.size A' (n + 1) (fun j => if j = n then x else F j) ∧ RdB w' w'.heap.size (some ⟨g, 0, none⟩) n F ∧ Below base w w' ∧ (∀ k, k < w.heap.size → k ≠ g → w'.heap[k]? = w.heap[k]?) := by
  obtain ⟨cur, hh, hg, hnc, hcm, hcs, hcc⟩ := own_cells8 hown
  have hgl : g < w.heap.size := (Array.getElem?_eq_some_iff.1 hh).1
  obtain ⟨W, hW⟩ : ∃ W, W = w.alloc (.cells #[.int .u8 (x : Int)] 5) := ⟨_, rfl⟩
  have hb : Below w.heap.size w W := by rw [hW]; exact (Below.refl _ _).alloc (Nat.le_refl _) _
  have hWs : W.heap.size = w.heap.size + 1 := by rw [hW]; simp
  have hhW : W.heap[g]? = some (.cells cur 5 (0, 0)) := (hb.block g hgl).trans hh
  have hnew : ∀ j u, [Value.int .u8 (x : Int)][j]? = some u → W.cell? ((⟨w.heap.size, 0, none⟩ : Addr).add j) = some u := by rw [hW]; exact cell_one_new w (.int .u8 (x : Int)) 5
  obtain ⟨i0, hi, hz0, hz1, hz2⟩ := info_parts infoU8
  rw [← hW]
  have hsz : (bytesL n F).length = n := by simp [bytesL]
  by_cases hroom : n + 1 ≤ c
  · have hr := run_append_room (P := Try.prog) W 27 27 5 i0 Try.underlying27 hi g n c cur hhW ⟨w.heap.size, 0, none⟩ 1 1 [.int .u8 (x : Int)] (by rw [hz1]; rfl) hnew (by simp [Value.oneCell']) hroom (by rw [hz1]; simp; omega)
    rw [hz1] at hr
    refine ⟨_, _, _, hr, ⟨fun j => by show (if j = n then x else F j) < 256; split; exact hx; exact hF j, fun _ => ⟨g, 0, rfl, by rw [size_setRow]; omega, fun j hj => ?_⟩⟩, ⟨hF, fun _ => ⟨g, 0, rfl, by rw [size_setRow]; omega, fun j hj => ?_⟩⟩, ?_, fun k hk hne => ?_⟩
    · rw [cell_of_row _ _ _ _ _ (0, 0) (setRow_heap _ _ _ _ _ _ hhW), Nat.zero_add]
      simp only [Nat.mul_one, List.length_singleton, List.getElem?_toArray]
      by_cases e : j = n
      · subst e
        rw [if_pos rfl, List.append_assoc, List.getElem?_append_right (by simp; omega)]
        simp only [List.length_take, Array.length_toList]
        rw [show j - min j cur.size = 0 by omega]; rfl
      · rw [if_neg e, List.append_assoc, List.getElem?_append_left (by simp; omega), List.getElem?_take, if_pos (by omega), Array.getElem?_toList]
        exact hcc j (by omega)
    · rw [cell_of_row _ _ _ _ _ (0, 0) (setRow_heap _ _ _ _ _ _ hhW), Nat.zero_add]
      simp only [Nat.mul_one, List.length_singleton, List.getElem?_toArray]
      rw [List.append_assoc, List.getElem?_append_left (by simp; omega), List.getElem?_take, if_pos hj, Array.getElem?_toList]
      exact hcc j hj
    · exact ⟨hb.os, hb.tape, hb.output, by rw [size_setRow]; exact hb.size, fun k hk => (setRow_other _ _ _ _ (by omega)).trans (hb.block k (by omega))⟩
    · exact (setRow_other _ _ _ _ hne).trans (hb.block k hk)
  · have hr := run_append_grow (P := Try.prog) W 27 27 5 i0 (.int .u8 0) Try.underlying27 hi hz0 ⟨g, 0, none⟩ n c (bytesL n F) (by rw [hz1]; simp [bytesL]) (fun j v hv => by
      rw [add_off8, Nat.zero_add, cell_of_row W g _ _ _ (0, 0) hhW]
      rcases Nat.lt_or_ge j n with h | h
      · rw [hcc j h]; simpa [bytesL, h] using hv
      · rw [List.getElem?_eq_none (by rw [hsz]; exact h)] at hv; cases hv) ⟨w.heap.size, 0, none⟩ 1 1 [.int .u8 (x : Int)] (by rw [hz1]; rfl) hnew (by omega) (by omega) (growslice_fits (by omega) (by rw [hz2]; omega))
    have hbg : Below w.heap.size w (W.drew.alloc (.cells ((bytesL n F).toArray ++ [Value.int .u8 (x : Int)].toArray ++ Builtin.zeroCells (Value.int .u8 0).cells (grownCap W (n + 1) c 5 - (n + 1))) 5)) := hb.trans ((Below.refl w.heap.size W).drew.alloc (by show w.heap.size ≤ W.heap.size; omega) _)
    have hrow2 : (W.drew.alloc (.cells ((bytesL n F).toArray ++ [Value.int .u8 (x : Int)].toArray ++ Builtin.zeroCells (Value.int .u8 0).cells (grownCap W (n + 1) c 5 - (n + 1))) 5)).heap[W.heap.size]? = some (.cells ((bytesL n F).toArray ++ [Value.int .u8 (x : Int)].toArray ++ Builtin.zeroCells (Value.int .u8 0).cells (grownCap W (n + 1) c 5 - (n + 1))) 5 (0, 0)) := heap_alloc_new W.drew _
    have hlt2 := (Array.getElem?_eq_some_iff.1 hrow2).1
    refine ⟨_, _, _, hr, ⟨fun j => by show (if j = n then x else F j) < 256; split; exact hx; exact hF j, fun _ => ⟨W.heap.size, 0, rfl, hlt2, fun j hj => ?_⟩⟩, ⟨hF, fun _ => ⟨g, 0, rfl, by have := hbg.size; omega, fun j hj => ?_⟩⟩, hbg.mono hbase, fun k hk _ => hbg.block k hk⟩
    · rw [cell_of_row _ _ _ _ _ (0, 0) hrow2, Nat.zero_add]
      simp only [Array.getElem?_append, List.size_toArray, hsz, List.getElem?_toArray, List.length_singleton, Array.size_append]
      by_cases e : j = n
      · subst e
        rw [if_pos rfl, if_pos (by omega), if_neg (by omega), Nat.sub_self]; rfl
      · rw [if_neg e, if_pos (by omega), if_pos (by omega)]; simp [bytesL, show j < n by omega]
    · rw [cell_of_row _ _ _ _ _ (0, 0) ((hbg.block g hgl).trans hh), Nat.zero_add]
      exact hcc j hj
end Go.Proofs.Ytjhljkhgjcckhaa

namespace Go.Proofs.Ytjhljkhgjcckhaa
open Go.RowKit Go.ChangeShapes Go.WideShapes Go.ChangeAt Go.Joins
theorem wpList_append_run_on {P : Program} (w : World) {ops : Array Oper} {rest : List Oper} {o : Oper} {a : Act} {Q : Exit → Act → World → Prop} (hw : Region.wanted o (yielded ops a.tmps) = true) (s x : Operand) (t tn : TypeId)
    (ho : o.op = .call { callee := .builtin .append, args := #[s, x], argTypes := #[t, tn] }) (vs vx : Value) (hs : a.eval s = vs) (hx : a.eval x = vx)
    (v' : Value) (w' : World) (hr : (Builtin.append_ #[t, tn] o.type #[vs, vx]).run P w = .ok v' w') (h : wpList P ops Q rest (a.put o.dst v') w') : wpList P ops Q (o :: rest) a w :=
  wpList_on hw fun _ hK => Go.Lib.wp_append_run w s x t tn ho vs vx hs hx v' w' hr (hK _ _ h)
def boolA (S : Nat → Bool) (n : Nat) : Array Value := ((List.range n).map fun i => Value.bool (S i)).toArray
theorem boolA_get (S : Nat → Bool) (n i : Nat) (h : i < n) : (boolA S n)[i]? = some (.bool (S i)) := by simp [boolA, h]
theorem infoSeen : (Try.prog.info? 47).map (fun i => (i.zero, i.size)) = some (some (.agg (boolA (fun _ => false) 19)), 19) := by kernel_rfl
def seenB (i j : Nat) : Bool := (List.range i).any fun t => ordN t == j
theorem seen_new : ∀ i, i < 19 → seenB i (ordN i) = false := by decide +kernel
theorem seenB_next (i j : Nat) : seenB (i + 1) j = if j = ordN i then true else seenB i j := by
  unfold seenB
  rw [List.range_succ, List.any_append]
  by_cases h : j = ordN i
  · rw [if_pos h, h]; simp
  · rw [if_neg h]; simp; exact fun e => absurd e.symm h
theorem boolA_set (i : Nat) : (boolA (seenB i) 19).setIfInBounds (ordN i) (.bool true) = boolA (seenB (i + 1)) 19 := by
  apply Array.ext_getElem?
  intro k
  have hz := ord_lt i
  have hs : (boolA (seenB i) 19).size = 19 := by simp [boolA]
  rw [Array.getElem?_setIfInBounds]
  rcases Nat.lt_or_ge k 19 with h | h
  · rw [boolA_get _ _ _ h, boolA_get _ _ _ h, seenB_next]
    by_cases e : ordN i = k
    · rw [if_pos e, if_pos (by omega), if_pos e.symm]
    · rw [if_neg e, if_neg (fun q => e q.symm)]
  · rw [if_neg (by omega), Array.getElem?_eq_none (by omega), Array.getElem?_eq_none (by simp [boolA]; omega)]
def fixA1 (j : Nat) : Nat := if j = 288 then 1 else fixA j
def fixB1 (j : Nat) : Nat := if j = 32 then 15 else fixB j
theorem chkA1 : checkE fixA1 289 15 = 30 := by kernel_rfl
theorem chkB1 : checkE fixB1 33 15 = 30 := by kernel_rfl
theorem chkA0 : checkE fixA 287 15 = 31 := by kernel_rfl
theorem own_block {w w' : World} {base n c g sz : Nat} {e : TypeId} {xs : List Value} (h : w.ownsRow base e sz (.slice (some ⟨g, 0, none⟩) n c) n xs) (hk : w'.heap[g]? = w.heap[g]?) : w'.ownsRow base e sz (.slice (some ⟨g, 0, none⟩) n c) n xs := by
  refine ⟨h.1, ?_⟩
  rcases h.2 with h2 | ⟨g', cap, cur, hv, hg, hh, r⟩
  · exact .inl h2
  · refine .inr ⟨g', cap, cur, hv, hg, ?_, r⟩
    injection hv with e1 _ _
    injection e1 with e1
    injection e1 with e1 _ _
    subst e1
    rw [hk]; exact hh
theorem RdB.same {w w' : World} {B B' g n : Nat} {f : Nat → Nat} (h : RdB w B (some ⟨g, 0, none⟩) n f) (hk : w'.heap[g]? = w.heap[g]?) (hg : g < B') : RdB w' B' (some ⟨g, 0, none⟩) n f := by
  refine ⟨h.1, fun h0 => ?_⟩
  obtain ⟨b, o, e, _, hc⟩ := h.2 h0
  injection e with e
  injection e with e1 e2 _
  subst e1; subst e2
  refine ⟨g, 0, rfl, hg, fun j hj => ?_⟩
  have := hc j hj
  simp only [World.cell?, hk] at this ⊢
  exact this
theorem RdB.short {w : World} {B n m : Nat} {A : Option Addr} {f : Nat → Nat} (h : RdB w B A n f) (hm : m ≤ n) : RdB w B A m f := ⟨h.1, fun h0 => by obtain ⟨b, o, e1, e2, e3⟩ := h.2 (by omega); exact ⟨b, o, e1, e2, fun j hj => e3 j (by omega)⟩⟩
set_option maxRecDepth 100000 in
set_option maxHeartbeats 4000000 in
theorem fixed11_walk (HW : WriteCon) (HO : OrderCon) (HF : FixedCon) (w : World) : Calls Try.prog 6 #[] w fun e w' => e = .returned (.bool true) ∧ Below w.heap.size w w' := by
  have hz := (zero_of_info infoOrd).1
  have hzb := (zero_of_info infoSeen).1
  obtain ⟨T, hT⟩ : ∃ T : Nat → Int, T = fun i => (ordN i : Int) := ⟨_, rfl⟩
  obtain ⟨Z, hZ⟩ : ∃ Z : Nat → Int, Z = fun _ => 0 := ⟨_, rfl⟩
  obtain ⟨Y, hY⟩ : ∃ Y : Array Value, Y = boolA (fun _ => false) 19 := ⟨_, rfl⟩
  have hord := HO
  unfold OrderCon at hord
  rw [← hT] at hord
  rw [← hZ] at hz
  rw [← hY] at hzb
  have HORD := Lib.hid hord; have HT := Lib.hid hT; have HZ := Lib.hid hz; have HZB := Lib.hid hzb; have HY := Lib.hid hY; have HFX := Lib.hid (HF w); have HAL := Lib.hid (alive11_any HW)
  clear hord hT hZ hz hzb hY HW HO HF
  go_enter Try.func6, Try.ntmps6
  go_wp2_with fail
  refine HFX.out.mono ?_
  rintro e w1 ⟨A1, c1, A2, c2, rfl, ho1, ho2, hne, hb1⟩
  obtain ⟨g1, rfl⟩ : ∃ g, A1 = some ⟨g, 0, none⟩ := by
    obtain ⟨g, cap, hv, _⟩ := ho1.form (by omega)
    injection hv with h1 _ _; exact ⟨g, h1⟩
  obtain ⟨g2, rfl⟩ : ∃ g, A2 = some ⟨g, 0, none⟩ := by
    obtain ⟨g, cap, hv, _⟩ := ho2.form (by omega)
    injection hv with h1 _ _; exact ⟨g, h1⟩
  have hg12 : g1 ≠ g2 := fun e => hne g1 rfl (by rw [e]; rfl)
  obtain ⟨_, hh1, hg1, _⟩ := own_cells8 ho1
  obtain ⟨_, hh2, hg2, _⟩ := own_cells8 ho2
  have HO1 := Lib.hid ho1; have HO2 := Lib.hid ho2; have HB1 := Lib.hid hb1; have HG12 := Lib.hid hg12; have HL1 := Lib.hid (Array.getElem?_eq_some_iff.1 hh1).1; have HL2 := Lib.hid (Array.getElem?_eq_some_iff.1 hh2).1
  clear ho1 ho2 hne hb1 hg12 hh1 hg1 hh2 hg2
  go_wp2_with fail
  refine (HORD.out w1).mono ?_
  rintro e w2 ⟨rfl, hb2⟩
  obtain ⟨go, hgo⟩ : ∃ go, go = w2.heap.size := ⟨_, rfl⟩
  obtain ⟨UA, hUA⟩ : ∃ U, U = w2.alloc (.cells (tblA Z 19) 45) := ⟨_, rfl⟩
  have hk0 : UA.heap[go]? = some (.cells (tblA Z 19) 45 (0, 0)) := by rw [hUA, hgo]; exact heap_alloc_new w2 _
  obtain ⟨U, hU⟩ : ∃ U, U = UA.setRow go (tblA T 19) := ⟨_, rfl⟩
  have hk1 : U.heap[go]? = some (.cells (tblA T 19) 45 (0, 0)) := by rw [hU]; exact setRow_heap _ _ _ _ _ _ hk0
  have hb2A : Below w2.heap.size w2 UA := by rw [hUA]; exact (Below.refl _ _).alloc (Nat.le_refl _) _
  have hb2U : Below w2.heap.size w2 U := by rw [hU]; exact below_row9 hb2A (by rw [hgo]; exact Nat.le_refl _) _
  have hb1U : Below w1.heap.size w1 U := hb2.trans (hb2U.mono hb2.size)
  obtain ⟨gb, hgb⟩ : ∃ gb, gb = U.heap.size := ⟨_, rfl⟩
  obtain ⟨U3, hU3⟩ : ∃ V, V = U.alloc (.cells Y 47) := ⟨_, rfl⟩
  have hs0 : U3.heap[gb]? = some (.cells (boolA (seenB 0) 19) 47 (0, 0)) := by
    rw [hU3, hgb, heap_alloc_new U _, HY.out]
    rfl
  have hbU3 : Below U.heap.size U U3 := by rw [hU3]; exact (Below.refl _ _).alloc (Nat.le_refl _) _
  have hk3 := (hbU3.block go (Array.getElem?_eq_some_iff.1 hk1).1).trans hk1
  have hgob : go < gb := by rw [hgb]; exact (Array.getElem?_eq_some_iff.1 hk1).1
  have hb13 := hb1U.trans (hbU3.mono hb1U.size)
  have hw1g : w1.heap.size ≤ gb := by rw [hgb]; exact hb1U.size
  have HK0 := Lib.hid hk0; have HK3 := Lib.hid hk3; have HU := Lib.hid hU; have HUA := Lib.hid hUA; have HGO := Lib.hid hgo; have HGB := Lib.hid hgb; have HU3 := Lib.hid hU3; have HS0 := Lib.hid hs0; have HB13 := Lib.hid hb13; have HGOB := Lib.hid hgob; have HW1G := Lib.hid hw1g
  have hz := HZ.out
  have hzb := HZB.out
  clear hk0 hk1 hb2A hb2U hb1U hb2 hU hUA hgo hgb hU3 hs0 hbU3 hk3 hgob hb13 hw1g
  go_wp2_with (first
    | (rw [← HUA.out, ← HGO.out]; refine wpList_store_rowTo rfl _ _ _ rfl rfl go (tblA T 19) rfl rfl 45 (tblA Z 19) HK0.out (szO19 _) (by rw [tblA_size, tblA_size]) (tblA_one _ _) ?_; rw [← HU.out])
    | (rw [← HU3.out, ← HGB.out])
    | fail)
  clear hz hzb
  go_loopw [5] (fun iv wr => ∃ i : Nat, i ≤ 19 ∧ iv = .int .i64 (i : Int) ∧ Hid (wr.heap[go]? = some (.cells (tblA T 19) 45 (0, 0))) ∧ Hid (wr.heap[gb]? = some (.cells (boolA (seenB i) 19) 47 (0, 0))) ∧ Hid (Below w1.heap.size w1 wr)) (fun iv _ => 19 - (intOf iv).toNat)
  case atStart =>
    refine ⟨0, Nat.zero_le _, rfl, ?_, ?_, ?_⟩
    · first | exact HK3 | exact Lib.hid (by rw [← HU3.out]; exact HK3.out)
    · first | exact HS0 | exact Lib.hid (by rw [← HU3.out]; exact HS0.out)
    · first | exact HB13 | exact Lib.hid (by rw [← HU3.out]; exact HB13.out)
  case round =>
    obtain ⟨i, hi, rfl, HG, HS, HB⟩ := hrel
    by_cases hlt : i < 19
    · have hlti : (i : Int) < 19 := by omega
      have c0 : wr.cell? ⟨go, i, none⟩ = some (.int .i64 ((ordN i : Nat) : Int)) := by rw [tbl_cell HG.out hlt, HT.out]
      have hz19 := ord_lt i
      have c1 : wr.cell? ⟨gb, ordN i, none⟩ = some (.bool false) := by rw [cell_of_row wr gb _ _ _ (0, 0) HS.out, boolA_get _ _ _ hz19, seen_new i hlt]
      have f1 : wr.frozen? ⟨gb, ordN i, none⟩ = false := frozen_of_row wr gb _ _ _ HS.out
      have r1 : (wr.setCell ⟨gb, ordN i, none⟩ (.bool true)).heap[gb]? = some (.cells (boolA (seenB (i + 1)) 19) 47 (0, 0)) := by rw [← boolA_set i]; exact heap_setCell_same wr gb (ordN i) _ _ _ HS.out
      have r2 : (wr.setCell ⟨gb, ordN i, none⟩ (.bool true)).heap[go]? = some (.cells (tblA T 19) 45 (0, 0)) := (Below.heap_setCell wr ⟨gb, ordN i, none⟩ _ go (by have := HGOB.out; show go ≠ gb; omega)).trans HG.out
      have r3 := HB.out.setCell (p := ⟨gb, ordN i, none⟩) HW1G.out (.bool true)
      obtain ⟨z, hz⟩ : ∃ z, z = ordN i := ⟨_, rfl⟩
      rw [← hz] at c0 c1 f1 r1 r2 r3 hz19
      have dz0 : decide ((z : Int) < 0) = false := decN0 (by omega)
      have dz18 : decide ((18 : Int) < (z : Int)) = false := decN0 (by omega)
      have dz18n : decide (18 < z) = false := decN0 (by omega)
      have hzi : (z : Int) < 19 := by omega
      have R1 := Lib.hid r1; have R2 := Lib.hid r2; have R3 := Lib.hid r3
      clear r1 r2 r3 hz
      go_wp2
      go_roundw
      case rel => exact ⟨i + 1, by omega, by go_num, R2, R1, R3⟩
      case measure => simp [intOf]; omega
    · obtain rfl : i = 19 := by omega
      have hw1 := HB1.out.trans (HB.out.mono HB1.out.size)
      have HB0 := Lib.hid hw1
      clear hw1 hlt
      go_wp2_with fail
      refine (HAL.out wr).mono ?_
      rintro e w3 ⟨rfl, hb3⟩
      have hb13 := HB.out.trans (hb3.mono HB.out.size)
      have hb03 := HB0.out.trans (hb3.mono HB0.out.size)
      have ho1 := own_keepG HO1.out hb13
      have ho2 := own_keepG HO2.out hb13
      obtain ⟨_, _, _, hc1, _⟩ := own_cells8 ho1
      have hg2l : g2 < w3.heap.size := Nat.lt_of_lt_of_le HL2.out hb13.size
      have hg1l : g1 < w3.heap.size := Nat.lt_of_lt_of_le HL1.out hb13.size
      obtain ⟨A4, c4, w4, run4, rd4, rd41, hb4, keep4⟩ := run_oneB_old w3 w.heap.size g1 288 c1 1 fixA (fun j => by have := fixA_le j; omega) (by omega) ho1 (by omega) hb03.size
      have hb04 := hb03.trans hb4
      have ho24 := own_block ho2 (keep4 g2 hg2l (fun e => HG12.out e.symm))
      have hck4 := check_any w4 A4 289 c4 fixA1 15 rd4 (by omega)
      rw [chkA1] at hck4
      have hs34 : w3.heap.size ≤ w4.heap.size := by
        obtain ⟨cur, hh, _⟩ := own_cells8 ho24
        rcases Nat.lt_or_ge w4.heap.size w3.heap.size with h | h
        · have h5 := keep4 w4.heap.size h
          by_cases e : w4.heap.size = g1
          · obtain ⟨b, o, e1, e2, _⟩ := rd41.2 (by omega)
            injection e1 with e1; injection e1 with e1 _ _; omega
          · have := h5 e
            rw [Array.getElem?_eq_none (Nat.le_refl _), Array.getElem?_eq_getElem h] at this
            cases this
        · exact h
      have HRUN4 : Hid ((Builtin.append_ #[27, 27] 27 #[.slice (some ⟨g1, 0, none⟩) 288 c1, .slice (some ⟨w3.heap.size, 0, none⟩) 1 1]).run Try.prog (w3.alloc (.cells #[.int .u8 1] 5)) = .ok (.slice A4 289 c4) w4) := Lib.hid run4
      have HCK4 := Lib.hid hck4; have HO24 := Lib.hid ho24; have HRD41 := Lib.hid rd41; have HB04 := Lib.hid hb04; have HG1L := Lib.hid (Nat.lt_of_lt_of_le hg1l hs34); have HG2L := Lib.hid (Nat.lt_of_lt_of_le hg2l hs34)
      clear run4 rd4 rd41 hb4 keep4 hb04 ho24 hck4 hs34 hg1l hg2l ho1 ho2 hb03 hb13 hb3
      go_wp2_with (first
        | (refine wpList_append_run_on _ (by rfl) (.tmp 48) (.tmp 49) 27 27 rfl (.slice (some ⟨g1, 0, none⟩) 288 c1) (.slice (some ⟨w3.heap.size, 0, none⟩) 1 1) rfl rfl (.slice A4 289 c4) w4 HRUN4.out ?_)
        | fail)
      refine HCK4.out.mono ?_
      rintro e w5 ⟨rfl, hb5⟩
      have hb05 := HB04.out.trans (hb5.mono HB04.out.size)
      have ho25 := own_keepG HO24.out hb5
      obtain ⟨A6, c6, w6, run6, rd6, _, hb6, keep6⟩ := run_oneB_old w5 w.heap.size g2 32 c2 15 fixB (fun j => by have := fixB_le j; omega) (by omega) ho25 (by omega) hb05.size
      have hck6 := check_any w6 A6 33 c6 fixB1 15 rd6 (by omega)
      rw [chkB1] at hck6
      have hb06 := hb05.trans hb6
      have hg1l5 : g1 < w5.heap.size := Nat.lt_of_lt_of_le HG1L.out hb5.size
      have hh6 := keep6 g1 hg1l5 HG12.out
      have hg16 : g1 < w6.heap.size := by
        rcases Nat.lt_or_ge g1 w6.heap.size with h | h
        · exact h
        · rw [Array.getElem?_eq_none h, Array.getElem?_eq_getElem hg1l5] at hh6; cases hh6
      have rd61 : RdB w6 w6.heap.size (some ⟨g1, 0, none⟩) 287 fixA := ((HRD41.out.below hb5 (Nat.le_refl _)).same hh6 hg16).short (by omega)
      have HRUN6 : Hid ((Builtin.append_ #[27, 27] 27 #[.slice (some ⟨g2, 0, none⟩) 32 c2, .slice (some ⟨w5.heap.size, 0, none⟩) 1 1]).run Try.prog (w5.alloc (.cells #[.int .u8 15] 5)) = .ok (.slice A6 33 c6) w6) := Lib.hid run6
      have HCK6 := Lib.hid hck6; have HRD61 := Lib.hid rd61; have HB06 := Lib.hid hb06
      clear run6 rd6 hb6 keep6 hck6 hb06 hg1l5 hh6 hg16 rd61 hb05 ho25 hb5
      go_wp2_with (first
        | (refine wpList_append_run_on _ (by rfl) (.tmp 55) (.tmp 56) 27 27 rfl (.slice (some ⟨g2, 0, none⟩) 32 c2) (.slice (some ⟨w5.heap.size, 0, none⟩) 1 1) rfl rfl (.slice A6 33 c6) w6 HRUN6.out ?_)
        | fail)
      refine HCK6.out.mono ?_
      rintro e w7 ⟨rfl, hb7⟩
      have hck7 := check_any w7 (some ⟨g1, 0, none⟩) 287 c1 fixA 15 ((HRD61.out.below hb7 (Nat.le_refl _)).more hb7.size) (by omega)
      rw [chkA0] at hck7
      have HCK7 := Lib.hid hck7; have HB07 := Lib.hid (HB06.out.trans (hb7.mono HB06.out.size))
      have hci : (287 : Int) ≤ (c1 : Int) := by omega
      clear hck7 hb7
      go_wp2_with fail
      refine HCK7.out.mono ?_
      rintro e w8 ⟨rfl, hb8⟩
      have HB08 := Lib.hid (HB07.out.trans (hb8.mono HB07.out.size))
      clear hb8
      go_wp2
      go_ret
      exact ⟨rfl, HB08.out⟩
end Go.Proofs.Ytjhljkhgjcckhaa

namespace Go.Proofs.Ytjhljkhgjcckhaa
open Go.RowKit
set_option maxRecDepth 100000 in
set_option maxHeartbeats 1000000 in
theorem growu_any (w : World) (n : Nat) (hn : n ≤ 1000000000000) :
    Calls Try.prog 44 #[.slice none 0 0, .int .i64 (n : Int)] w fun e w' => ∃ A c, e = .returned (.slice A 0 c) ∧ w'.ownsRow w.heap.size 5 1 (.slice A 0 c) 0 [] ∧ Below w.heap.size w w' := by
  rcases Nat.eq_zero_or_pos n with h0 | h0
  · subst h0
    go_enter Try.func44, Try.ntmps44
    go_wp2
    go_ret
    exact ⟨none, 0, rfl, World.ownsRow_nil _ _ _ _, Below.refl _ _⟩
  · obtain ⟨i0, hi, hz0, hz1, hz2⟩ := info_parts infoU8
    have hrun := Lib.run_append_nil_zeros (P := Try.prog) w 27 3 27 5 i0 (.int .u8 0) .i64 .i64 Try.underlying27 Try.underlying3 hi hz0 n h0 (by omega) (by omega) (by rw [hz2]; omega)
    have hge := grownCap_ge w n 0 5
    have hle := grownCap_le_maxLen w n 0 5 (by unfold maxLen; omega)
    obtain ⟨c, hc⟩ : ∃ c, c = grownCap w n 0 5 := ⟨_, rfl⟩
    rw [← hc] at hrun hge hle
    obtain ⟨Z, hZ⟩ : ∃ Z, Z = (Builtin.zeroCells (Value.int .u8 0).cells n ++ Builtin.zeroCells (Value.int .u8 0).cells (c - n)) := ⟨_, rfl⟩
    rw [← hZ] at hrun
    have hZs : Z.size = c * 1 := by rw [hZ]; simp [size_zeroCells, Value.cells]; omega
    have hown := World.ownsRow_made (base := w.heap.size) (e := 5) (size := 1) w.drew Z c (Nat.le_refl _) hle hZs
    have hbl : Below w.heap.size w (w.drew.alloc (.cells Z 5)) := (Below.refl w.heap.size w).drew.alloc (Nat.le_refl _) _
    obtain ⟨w1, hw1⟩ : ∃ w1, w1 = w.drew.alloc (.cells Z 5) := ⟨_, rfl⟩
    rw [← hw1] at hrun hown hbl
    have HR := Lib.hid hrun; have HO := Lib.hid hown; have HB := Lib.hid hbl
    unfold maxLen at hle
    clear hrun hown hbl hZ hZs hw1 hc hi hz0 hz1 hz2
    have hp : (0 : Int) < (n : Int) := by omega
    go_enter Try.func44, Try.ntmps44
    go_wp2_with (at_builtin; refine Lib.wpList_append_run _ rfl _ _ _ _ rfl _ _ rfl rfl _ _ HR.out ?_)
    go_ret
    exact ⟨_, _, rfl, HO.out, HB.out⟩
set_option maxRecDepth 100000 in
set_option maxHeartbeats 4000000 in
theorem concatu_any (w : World) (A : Option Addr) (k c : Nat) (n : Nat → Nat) (f : Nat → Nat → Nat) (hf : ∀ i j, f i j < 256) (hr : RowsB w w.heap.size A k n f) (hk : k ≤ 1000000) (hs : sumU n k ≤ 1000000000) :
    Calls Try.prog 29 #[.slice A k c] w fun e w' => ∃ A' c', e = .returned (.slice A' (sumU n k) c') ∧ w'.ownsRow w.heap.size 5 1 (.slice A' (sumU n k) c') (sumU n k) (bytesL (sumU n k) (catU n f k)) ∧ Below w.heap.size w w' := by
  have HR := Lib.hid hr; have HF := Lib.hid hf; have HS := Lib.hid hs
  obtain ⟨N, hN⟩ : ∃ N, N = sumU n k := ⟨_, rfl⟩
  rw [← hN] at hs ⊢
  have HN := Lib.hid hN
  clear hr hf hN
  go_enter Try.func29, Try.ntmps29
  go_wp2_with fail
  go_loopw [3, 11] (fun s i wr => ∃ j q : Nat, j ≤ k ∧ i = .int .i64 (j : Int) ∧ s = .int .i64 (q : Int) ∧ Hid (q = sumU n j) ∧ w = wr) (fun _ i _ => k - (intOf i).toNat)
  case atStart => exact ⟨0, 0, Nat.zero_le _, rfl, rfl, Lib.hid rfl, rfl⟩
  case round =>
    obtain ⟨j, q, hj, rfl, rfl, HQ, rfl⟩ := hrel
    by_cases hlt : j < k
    · have hlti : (j : Int) < (k : Int) := by omega
      obtain ⟨b, o, rfl, hb, hcc⟩ := HR.out (by omega)
      obtain ⟨Ai, ci, c1, _, _⟩ := hcc j hlt
      have hq1 : sumU n (j + 1) = q + n j := by rw [HQ.out]; rfl
      have hq2 := sumU_mono n (show j + 1 ≤ k by omega)
      have hq3 := HS.out
      obtain ⟨m, hm⟩ : ∃ m, m = n j := ⟨_, rfl⟩
      rw [← hm] at c1 hq1
      have hqm : q + m ≤ 1000000000 := by omega
      have hnn : ¬ ((q : Int) + (m : Int) < 0) := by omega
      have HQ1 := Lib.hid hq1
      clear hcc hq1 hq2 hq3 hm
      go_wp2
      go_roundw
      case rel => exact ⟨j + 1, q + m, by omega, by go_num, by go_num, Lib.hid HQ1.out.symm, trivial⟩
      case measure => simp [intOf]; omega
    · obtain rfl : j = k := by omega
      have hlti : ¬ (j : Int) < (j : Int) := by omega
      have hqN : q = N := by rw [HQ.out, HN.out]
      subst hqN
      go_wp2_with fail
      refine (growu_any _ q (by omega)).mono ?_
      rintro e w1 ⟨A1, c1, rfl, ho1, hb1⟩
      have HO1 := Lib.hid ho1; have HB1 := Lib.hid hb1
      clear ho1 hb1
      go_wp2_with fail
      go_loopw [6, 27] (fun s i wr => ∃ (t p : Nat) (At : Option Addr) (ct : Nat), t ≤ j ∧ i = .int .i64 (t : Int) ∧ s = .slice At p ct ∧ Hid (p = sumU n t) ∧ Hid (wr.ownsRow w.heap.size 5 1 (.slice At p ct) p (bytesL p (catU n f t))) ∧ Hid (Below w.heap.size w wr)) (fun _ i _ => j - (intOf i).toNat)
      case atStart => exact ⟨0, 0, A1, c1, Nat.zero_le _, rfl, rfl, Lib.hid rfl, HO1, HB1⟩
      case round =>
        obtain ⟨t, p, At, ct, ht, rfl, rfl, HP, HO, HB⟩ := hrel
        by_cases hlt2 : t < j
        · have hlti2 : (t : Int) < (j : Int) := by omega
          obtain ⟨b, o, rfl, hb, hcc⟩ := (HR.out.below HB.out (Nat.le_refl _)) (by omega)
          obtain ⟨Ai, ci, k1, k2, k3⟩ := hcc t hlt2
          have hq1 : sumU n (t + 1) = p + n t := by rw [HP.out]; rfl
          have hq2 := sumU_mono n (show t + 1 ≤ j by omega)
          have hq3 := HS.out
          obtain ⟨A', c', w', r1, r2, r3⟩ := run_more wr w.heap.size _ (.slice At p ct) p _ HO.out Ai (n t) ci (f t) k2 (by omega) 27 k3 HB.out.size
          obtain ⟨m, hm⟩ : ∃ m, m = n t := ⟨_, rfl⟩
          rw [← hm] at k1 r1 r2 hq1
          have e1 : cat (catU n f t) p (f t) = catU n f (t + 1) := by funext x; rw [HP.out]; rfl
          rw [e1] at r2
          have HQ1 := Lib.hid hq1; have R1 := Lib.hid r1; have R2 := Lib.hid r2; have R3 := Lib.hid (HB.out.trans r3)
          clear hcc hq1 hq2 hq3 r1 r2 r3 k2 k3 hm e1
          go_wp2_with (at_builtin; refine wpList_append_run rfl (.tmp 31) (.tmp 32) 27 rfl (.slice At p ct) (.slice Ai m ci) (.slice A' (p + m) c') w' rfl rfl R1.out ?_)
          go_roundw
          case rel => exact ⟨t + 1, p + m, A', c', by omega, by go_num, rfl, Lib.hid HQ1.out.symm, R2, R3⟩
          case measure => simp [intOf]; omega
        · obtain rfl : t = j := by omega
          have hlti2 : ¬ (t : Int) < (t : Int) := by omega
          have hpq : p = q := by rw [HP.out, HN.out]
          subst hpq
          go_wp2
          go_ret
          exact ⟨At, ct, rfl, HO.out, HB.out⟩
end Go.Proofs.Ytjhljkhgjcckhaa

namespace Go.Proofs.Ytjhljkhgjcckhaa
open Go.RowKit Go.ChangeShapes Go.WideShapes Go.ChangeAt
/-! ### bits that were put -/
theorem bit_there (x b r : Nat) (hx : x < 2 ^ r) (hb : b < 2) : (x + b * 2 ^ r) / 2 ^ r % 2 = b := by
  rw [Nat.add_mul_div_right _ _ (Nat.two_pow_pos r), Nat.div_eq_of_lt hx]; omega
theorem bit_else (x b r s : Nat) (hx : x < 2 ^ r) (hb : b < 2) (hs : s ≠ r) : (x + b * 2 ^ r) / 2 ^ s % 2 = x / 2 ^ s % 2 := by
  rcases Nat.lt_or_gt_of_ne hs with h | h
  · obtain ⟨d, rfl⟩ : ∃ d, r = s + 1 + d := ⟨r - s - 1, by omega⟩
    have e : b * 2 ^ (s + 1 + d) = (2 * (b * 2 ^ d)) * 2 ^ s := by
      rw [Nat.pow_add, Nat.pow_succ]; simp only [Nat.mul_comm, Nat.mul_left_comm, Nat.mul_assoc]
    rw [e, Nat.add_mul_div_right _ _ (Nat.two_pow_pos s)]; omega
  · have h1 : 2 ^ (r + 1) ≤ 2 ^ s := Nat.pow_le_pow_right (by omega) (by omega)
    rw [Nat.pow_succ] at h1
    have h2 : b * 2 ^ r ≤ 1 * 2 ^ r := Nat.mul_le_mul_right _ (by omega)
    rw [Nat.div_eq_of_lt (by omega), Nat.div_eq_of_lt (by omega)]
theorem stepF_there {f : Nat → Nat} {k b : Nat} (h : Clean f k) (hb : b < 2) : bitAt (stepF f k b) k = b := by
  unfold bitAt stepF upd
  rw [if_pos rfl]
  exact bit_there _ _ _ h.2.2 hb
theorem stepF_else {f : Nat → Nat} {k b j : Nat} (h : Clean f k) (hb : b < 2) (hj : j ≠ k) : bitAt (stepF f k b) j = bitAt f j := by
  unfold bitAt stepF upd
  by_cases e : j / 8 = k / 8
  · rw [if_pos e, e]
    exact bit_else _ _ _ _ h.2.2 hb (by omega)
  · rw [if_neg e]
theorem putF_ahead {f : Nat → Nat} {k : Nat} (h : Clean f k) (v a : Nat) (ha : a < k) : ∀ i, bitAt (putF f k v i) a = bitAt f a
  | 0 => rfl
  | i + 1 => (stepF_else (h.put v i) (Nat.mod_lt _ (by omega)) (by omega)).trans (putF_ahead h v a ha i)
theorem putF_there {f : Nat → Nat} {k : Nat} (h : Clean f k) (v j : Nat) : ∀ i, j < i → bitAt (putF f k v i) (k + j) = v / 2 ^ j % 2
  | 0, hj => by omega
  | i + 1, hj => by
    by_cases e : j = i
    · subst e; exact stepF_there (h.put v j) (Nat.mod_lt _ (by omega))
    · exact (stepF_else (h.put v i) (Nat.mod_lt _ (by omega)) (by omega)).trans (putF_there h v j i (by omega))
theorem numN_eq (g : Nat → Nat) (k v : Nat) : ∀ n, (∀ j, j < n → bitAt g (k + j) = v / 2 ^ j % 2) → numN g k n = v % 2 ^ n
  | 0, _ => by simp [numN, Nat.mod_one]
  | n + 1, h => by
    show numN g k n + bitAt g (k + n) * 2 ^ n = _
    rw [numN_eq g k v n fun j hj => h j (by omega), h n (by omega), Nat.pow_succ, Nat.mod_mul, Nat.mul_comm (2 ^ n)]
theorem numN_congr {f g : Nat → Nat} {a : Nat} : ∀ n, (∀ j, j < n → bitAt f (a + j) = bitAt g (a + j)) → numN f a n = numN g a n
  | 0, _ => rfl
  | n + 1, h => by
    show numN f a n + _ = numN g a n + _
    rw [numN_congr n fun j hj => h j (by omega), h n (by omega)]
theorem put_taken {f : Nat → Nat} {k : Nat} (h : Clean f k) (v m : Nat) (hv : v < 2 ^ m) : numN (putF f k v m) k m = v := by
  rw [numN_eq _ k v m fun j hj => putF_there h v j m hj, Nat.mod_eq_of_lt hv]
theorem bitAt_zext {f : Nat → Nat} {n a : Nat} (h : a < 8 * n) : bitAt (zext n f) a = bitAt f a := by
  unfold bitAt; rw [zext_in f (by omega)]
theorem check_of_clean {f : Nat → Nat} {n K : Nat} (h : Clean f K) (hK : K ≤ 8388608) (hn : n = (K + 7) / 8) : penE f n (K : Int) = 0 := by
  rw [checkE_nat, if_pos]
  refine ⟨hK, hn, ?_⟩
  by_cases e : K % 8 = 0
  · exact .inl e
  · right
    rw [show n - 1 = K / 8 by omega]
    exact Nat.div_eq_of_lt h.2.2
end Go.Proofs.Ytjhljkhgjcckhaa

namespace Go.Proofs.Ytjhljkhgjcckhaa
open Go.RowKit Go.ChangeShapes Go.WideShapes Go.ChangeAt
theorem putF_congr {F : Nat → Nat} {k u v : Nat} : ∀ i, (∀ j, j < i → u / 2 ^ j % 2 = v / 2 ^ j % 2) → putF F k u i = putF F k v i
  | 0, _ => rfl
  | i + 1, h => by
    show stepF (putF F k u i) (k + i) _ = stepF (putF F k v i) (k + i) _
    rw [putF_congr i fun j hj => h j (by omega), h i (by omega)]
theorem putF_on (F : Nat → Nat) (k v low : Nat) : ∀ i, putF (putF F k v low) (k + low) (v / 2 ^ low) i = putF F k v (low + i)
  | 0 => rfl
  | i + 1 => by
    show stepF (putF (putF F k v low) (k + low) (v / 2 ^ low) i) (k + low + i) (v / 2 ^ low / 2 ^ i % 2) = stepF (putF F k v (low + i)) (k + (low + i)) (v / 2 ^ (low + i) % 2)
    rw [putF_on F k v low i, Nat.div_div_eq_div_mul, ← Nat.pow_add, Nat.add_assoc]
theorem low_bits (v low j : Nat) (h : j < low) : v % 2 ^ low / 2 ^ j % 2 = v / 2 ^ j % 2 := by
  obtain ⟨d, rfl⟩ : ∃ d, low = j + 1 + d := ⟨low - j - 1, by omega⟩
  rw [Nat.pow_add, Nat.mod_mul, Nat.pow_succ]
  have e : 2 ^ j * 2 * (v / (2 ^ j * 2) % 2 ^ d) = 2 ^ j * (2 * (v / (2 ^ j * 2) % 2 ^ d)) := Nat.mul_assoc _ _ _
  rw [e, Nat.add_mul_div_left _ _ (Nat.two_pow_pos j), Nat.mod_mul, Nat.add_mul_div_left _ _ (Nat.two_pow_pos j), Nat.div_eq_of_lt (Nat.mod_lt _ (Nat.two_pow_pos j))]
  omega
theorem put_parts (F : Nat → Nat) (k v low n : Nat) (h : low ≤ n) : putF (putF F k (v % 2 ^ low) low) (k + low) (v / 2 ^ low) (n - low) = putF F k v n := by
  rw [putF_congr (u := v % 2 ^ low) (v := v) low fun j hj => low_bits v low j hj, putF_on, show low + (n - low) = n by omega]
end Go.Proofs.Ytjhljkhgjcckhaa

namespace Go.Proofs.Ytjhljkhgjcckhaa
theorem putsF_ahead {f : Nat → Nat} {k : Nat} (h : Clean f k) (a : Nat) (ha : a < k) : ∀ P, bitAt (putsF f k P) a = bitAt f a
  | [] => rfl
  | x :: P => by
    simp only [putsF]
    rw [putsF_ahead (h.put x.1 x.2) a (by omega) P, putF_ahead h x.1 a ha x.2]
theorem blkP_last (a k n : Nat) (r : Nat → Nat) (l : List Tok) (last : Bool) : bitsT (blkP a k n r l last) = bitsT (blkP a k n r l false) := by
  unfold blkP; rw [bitsT_app, bitsT_app]; rfl
theorem blk_kind {f : Nat → Nat} {K : Nat} (h : Clean f K) (a k n : Nat) (r : Nat → Nat) (l : List Tok) (last : Bool) (hk : k ≤ 2) : numN (putsF f K (blkP a k n r l last)) K 3 = 2 * k + (if last then 1 else 0) ∧ 3 ≤ bitsT (blkP a k n r l last) := by
  obtain ⟨b, hb⟩ : ∃ b, b = if last then 1 else 0 := ⟨_, rfl⟩
  obtain ⟨R, hR⟩ : ∃ R, R = (if k = 1 then toksP fixA 288 fixB 32 l else if k = 2 then dynP l ++ toksP (lnA l) (nA l) (lnB l) (nB l) l else stoP a n r) := ⟨_, rfl⟩
  have hb2 : b < 2 := by rw [hb]; split <;> omega
  have e : blkP a k n r l last = [(b, 1), (k, 2)] ++ R := by unfold blkP; rw [hb, hR]
  rw [e, ← hb, putsF_app, bitsT_app]
  have e3 : ∀ b : Nat, bitsT [(b, 1), (k, 2)] = 3 := fun _ => rfl
  rw [e3]
  refine ⟨?_, by omega⟩
  have hp : putsF f K [(b, 1), (k, 2)] = putF f K (b + 2 * k) 3 := by
    have h1 := put_parts f K (b + 2 * k) 1 3 (by omega)
    rw [show (b + 2 * k) % 2 ^ 1 = b by omega, show (b + 2 * k) / 2 ^ 1 = k by omega] at h1
    exact h1
  rw [hp]
  have hc := h.put (b + 2 * k) 3
  rw [numN_congr 3 (fun j hj => putsF_ahead hc (K + j) (by omega) R), put_taken h (b + 2 * k) 3 (by omega)]
  omega
theorem blk_ahead {f : Nat → Nat} {n K : Nat} (h : Clean (zext n f) K) (hn : n = (K + 7) / 8) (P : List (Nat × Nat)) (a : Nat) (ha : a < K) : bitAt (putsF (zext n f) K P) a = bitAt f a := by
  rw [putsF_ahead h a ha P]
  exact bitAt_zext (by omega)
end Go.Proofs.Ytjhljkhgjcckhaa

