/-
  For every pen, number, bit count and place: the law BitsBack returns true, and its arguments read as they did. No condition beside the statement's own.
-/
import Derived.Test.YtedjapamimhglaaBitWhole
namespace Go.Proofs.Ytedjapamimhglaa
open Go.RowKit Go.ChangeShapes Go.WideShapes Go.ChangeAt
/-! ### bits that were put -/
theorem bit_there (x b r : Nat) (hx : x < 2 ^ r) (hb : b < 2) : (x + b * 2 ^ r) / 2 ^ r % 2 = b := by
  rw [Nat.add_mul_div_right _ _ (Nat.two_pow_pos r), Nat.div_eq_of_lt hx]; omega
theorem bit_else (x b r s : Nat) (hx : x < 2 ^ r) (hb : b < 2) (hs : s ≠ r) : (x + b * 2 ^ r) / 2 ^ s % 2 = x / 2 ^ s % 2 := by
  rcases Nat.lt_or_gt_of_ne hs with h | h
  · obtain ⟨d, rfl⟩ : ∃ d, r = s + 1 + d := ⟨r - s - 1, by omega⟩
    have e : b * 2 ^ (s + 1 + d) = (2 * (b * 2 ^ d)) * 2 ^ s := by
      rw [Nat.pow_add, Nat.pow_succ]; simp only [Nat.mul_comm, Nat.mul_left_comm, Nat.mul_assoc]
    rw [e, Nat.add_mul_div_right _ _ (Nat.two_pow_pos s)]; omega
  · have h1 : 2 ^ (r + 1) ≤ 2 ^ s := Nat.pow_le_pow_right (by omega) (by omega)
    rw [Nat.pow_succ] at h1
    have h2 : b * 2 ^ r ≤ 1 * 2 ^ r := Nat.mul_le_mul_right _ (by omega)
    rw [Nat.div_eq_of_lt (by omega), Nat.div_eq_of_lt (by omega)]
theorem stepF_there {f : Nat → Nat} {k b : Nat} (h : Clean f k) (hb : b < 2) : bitAt (stepF f k b) k = b := by
  unfold bitAt stepF upd
  rw [if_pos rfl]
  exact bit_there _ _ _ h.2.2 hb
theorem stepF_else {f : Nat → Nat} {k b j : Nat} (h : Clean f k) (hb : b < 2) (hj : j ≠ k) : bitAt (stepF f k b) j = bitAt f j := by
  unfold bitAt stepF upd
  by_cases e : j / 8 = k / 8
  · rw [if_pos e, e]
    exact bit_else _ _ _ _ h.2.2 hb (by omega)
  · rw [if_neg e]
theorem putF_ahead {f : Nat → Nat} {k : Nat} (h : Clean f k) (v a : Nat) (ha : a < k) : ∀ i, bitAt (putF f k v i) a = bitAt f a
  | 0 => rfl
  | i + 1 => (stepF_else (h.put v i) (Nat.mod_lt _ (by omega)) (by omega)).trans (putF_ahead h v a ha i)
theorem putF_there {f : Nat → Nat} {k : Nat} (h : Clean f k) (v j : Nat) : ∀ i, j < i → bitAt (putF f k v i) (k + j) = v / 2 ^ j % 2
  | 0, hj => by omega
  | i + 1, hj => by
    by_cases e : j = i
    · subst e; exact stepF_there (h.put v j) (Nat.mod_lt _ (by omega))
    · exact (stepF_else (h.put v i) (Nat.mod_lt _ (by omega)) (by omega)).trans (putF_there h v j i (by omega))
theorem numN_eq (g : Nat → Nat) (k v : Nat) : ∀ n, (∀ j, j < n → bitAt g (k + j) = v / 2 ^ j % 2) → numN g k n = v % 2 ^ n
  | 0, _ => by simp [numN, Nat.mod_one]
  | n + 1, h => by
    show numN g k n + bitAt g (k + n) * 2 ^ n = _
    rw [numN_eq g k v n fun j hj => h j (by omega), h n (by omega), Nat.pow_succ, Nat.mod_mul, Nat.mul_comm (2 ^ n)]
theorem numN_congr {f g : Nat → Nat} {a : Nat} : ∀ n, (∀ j, j < n → bitAt f (a + j) = bitAt g (a + j)) → numN f a n = numN g a n
  | 0, _ => rfl
  | n + 1, h => by
    show numN f a n + _ = numN g a n + _
    rw [numN_congr n fun j hj => h j (by omega), h n (by omega)]
theorem put_taken {f : Nat → Nat} {k : Nat} (h : Clean f k) (v m : Nat) (hv : v < 2 ^ m) : numN (putF f k v m) k m = v := by
  rw [numN_eq _ k v m fun j hj => putF_there h v j m hj, Nat.mod_eq_of_lt hv]
theorem bitAt_zext {f : Nat → Nat} {n a : Nat} (h : a < 8 * n) : bitAt (zext n f) a = bitAt f a := by
  unfold bitAt; rw [zext_in f (by omega)]
theorem check_of_clean {f : Nat → Nat} {n K : Nat} (h : Clean f K) (hK : K ≤ 8388608) (hn : n = (K + 7) / 8) : penE f n (K : Int) = 0 := by
  rw [checkE_nat, if_pos]
  refine ⟨hK, hn, ?_⟩
  by_cases e : K % 8 = 0
  · exact .inl e
  · right
    rw [show n - 1 = K / 8 by omega]
    exact Nat.div_eq_of_lt h.2.2
/-- Each way that bits.Put refuses. -/
theorem put_err (w : World) (A : Option Addr) (n c : Nat) (f : Nat → Nat) (k m : Int) (v : Nat) (hr : RdB w w.heap.size A n f) (hv : v < 4294967296) (hn0 : -9223372036854775808 ≤ m) (hn1 : m ≤ 9223372036854775807)
    (h : ¬ (penE f n k = 0 ∧ fitsB v m = true ∧ k + m ≤ 8388608)) :
    Calls Try.prog 24 #[.agg #[.slice A n c, .int .i64 k], .int .u32 (v : Int), .int .i64 m] w fun e w' => ∃ E : Int, 0 < E ∧ E < 100 ∧ e = .returned (.tuple #[.agg #[.slice none 0 0, .int .i64 0], .int .i64 E]) ∧ Below w.heap.size w w' := by
  rcases checkE_eq f n k with h0 | h0
  · cases hf : fitsB v m with
    | false => exact (put_arg w A n c f k m v hr h0 hv hn0 hn1 hf).mono fun e w' ⟨a, b⟩ => ⟨2, by omega, by omega, a, b⟩
    | true =>
      obtain ⟨K, rfl, hK, _⟩ := check_clean hr.1 h0
      obtain ⟨M, rfl, hM⟩ := fitsB_int hf
      exact (put_full w A n c f K M v hr h0 hK hv hM hf (by by_cases e : (K : Int) + M ≤ 8388608; exact absurd ⟨h0, hf, e⟩ h; omega)).mono fun e w' ⟨a, b⟩ => ⟨9, by omega, by omega, a, b⟩
  · exact (put_bad w A n c f k m v hr h0).mono fun e w' ⟨a, b⟩ => ⟨8, by omega, by omega, a, b⟩
end Go.Proofs.Ytedjapamimhglaa
