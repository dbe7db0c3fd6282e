/-
  Layer 1 (bits), numbers alone: what bits.fits, bits.need and bits.Turn answer for every argument, as plain functions on numbers; the world is left as it is.
-/
import Derived.Test.YtedjapamimhglaaBase
import Derived.Test.YtedjapamimhglaaAfter
import Derived.WalkKit
import Derived.ProofKit
import Derived.Lib.Hide
namespace Go.Proofs.Ytedjapamimhglaa
open Go.RowKit
def fitsB (v n : Int) : Bool := decide (0 ≤ n ∧ n ≤ 32 ∧ v < 2 ^ n.toNat)
theorem fitsB_nat {v n : Nat} : fitsB v n = true ↔ n ≤ 32 ∧ v < 2 ^ n := by
  have e : ((2 : Int) ^ n) = ((2 ^ n : Nat) : Int) := by rw [Int.natCast_pow]; rfl
  simp only [fitsB, decide_eq_true_eq, Int.toNat_natCast]
  rw [e]
  constructor
  · rintro ⟨_, h1, h2⟩; exact ⟨by omega, by exact_mod_cast h2⟩
  · rintro ⟨h1, h2⟩; exact ⟨by omega, by omega, by exact_mod_cast h2⟩
theorem fitsB_int {v n : Int} (h : fitsB v n = true) : ∃ k : Nat, n = k ∧ k ≤ 32 := by
  simp only [fitsB, decide_eq_true_eq] at h
  exact ⟨n.toNat, by omega, by omega⟩
theorem div_zero_iff (v p : Int) (h0 : 0 ≤ v) (hp : 0 < p) : (v / p == 0) = decide (v < p) := by
  rw [Bool.eq_iff_iff]; simp
  constructor
  · intro h
    have := Int.emod_add_mul_ediv v p
    rw [h] at this
    have := Int.emod_lt_of_pos v hp
    omega
  · intro h
    exact Int.ediv_eq_zero_of_lt h0 h
set_option maxHeartbeats 400000 in
theorem fits_any (v n : Int) (w : World) (h0 : 0 ≤ v) (_h1 : v < 4294967296) (hn0 : -9223372036854775808 ≤ n) (hn1 : n ≤ 9223372036854775807) :
    Calls Try.prog 41 #[.int .u32 v, .int .i64 n] w fun e w' => e = .returned (.bool (fitsB v n)) ∧ w = w' := by
  by_cases ha : 0 ≤ n
  · by_cases hb : n ≤ 32
    · go_enter Try.func41, Try.ntmps41
      go_wp2
      go_ret
      refine ⟨ret_bool ?_, rfl⟩
      rw [div_zero_iff v _ h0 (Int.pow_pos (by omega))]
      simp [fitsB, ha, hb]
    · go_enter Try.func41, Try.ntmps41
      go_wp2
      go_ret
      exact ⟨ret_bool (by simp [fitsB]; omega), rfl⟩
  · go_enter Try.func41, Try.ntmps41
    go_wp2
    go_ret
    exact ⟨ret_bool (by simp [fitsB]; omega), rfl⟩
theorem need_any (k : Nat) (w : World) (h : k ≤ 9223372036854775800) :
    Calls Try.prog 43 #[.int .i64 (k : Int)] w fun e w' => e = .returned (.int .i64 (((k + 7) / 8 : Nat) : Int)) ∧ w = w' := by
  go_enter Try.func43, Try.ntmps43
  go_wp2
  go_ret
  exact ⟨rfl, rfl⟩
/-- The number whose bits are the first i bits of v, the other way round. -/
def turnN (v : Nat) : Nat → Nat
  | 0 => 0
  | i + 1 => 2 * turnN v i + v / 2 ^ i % 2
theorem turnN_lt (v : Nat) : ∀ i, turnN v i < 2 ^ i
  | 0 => by simp [turnN]
  | i + 1 => by
    have := turnN_lt v i
    have h2 : v / 2 ^ i % 2 < 2 := Nat.mod_lt _ (by omega)
    simp only [turnN, Nat.pow_succ]; omega
set_option maxHeartbeats 400000 in
theorem turn_bad (v n : Int) (w : World) (h0 : 0 ≤ v) (h1 : v < 4294967296) (hn0 : -9223372036854775808 ≤ n) (hn1 : n ≤ 9223372036854775807) (hf : fitsB v n = false) :
    Calls Try.prog 23 #[.int .u32 v, .int .i64 n] w fun e w' => e = .returned (.tuple #[.int .u32 0, .int .i64 2]) ∧ w = w' := by
  go_enter Try.func23, Try.ntmps23
  go_wp2_with (go_at_call 41; refine (fits_any _ _ _ h0 h1 hn0 hn1).mono ?_; rintro e w' ⟨rfl, rfl⟩)
  go_ret2
  exact ⟨rfl, rfl⟩
set_option maxHeartbeats 400000 in
theorem turn_ok (v n : Nat) (w : World) (h1 : v < 4294967296) (hn1 : n ≤ 32) (hf : fitsB v n = true) :
    Calls Try.prog 23 #[.int .u32 v, .int .i64 n] w fun e w' => e = .returned (.tuple #[.int .u32 (turnN v n), .int .i64 0]) ∧ w = w' := by
  go_enter Try.func23, Try.ntmps23
  go_wp2_with (go_at_call 41; refine (fits_any _ _ _ (by omega) (by omega) (by omega) (by omega)).mono ?_; rintro e w' ⟨rfl, rfl⟩)
  go_loop [6, 7, 13] (fun t _ i => ∃ k : Nat, k ≤ n ∧ i = .int .i64 k ∧ t = .int .u32 (turnN v k)) (fun _ _ i => n - (intOf i).toNat)
  case atStart => exact ⟨0, Nat.zero_le _, rfl, rfl⟩
  case round =>
    obtain ⟨k, hk, rfl, rfl⟩ := hrel
    have hb := turnN_lt v k
    have hb2 : turnN v k < 4294967296 := lt_32 hb (by omega)
    by_cases hlt : k < n
    · go_wp2
      refine ⟨⟨k + 1, hlt, by go_num, val_int ?_⟩, by simp [intOf]; omega⟩
      have h3 : turnN v k * 2 < 4294967296 := by
        have := pow_le_32 (k := k + 1) (by omega)
        rw [Nat.pow_succ] at this; omega
      have h4 : v / 2 ^ k % 2 < 2 := Nat.mod_lt _ (by omega)
      rw [bit_cast v k h1, show ((turnN v k : Int) * 2 % 4294967296) = ((turnN v k * 2 : Nat) : Int) by omega,
        u32_or_add _ _ 1 h3 (by omega) (by omega) (by omega)]
      simp only [turnN]; congr 1; omega
    · go_wp2
      go_ret2
      exact ⟨ret_two (by rw [show k = n by omega]) rfl, rfl⟩
end Go.Proofs.Ytedjapamimhglaa
