/-
  Layer 1 (bits), the document's own answer: when a pen may be (May, Check), and when two pens are the same (Same).
-/
import Derived.Test.YtniekmnjnnkieaaTwin
namespace Go.Proofs.Ytniekmnjnnkieaa
open Go.RowKit
theorem clean_bits {f : Nat → Nat} (hf : ∀ j, f j < 256) {n k : Nat} (hn : n = (k + 7) / 8) : (∀ j, k ≤ j → j < 8 * n → bitAt f j = 0) ↔ (k % 8 = 0 ∨ shrN (f (n - 1)) (k % 8) = 0) := by
  constructor
  · intro h
    by_cases e : k % 8 = 0
    · exact .inl e
    · right
      unfold shrN
      apply Nat.eq_of_testBit_eq
      intro t
      rw [Nat.zero_testBit, Nat.testBit_div_two_pow]
      by_cases ht : k % 8 + t < 8
      · have h1 := h (8 * (n - 1) + (t + k % 8)) (by omega) (by omega)
        unfold bitAt at h1
        rw [show (8 * (n - 1) + (t + k % 8)) / 8 = n - 1 by omega, show (8 * (n - 1) + (t + k % 8)) % 8 = t + k % 8 by omega] at h1
        rw [Nat.testBit_eq_decide_div_mod_eq, h1]; rfl
      · exact Nat.testBit_lt_two_pow (Nat.lt_of_lt_of_le (hf _) (Nat.pow_le_pow_right (n := 2) (by omega) (show 8 ≤ t + k % 8 by omega)))
  · intro h j h1 h2
    rcases h with h | h
    · omega
    · by_cases e : k % 8 = 0
      · omega
      unfold shrN at h
      have h3 := (Nat.div_eq_zero_iff_lt (Nat.two_pow_pos _)).1 h
      unfold bitAt
      rw [show j / 8 = n - 1 by omega, Nat.div_eq_of_lt (Nat.lt_of_lt_of_le h3 (Nat.pow_le_pow_right (by omega) (by omega)))]
theorem mayB_nat {f : Nat → Nat} {n k : Nat} (hk : k ≤ 8388608) (hn : n = (k + 7) / 8) : mayB f n (k : Int) = decide (k % 8 = 0 ∨ shrN (f (n - 1)) (k % 8) = 0) := by
  have e : ((k : Int) % 8).toNat = k % 8 := by omega
  unfold mayB
  rw [e, decide_eq_decide]
  constructor
  · rintro ⟨_, _, _, h⟩; exact h.imp (fun h => by omega) id
  · intro h; exact ⟨by omega, by omega, by simpa using hn, h.imp (fun h => by omega) id⟩
theorem mayB_no {f : Nat → Nat} {n : Nat} {k : Int} (h : ¬ (0 ≤ k ∧ k ≤ 8388608 ∧ n = (k.toNat + 7) / 8)) : mayB f n k = false := by
  unfold mayB; exact decide_eq_false fun h' => h ⟨h'.1, h'.2.1, h'.2.2.1⟩
set_option maxHeartbeats 1000000 in
theorem may_no (w : World) (A : Option Addr) (n c : Nat) (f : Nat → Nat) (k : Int) (h : ¬ (0 ≤ k ∧ k ≤ 8388608 ∧ n = (k.toNat + 7) / 8)) :
    Calls Try.prog 31 #[.agg #[.slice A n c, .int .i64 k]] w fun e w' => e = .returned (.bool (mayB f n k)) ∧ Below w.heap.size w w' := by
  rw [mayB_no h]
  by_cases h1 : k < 0
  · clear h
    go_enter Try.func31, Try.ntmps31
    go_wp2
    go_ret
    exact ⟨rfl, (Below.refl _ _).alloc (Nat.le_refl _) _⟩
  · by_cases h2 : 8388608 < k
    · clear h
      go_enter Try.func31, Try.ntmps31
      go_wp2
      go_ret
      exact ⟨rfl, (Below.refl _ _).alloc (Nat.le_refl _) _⟩
    · obtain ⟨k, rfl⟩ := Int.eq_ofNat_of_zero_le (show 0 ≤ k by omega)
      have hne : ((n : Int) == ((k : Int) + 7) / 8) = false := by simp; omega
      have hne' : ((n : Int) != ((k : Int) + 7) / 8) = true := by simp; omega
      clear h
      go_enter Try.func31, Try.ntmps31
      go_wp2
      go_ret
      exact ⟨rfl, (Below.refl _ _).alloc (Nat.le_refl _) _⟩
set_option maxHeartbeats 1000000 in
theorem may_yes (w : World) (A : Option Addr) (n c : Nat) (f : Nat → Nat) (k : Nat) (hr : RdB w w.heap.size A n f) (hk : k ≤ 8388608) (hn : n = (k + 7) / 8) :
    Calls Try.prog 31 #[.agg #[.slice A n c, .int .i64 (k : Int)]] w fun e w' => e = .returned (.bool (mayB f n k)) ∧ Below w.heap.size w w' := by
  have hm := mayB_nat (f := f) hk hn
  have hb := clean_bits hr.1 hn
  have hne : ((n : Int) == ((k : Int) + 7) / 8) = true := by simp; omega
  have hne' : ((n : Int) != ((k : Int) + 7) / 8) = false := by simp; omega
  have hn2 : n ≤ 2000000 := by omega
  have hkn : k ≤ 8 * n := by omega
  have HR := Lib.hid hr; have HM := Lib.hid hm; have HN := Lib.hid hn; have HB := Lib.hid hb
  clear hr hm hn hb
  go_enter Try.func31, Try.ntmps31
  go_wp2
  go_loop [3] (fun t => ∃ i : Nat, k ≤ i ∧ i ≤ 8 * n ∧ t = .int .i64 i ∧ ∀ j, k ≤ j → j < i → bitAt f j = 0) (fun t => 8 * n - (intOf t).toNat)
  case atStart => exact ⟨k, Nat.le_refl _, hkn, rfl, fun j h1 h2 => by omega⟩
  case round =>
    obtain ⟨i, hi1, hi2, rfl, hz⟩ := hrel
    have HZ := Lib.hid hz
    clear hz
    by_cases hlt : i < 8 * n
    · go_wp2_with fail
      refine (rbit_any _ w.heap.size A n c f i (HR.out.below ((Below.refl _ _).alloc (Nat.le_refl _) _) (Nat.le_refl _)) hlt (by omega)).mono ?_
      rintro e w' ⟨rfl, rfl⟩
      by_cases hbit : bitAt f i = 0
      · rw [hbit]
        go_wp2
        refine ⟨⟨i + 1, by omega, hlt, by go_num, fun j h1 h2 => ?_⟩, by simp [intOf]; omega⟩
        by_cases e : j = i
        · rw [e]; exact hbit
        · exact HZ.out j h1 (by omega)
      · have hbit2 : ((bitAt f i : Int) != 0) = true := by simp; omega
        have hbit3 : ((bitAt f i : Int) == 0) = false := by simp; omega
        go_wp2
        go_ret
        refine ⟨ret_bool ?_, (Below.refl _ _).alloc (Nat.le_refl _) _⟩
        rw [HM.out, eq_comm]
        exact decide_eq_false fun h => hbit (HB.out.2 h i hi1 hlt)
    · go_wp2
      go_ret
      refine ⟨ret_bool ?_, (Below.refl _ _).alloc (Nat.le_refl _) _⟩
      rw [HM.out, eq_comm]
      exact decide_eq_true (HB.out.1 fun j h1 h2 => HZ.out j h1 (by omega))
theorem may_any (w : World) (A : Option Addr) (n c : Nat) (f : Nat → Nat) (k : Int) (hr : RdB w w.heap.size A n f) :
    Calls Try.prog 31 #[.agg #[.slice A n c, .int .i64 k]] w fun e w' => e = .returned (.bool (mayB f n k)) ∧ Below w.heap.size w w' := by
  by_cases h : 0 ≤ k ∧ k ≤ 8388608 ∧ n = (k.toNat + 7) / 8
  · obtain ⟨k, rfl⟩ := Int.eq_ofNat_of_zero_le h.1
    exact may_yes w A n c f k hr (by omega) (by simpa using h.2.2)
  · exact may_no w A n c f k h
set_option maxHeartbeats 1000000 in
theorem rcheck_any (w : World) (A : Option Addr) (n c : Nat) (f : Nat → Nat) (k : Int) (hr : RdB w w.heap.size A n f) :
    Calls Try.prog 23 #[.agg #[.slice A n c, .int .i64 k]] w fun e w' => e = .returned (.int .i64 (checkE f n k)) ∧ Below w.heap.size w w' := by
  unfold checkE
  have HR := Lib.hid hr
  clear hr
  cases hm : mayB f n k with
  | true =>
    go_enter Try.func23, Try.ntmps23
    go_wp2_with fail
    refine (may_any _ A n c f k ((HR.out.below ((Below.refl _ _).alloc (Nat.le_refl _) _) (Nat.le_refl _)).more (by simp))).mono ?_
    rintro e w2 ⟨rfl, hb⟩
    have HB := Lib.hid (((Below.refl w.heap.size w).alloc (Nat.le_refl _) _).trans (hb.mono (by simp)))
    clear hb
    rw [hm]
    go_wp2
    go_ret
    exact ⟨rfl, HB.out⟩
  | false =>
    go_enter Try.func23, Try.ntmps23
    go_wp2_with fail
    refine (may_any _ A n c f k ((HR.out.below ((Below.refl _ _).alloc (Nat.le_refl _) _) (Nat.le_refl _)).more (by simp))).mono ?_
    rintro e w2 ⟨rfl, hb⟩
    have HB := Lib.hid (((Below.refl w.heap.size w).alloc (Nat.le_refl _) _).trans (hb.mono (by simp)))
    clear hb
    rw [hm]
    go_wp2
    go_ret
    exact ⟨rfl, HB.out⟩
set_option maxHeartbeats 1000000 in
theorem same_yes (w : World) (A A' : Option Addr) (n n' c c' : Nat) (f f' : Nat → Nat) (k : Int) (hr : RdB w w.heap.size A n f) (hr' : RdB w w.heap.size A' n' f') (hs : strB n f = strB n' f') :
    Calls Try.prog 22 #[.agg #[.slice A n c, .int .i64 k], .agg #[.slice A' n' c', .int .i64 k]] w fun e w' => e = .returned (.bool true) ∧ Below w.heap.size w w' := by
  have hb : Below w.heap.size w ((w.alloc (.cells #[.slice A n c, .int .i64 k] 28)).alloc (.cells #[.slice A' n' c', .int .i64 k] 28)) := ((Below.refl _ _).alloc (Nat.le_refl _) _).alloc (by simp) _
  have s1 := run_str (hr.below hb (Nat.le_refl _)) c
  have s2 := run_str (hr'.below hb (Nat.le_refl _)) c'
  rw [hs] at s1
  clear hr hr' hs hb
  go_enter Try.func22, Try.ntmps22
  go_wp2
  go_ret
  exact ⟨rfl, ((Below.refl _ _).alloc (Nat.le_refl _) _).alloc (by simp) _⟩
end Go.Proofs.Ytniekmnjnnkieaa
