/-
  A stable sort: parts of a row that change places.
-/
import Derived.Test.YtgppikhfkikknaaSortMem
namespace Go.Proofs.Ytgppikhfkikknaa
open Go.RowKit
set_option maxRecDepth 100000 in
set_option maxHeartbeats 4000000 in
theorem swap_any (w : World) (g N c : Nat) (f : Nat → Nat) (hr : RowZ w g N f) (a b n : Nat) (hab : a + n ≤ b) (hb : b + n ≤ N) (hN : N ≤ 400) (fv : Value) :
    Calls Try.prog 42 #[.slice (some ⟨g, 0, none⟩) N c, .int .i64 (a : Int), .int .i64 (b : Int), .int .i64 (n : Int), fv] w fun e w' => e = .returned (.tuple #[]) ∧ Below g w w' ∧ RowZ w' g N (swF f a b n) := by
  have HR := Lib.hid hr
  clear hr
  go_enter Try.func42, Try.ntmps42
  go_wp2
  go_loopw [10] (fun i wr => ∃ k : Nat, k ≤ n ∧ i = .int .i64 (k : Int) ∧ Below g w wr ∧ RowZ wr g N (swF f a b k)) (fun i _ => n - (intOf i).toNat)
  case atStart => exact ⟨0, Nat.zero_le _, rfl, Below.refl _ _, by rw [sw_start]; exact HR.out⟩
  case round =>
    obtain ⟨k, hk, rfl, hbl, hrow⟩ := hrel
    by_cases hlt : k < n
    · have hlti : (k : Int) < (n : Int) := by omega
      have HB := Lib.hid hbl; have HROW := Lib.hid hrow
      obtain ⟨p, hp⟩ : ∃ p, p = a + k := ⟨_, rfl⟩
      obtain ⟨q, hq⟩ : ∃ q, q = b + k := ⟨_, rfl⟩
      have hpN : p < N := by omega
      have hqN : q < N := by omega
      have c1 := hrow.cell hpN
      have c2 := hrow.cell hqN
      have f1 := hrow.frozen p
      have f2 := hrow.frozen q
      have c3 := hrow.two p q hqN (swF f a b k q)
      have e1 : (a : Int) + (k : Int) = (p : Int) := by omega
      have e2 : (b : Int) + (k : Int) = (q : Int) := by omega
      have hsw := HROW.out.swap p q
      obtain ⟨x, hx⟩ : ∃ x, x = swF f a b k p := ⟨_, rfl⟩
      obtain ⟨y, hy⟩ : ∃ y, y = swF f a b k q := ⟨_, rfl⟩
      obtain ⟨z, hz⟩ : ∃ z, z = upd (swF f a b k) p y q := ⟨_, rfl⟩
      rw [← hx, ← hy] at hsw
      rw [← hy, ← hz] at c3
      rw [← hx] at c1
      rw [← hy] at c2
      have HSW := Lib.hid hsw
      have HP := Lib.hid hp; have HQ := Lib.hid hq
      clear hsw hbl hrow hx hy hz hp hq
      go_wp2_with fail
      go_region
      go_wp2
      go_roundw
      case rel =>
        refine ⟨k + 1, by omega, by go_num, ((HB.out.setCell (p := ⟨g, p, none⟩) (Nat.le_refl _) _).setCell (p := ⟨g, q, none⟩) (Nat.le_refl _) _).drew, ?_⟩
        have h := HSW.out.drew
        rw [HP.out, HQ.out, sw_step f hab hlt] at h
        rw [HP.out, HQ.out]
        exact h
      case measure => simp [intOf]; omega
    · obtain rfl : k = n := by omega
      have hlti : ¬ (k : Int) < (k : Int) := by omega
      have HB := Lib.hid hbl; have HROW := Lib.hid hrow
      clear hbl hrow
      go_wp2
      go_end0
      exact ⟨rfl, HB.out, HROW.out⟩
set_option maxRecDepth 100000 in
set_option maxHeartbeats 4000000 in
theorem rotate_any (w : World) (g N c : Nat) (f : Nat → Nat) (hr : RowZ w g N f) (a m b : Nat) (ham : a < m) (hmb : m < b) (hb : b ≤ N) (hN : N ≤ 400) (fv : Value) :
    Calls Try.prog 41 #[.slice (some ⟨g, 0, none⟩) N c, .int .i64 (a : Int), .int .i64 (m : Int), .int .i64 (b : Int), fv] w fun e w' => e = .returned (.tuple #[]) ∧ Below g w w' ∧ RowZ w' g N (rotF f a m b) := by
  have HR := Lib.hid hr
  clear hr
  go_enter Try.func41, Try.ntmps41
  go_wp2
  go_loopw [10, 11] (fun vi vj wr => ∃ (i j : Nat) (h : Nat → Nat), 0 < i ∧ 0 < j ∧ i ≤ m ∧ m + j ≤ N ∧ vi = .int .i64 (i : Int) ∧ vj = .int .i64 (j : Int) ∧ Below g w wr ∧ RowZ wr g N h ∧ Hid (rotF h (m - i) m (m + j) = rotF f a m b)) (fun vi vj _ => (intOf vi).toNat + (intOf vj).toNat)
  case atStart => exact ⟨m - a, b - m, f, by omega, by omega, by omega, by omega, val_int (by omega), val_int (by omega), Below.refl _ _, HR.out, Lib.hid (by rw [show m - (m - a) = a by omega, show m + (b - m) = b by omega])⟩
  case round =>
    obtain ⟨i, j, h, hi0, hj0, him, hjN, rfl, rfl, hbl, hrow, HE⟩ := hrel
    have HB := Lib.hid hbl; have HROW := Lib.hid hrow
    obtain ⟨p, hp⟩ : ∃ p, p = m - i := ⟨_, rfl⟩
    have e1 : (m : Int) - (i : Int) = (p : Int) := by omega
    clear hbl hrow
    rcases Nat.lt_trichotomy i j with hij | hij | hij
    · have hne : ((i : Int) == (j : Int)) = false := by simp; omega
      have hgt : ¬ (j : Int) < (i : Int) := by omega
      obtain ⟨q, hq⟩ : ∃ q, q = m + j - i := ⟨_, rfl⟩
      have e2 : (m : Int) + (j : Int) - (i : Int) = (q : Int) := by omega
      have HP := Lib.hid hp; have HQ := Lib.hid hq
      clear hp hq
      go_wp2_with (go_at_call 42; refine (swap_any _ g N c h HROW.out p q i (by have := HP.out; have := HQ.out; omega) (by have := HQ.out; omega) hN fv).mono ?_; rintro e w1 ⟨rfl, hb1, hr1⟩; have HB1 := Lib.hid hb1; have HR1 := Lib.hid hr1; clear hb1 hr1)
      go_roundw
      case rel =>
        refine ⟨i, j - i, _, hi0, by omega, him, by omega, rfl, val_int (by omega), HB.out.trans HB1.out, HR1.out, Lib.hid ?_⟩
        rw [HP.out, HQ.out, rot_lt h hij him hi0]; exact HE.out
      case measure => simp [intOf]; omega
    · subst hij
      have hne : ((i : Int) == (i : Int)) = true := by simp
      have HP := Lib.hid hp
      clear hp
      go_wp2_with (go_at_call 42; refine (swap_any _ g N c h HROW.out p m i (by have := HP.out; omega) (by omega) hN fv).mono ?_; rintro e w1 ⟨rfl, hb1, hr1⟩; have HB1 := Lib.hid hb1; have HR1 := Lib.hid hr1; clear hb1 hr1)
      go_end0
      refine ⟨rfl, HB.out.trans HB1.out, ?_⟩
      have hr1 := HR1.out
      rw [HP.out, rot_eq h him, HE.out] at hr1
      exact hr1
    · have hne : ((i : Int) == (j : Int)) = false := by simp; omega
      have hgt : (j : Int) < (i : Int) := by omega
      have HP := Lib.hid hp
      clear hp
      go_wp2_with (go_at_call 42; refine (swap_any _ g N c h HROW.out p m j (by have := HP.out; omega) (by omega) hN fv).mono ?_; rintro e w1 ⟨rfl, hb1, hr1⟩; have HB1 := Lib.hid hb1; have HR1 := Lib.hid hr1; clear hb1 hr1)
      go_roundw
      case rel =>
        refine ⟨i - j, j, _, by omega, hj0, by omega, hjN, val_int (by omega), rfl, HB.out.trans HB1.out, HR1.out, Lib.hid ?_⟩
        rw [HP.out, rot_gt h hij him hj0]; exact HE.out
      case measure => simp [intOf]; omega
end Go.Proofs.Ytgppikhfkikknaa
