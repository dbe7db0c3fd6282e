/-
  For every pen, number, bit count and place: the law BitsBack returns true, and its arguments read as they did. No condition beside the statement's own.
-/
import Derived.Test.YtniekmnjnnkieaaWhole
namespace Go.Proofs.Ytniekmnjnnkieaa
open Go.RowKit Go.ChangeShapes Go.WideShapes Go.ChangeAt
/-! ### bits that were put -/
theorem bit_there (x b r : Nat) (hx : x < 2 ^ r) (hb : b < 2) : (x + b * 2 ^ r) / 2 ^ r % 2 = b := by
  rw [Nat.add_mul_div_right _ _ (Nat.two_pow_pos r), Nat.div_eq_of_lt hx]; omega
theorem bit_else (x b r s : Nat) (hx : x < 2 ^ r) (hb : b < 2) (hs : s ≠ r) : (x + b * 2 ^ r) / 2 ^ s % 2 = x / 2 ^ s % 2 := by
  rcases Nat.lt_or_gt_of_ne hs with h | h
  · obtain ⟨d, rfl⟩ : ∃ d, r = s + 1 + d := ⟨r - s - 1, by omega⟩
    have e : b * 2 ^ (s + 1 + d) = (2 * (b * 2 ^ d)) * 2 ^ s := by
      rw [Nat.pow_add, Nat.pow_succ]; simp only [Nat.mul_comm, Nat.mul_left_comm, Nat.mul_assoc]
    rw [e, Nat.add_mul_div_right _ _ (Nat.two_pow_pos s)]; omega
  · have h1 : 2 ^ (r + 1) ≤ 2 ^ s := Nat.pow_le_pow_right (by omega) (by omega)
    rw [Nat.pow_succ] at h1
    have h2 : b * 2 ^ r ≤ 1 * 2 ^ r := Nat.mul_le_mul_right _ (by omega)
    rw [Nat.div_eq_of_lt (by omega), Nat.div_eq_of_lt (by omega)]
theorem stepF_there {f : Nat → Nat} {k b : Nat} (h : Clean f k) (hb : b < 2) : bitAt (stepF f k b) k = b := by
  unfold bitAt stepF upd
  rw [if_pos rfl]
  exact bit_there _ _ _ h.2.2 hb
theorem stepF_else {f : Nat → Nat} {k b j : Nat} (h : Clean f k) (hb : b < 2) (hj : j ≠ k) : bitAt (stepF f k b) j = bitAt f j := by
  unfold bitAt stepF upd
  by_cases e : j / 8 = k / 8
  · rw [if_pos e, e]
    exact bit_else _ _ _ _ h.2.2 hb (by omega)
  · rw [if_neg e]
theorem putF_ahead {f : Nat → Nat} {k : Nat} (h : Clean f k) (v a : Nat) (ha : a < k) : ∀ i, bitAt (putF f k v i) a = bitAt f a
  | 0 => rfl
  | i + 1 => (stepF_else (h.put v i) (Nat.mod_lt _ (by omega)) (by omega)).trans (putF_ahead h v a ha i)
theorem putF_there {f : Nat → Nat} {k : Nat} (h : Clean f k) (v j : Nat) : ∀ i, j < i → bitAt (putF f k v i) (k + j) = v / 2 ^ j % 2
  | 0, hj => by omega
  | i + 1, hj => by
    by_cases e : j = i
    · subst e; exact stepF_there (h.put v j) (Nat.mod_lt _ (by omega))
    · exact (stepF_else (h.put v i) (Nat.mod_lt _ (by omega)) (by omega)).trans (putF_there h v j i (by omega))
theorem numN_eq (g : Nat → Nat) (k v : Nat) : ∀ n, (∀ j, j < n → bitAt g (k + j) = v / 2 ^ j % 2) → numN g k n = v % 2 ^ n
  | 0, _ => by simp [numN, Nat.mod_one]
  | n + 1, h => by
    show numN g k n + bitAt g (k + n) * 2 ^ n = _
    rw [numN_eq g k v n fun j hj => h j (by omega), h n (by omega), Nat.pow_succ, Nat.mod_mul, Nat.mul_comm (2 ^ n)]
theorem numN_congr {f g : Nat → Nat} {a : Nat} : ∀ n, (∀ j, j < n → bitAt f (a + j) = bitAt g (a + j)) → numN f a n = numN g a n
  | 0, _ => rfl
  | n + 1, h => by
    show numN f a n + _ = numN g a n + _
    rw [numN_congr n fun j hj => h j (by omega), h n (by omega)]
theorem put_taken {f : Nat → Nat} {k : Nat} (h : Clean f k) (v m : Nat) (hv : v < 2 ^ m) : numN (putF f k v m) k m = v := by
  rw [numN_eq _ k v m fun j hj => putF_there h v j m hj, Nat.mod_eq_of_lt hv]
theorem bitAt_zext {f : Nat → Nat} {n a : Nat} (h : a < 8 * n) : bitAt (zext n f) a = bitAt f a := by
  unfold bitAt; rw [zext_in f (by omega)]
theorem check_of_clean {f : Nat → Nat} {n K : Nat} (h : Clean f K) (hK : K ≤ 8388608) (hn : n = (K + 7) / 8) : checkE f n (K : Int) = 0 := by
  rw [checkE_nat, if_pos]
  refine ⟨hK, hn, ?_⟩
  by_cases e : K % 8 = 0
  · exact .inl e
  · right
    rw [show n - 1 = K / 8 by omega]
    exact Nat.div_eq_of_lt h.2.2
/-- Each way that bits.Put refuses. -/
theorem put_err (w : World) (A : Option Addr) (n c : Nat) (f : Nat → Nat) (k m : Int) (v : Nat) (hr : RdB w w.heap.size A n f) (hv : v < 4294967296) (hn0 : -9223372036854775808 ≤ m) (hn1 : m ≤ 9223372036854775807)
    (h : ¬ (checkE f n k = 0 ∧ fitsB v m = true ∧ k + m ≤ 8388608)) :
    Calls Try.prog 14 #[.agg #[.slice A n c, .int .i64 k], .int .u32 (v : Int), .int .i64 m] w fun e w' => ∃ E : Int, 0 < E ∧ E < 100 ∧ e = .returned (.tuple #[.agg #[.slice none 0 0, .int .i64 0], .int .i64 E]) ∧ Below w.heap.size w w' := by
  rcases checkE_eq f n k with h0 | h0
  · cases hf : fitsB v m with
    | false => exact (put_arg w A n c f k m v hr h0 hv hn0 hn1 hf).mono fun e w' ⟨a, b⟩ => ⟨2, by omega, by omega, a, b⟩
    | true =>
      obtain ⟨K, rfl, hK, _⟩ := check_clean hr.1 h0
      obtain ⟨M, rfl, hM⟩ := fitsB_int hf
      exact (put_full w A n c f K M v hr h0 hK hv hM hf (by by_cases e : (K : Int) + M ≤ 8388608; exact absurd ⟨h0, hf, e⟩ h; omega)).mono fun e w' ⟨a, b⟩ => ⟨9, by omega, by omega, a, b⟩
  · exact (put_bad w A n c f k m v hr h0).mono fun e w' ⟨a, b⟩ => ⟨8, by omega, by omega, a, b⟩
set_option maxHeartbeats 1000000 in
theorem back_long (A : Option Addr) (l c : Nat) (k m a : Int) (v : Nat) (w : World) (hlt : 10000 < l) :
    Calls Try.prog 6 #[.agg #[.slice A l c, .int .i64 k], .int .u32 (v : Int), .int .i64 m, .int .i64 a] w fun e w' => e = .returned (.bool true) ∧ Below w.heap.size w w' := by
  go_enter Try.func6, Try.ntmps6
  go_wp2_with fail
  refine (alive_any _).mono ?_
  rintro e w2 ⟨rfl, hb⟩
  have HB := Lib.hid (((Below.refl w.heap.size w).alloc (Nat.le_refl _) (.cells #[.slice A l c, .int .i64 k] 28)).trans (hb.mono (by simp)))
  have hbox := (hb.block w.heap.size (by simp)).trans (heap_alloc_new _ _)
  obtain ⟨k2, k3, k4, k5⟩ := pair_cells hbox
  clear hb hbox
  go_wp2
  go_ret
  exact ⟨rfl, HB.out⟩
set_option maxHeartbeats 1000000 in
theorem back_err (A : Option Addr) (l c : Nat) (f : Nat → Nat) (k m a : Int) (v : Nat) (w : World) (hr : RdB w w.heap.size A l f) (hlt : l ≤ 10000) (hv : v < 4294967296) (hn0 : -9223372036854775808 ≤ m) (hn1 : m ≤ 9223372036854775807)
    (h : ¬ (checkE f l k = 0 ∧ fitsB v m = true ∧ k + m ≤ 8388608)) :
    Calls Try.prog 6 #[.agg #[.slice A l c, .int .i64 k], .int .u32 (v : Int), .int .i64 m, .int .i64 a] w fun e w' => e = .returned (.bool true) ∧ Below w.heap.size w w' := by
  have HR := Lib.hid hr; have HH := Lib.hid h
  clear hr h
  go_enter Try.func6, Try.ntmps6
  go_wp2_with fail
  refine (alive_any _).mono ?_
  rintro e w2 ⟨rfl, hb⟩
  have hB2 : Below w.heap.size w w2 := ((Below.refl w.heap.size w).alloc (Nat.le_refl _) (.cells #[.slice A l c, .int .i64 k] 28)).trans (hb.mono (by simp))
  have hbox := (hb.block w.heap.size (by simp)).trans (heap_alloc_new _ _)
  have hs2 : w.heap.size < w2.heap.size := by have := hb.size; simp at this; omega
  obtain ⟨k2, k3, k4, k5⟩ := pair_cells hbox
  have HB2 := Lib.hid hB2
  clear hb hbox hB2
  go_wp2_with fail
  refine (put_err _ A l c f k m v ((HR.out.below HB2.out (Nat.le_refl _)).more (by omega)) hv hn0 hn1 HH.out).mono ?_
  rintro e w3 ⟨E, hE, hE2, rfl, hb⟩
  have HB3 := Lib.hid (HB2.out.trans (hb.mono (by omega)))
  have hs3 : w.heap.size < w3.heap.size := by have := hb.size; omega
  clear hb k2 k3 k4 k5
  have hne : (E == 0) = false := by simp; omega
  have hne' : (E != 0) = true := by simp; omega
  go_wp2
  go_ret
  exact ⟨rfl, HB3.out.alloc (by omega) _⟩
set_option maxHeartbeats 2000000 in
theorem back_out (A : Option Addr) (l c : Nat) (f : Nat → Nat) (k m : Nat) (a : Int) (v : Nat) (w : World) (hr : RdB w w.heap.size A l f) (hlt : l ≤ 10000) (hv : v < 4294967296)
    (hc : checkE f l k = 0) (hf : fitsB v m = true) (hfull : k + m ≤ 8388608) (hout : a < 0 ∨ (k : Int) ≤ a) :
    Calls Try.prog 6 #[.agg #[.slice A l c, .int .i64 (k : Int)], .int .u32 (v : Int), .int .i64 (m : Int), .int .i64 a] w fun e w' => e = .returned (.bool true) ∧ Below w.heap.size w w' := by
  obtain ⟨K, hK, _, hn, hcl⟩ := check_clean hr.1 hc
  obtain rfl : k = K := by omega
  have hfb := fitsB_nat.1 hf
  have hm : m ≤ 32 := hfb.1
  obtain ⟨L, hL⟩ : ∃ L, L = (k + m + 7) / 8 := ⟨_, rfl⟩
  have hkL : k + m ≤ 8 * L := by omega
  have hl1 : L ≤ 2000000 := by omega
  obtain ⟨g2, hg2⟩ : ∃ g2, g2 = putF (zext l f) k v m := ⟨_, rfl⟩
  have hcl2 : Clean g2 (k + m) := hg2 ▸ hcl.put v m
  obtain ⟨K2, hK2⟩ : ∃ K2, K2 = k + m := ⟨_, rfl⟩
  have hc2 : checkE g2 L (K2 : Int) = 0 := check_of_clean (hK2 ▸ hcl2) (by omega) (by omega)
  have hk2i : ((K2 : Int) != (k : Int) + (m : Int)) = false := by simp; omega
  have htk : numN g2 k m = v := hg2 ▸ put_taken hcl v m hfb.2
  have hah : ∀ j, j < k → bitAt g2 j = bitAt f j := fun j hj => by rw [hg2, putF_ahead hcl v j hj, bitAt_zext (by omega)]
  have hkl : k ≤ 8 * l := by omega
  have HR := Lib.hid hr; have HC := Lib.hid hc; have HC2 := Lib.hid hc2; have HG := Lib.hid hcl2.1; have HT := Lib.hid htk; have HA := Lib.hid hah; have HL := Lib.hid hL; have HF := Lib.hid hf; have HG2 := Lib.hid hg2; have HK2 := Lib.hid hK2
  clear hr hc hc2 hcl hcl2 htk hah hn hL hf hg2 hfb hK hK2
  go_enter Try.func6, Try.ntmps6
  go_wp2_with fail
  refine (alive_any _).mono ?_
  rintro e w2 ⟨rfl, hb⟩
  have hB2 : Below w.heap.size w w2 := ((Below.refl w.heap.size w).alloc (Nat.le_refl _) (.cells #[.slice A l c, .int .i64 (k : Int)] 28)).trans (hb.mono (by simp))
  have hbox := (hb.block w.heap.size (by simp)).trans (heap_alloc_new _ _)
  have hs2 : w.heap.size < w2.heap.size := by have := hb.size; simp at this; omega
  obtain ⟨k2, k3, k4, k5⟩ := pair_cells hbox
  have HB2 := Lib.hid hB2; have HBOX := Lib.hid hbox
  clear hb hbox hB2
  go_wp2_with fail
  refine (put_ok _ A l c f k m L v ((HR.out.below HB2.out (Nat.le_refl _)).more (by omega)) HC.out (by omega) hv hm HF.out hfull HL.out).mono ?_
  rintro e w3 ⟨g, rfl, hg, hb, hrow⟩
  rw [← HG2.out] at hrow
  rw [← HK2.out]
  have HB3 := Lib.hid (HB2.out.trans (hb.mono (by omega)))
  have hbox := (hb.block w.heap.size (by omega)).trans HBOX.out
  have hs3 : w.heap.size < w3.heap.size := by have := hb.size; omega
  have HBOX3 := Lib.hid hbox
  have hg3 := hrow.lt
  have HROW3 := Lib.hid hrow
  clear k2 k3 k4 k5
  obtain ⟨k2, k3, k4, k5⟩ := pair_cells hbox
  clear hb hbox hrow
  go_wp2_with fail
  refine (take_ok _ _ (some ⟨g, 0, none⟩) L L g2 k m ((HROW3.out.alloc _).rd HG.out) hm (by omega) hkL).mono ?_
  rintro e w' ⟨rfl, rfl⟩
  rw [HT.out]
  have hnv : ((v : Int) != (v : Int)) = false := by simp
  go_wp2_with fail
  refine (check_any _ (some ⟨g, 0, none⟩) L L g2 _ ((HROW3.out.alloc _).rd HG.out)).mono ?_
  rintro e w4 ⟨rfl, hb⟩
  rw [HC2.out]
  have HB4 := Lib.hid (HB3.out.trans (((Below.refl w.heap.size w3).alloc (by omega) (.cells #[.slice (some ⟨g, 0, none⟩) L L, .int .i64 (K2 : Int)] 28)).trans (hb.mono (by simp; omega))))
  have hs4 : w3.heap.size < w4.heap.size := by have := hb.size; simp at this; omega
  have hs5 : w.heap.size < w4.heap.size := by omega
  have hbox := (hb.block w.heap.size (by simp; omega)).trans ((Below.heap_alloc _ _ _ (by omega)).trans HBOX3.out)
  have hbox3 := (hb.block w3.heap.size (by simp)).trans (heap_alloc_new _ _)
  have hrow3 : Row w4 g L g2 := (HROW3.out.alloc _).below hb (by simp; omega)
  have HROW4 := Lib.hid hrow3
  clear k2 k3 k4 k5
  obtain ⟨k2, k3, k4, k5⟩ := pair_cells hbox
  obtain ⟨j2, j3, j4, j5⟩ := pair_cells hbox3
  clear hb hbox hbox3 hrow3
  rcases hout with h | h
  · go_wp2
    go_ret
    exact ⟨rfl, HB4.out⟩
  · have h0 : ¬ a < 0 := by omega
    go_wp2
    go_ret
    exact ⟨rfl, HB4.out⟩
set_option maxHeartbeats 2000000 in
theorem back_in (A : Option Addr) (l c : Nat) (f : Nat → Nat) (k m a : Nat) (v : Nat) (w : World) (hr : RdB w w.heap.size A l f) (hlt : l ≤ 10000) (hv : v < 4294967296)
    (hc : checkE f l k = 0) (hf : fitsB v m = true) (hfull : k + m ≤ 8388608) (hin : a < k) :
    Calls Try.prog 6 #[.agg #[.slice A l c, .int .i64 (k : Int)], .int .u32 (v : Int), .int .i64 (m : Int), .int .i64 (a : Int)] w fun e w' => e = .returned (.bool true) ∧ Below w.heap.size w w' := by
  obtain ⟨K, hK, _, hn, hcl⟩ := check_clean hr.1 hc
  obtain rfl : k = K := by omega
  have hfb := fitsB_nat.1 hf
  have hm : m ≤ 32 := hfb.1
  obtain ⟨L, hL⟩ : ∃ L, L = (k + m + 7) / 8 := ⟨_, rfl⟩
  have hkL : k + m ≤ 8 * L := by omega
  have hl1 : L ≤ 2000000 := by omega
  obtain ⟨g2, hg2⟩ : ∃ g2, g2 = putF (zext l f) k v m := ⟨_, rfl⟩
  have hcl2 : Clean g2 (k + m) := hg2 ▸ hcl.put v m
  obtain ⟨K2, hK2⟩ : ∃ K2, K2 = k + m := ⟨_, rfl⟩
  have hc2 : checkE g2 L (K2 : Int) = 0 := check_of_clean (hK2 ▸ hcl2) (by omega) (by omega)
  have hk2i : ((K2 : Int) != (k : Int) + (m : Int)) = false := by simp; omega
  have htk : numN g2 k m = v := hg2 ▸ put_taken hcl v m hfb.2
  have hah : ∀ j, j < k → bitAt g2 j = bitAt f j := fun j hj => by rw [hg2, putF_ahead hcl v j hj, bitAt_zext (by omega)]
  have hkl : k ≤ 8 * l := by omega
  have HR := Lib.hid hr; have HC := Lib.hid hc; have HC2 := Lib.hid hc2; have HG := Lib.hid hcl2.1; have HT := Lib.hid htk; have HA := Lib.hid hah; have HL := Lib.hid hL; have HF := Lib.hid hf; have HG2 := Lib.hid hg2; have HK2 := Lib.hid hK2
  clear hr hc hc2 hcl hcl2 htk hah hn hL hf hg2 hfb hK hK2
  go_enter Try.func6, Try.ntmps6
  go_wp2_with fail
  refine (alive_any _).mono ?_
  rintro e w2 ⟨rfl, hb⟩
  have hB2 : Below w.heap.size w w2 := ((Below.refl w.heap.size w).alloc (Nat.le_refl _) (.cells #[.slice A l c, .int .i64 (k : Int)] 28)).trans (hb.mono (by simp))
  have hbox := (hb.block w.heap.size (by simp)).trans (heap_alloc_new _ _)
  have hs2 : w.heap.size < w2.heap.size := by have := hb.size; simp at this; omega
  obtain ⟨k2, k3, k4, k5⟩ := pair_cells hbox
  have HB2 := Lib.hid hB2; have HBOX := Lib.hid hbox
  clear hb hbox hB2
  go_wp2_with fail
  refine (put_ok _ A l c f k m L v ((HR.out.below HB2.out (Nat.le_refl _)).more (by omega)) HC.out (by omega) hv hm HF.out hfull HL.out).mono ?_
  rintro e w3 ⟨g, rfl, hg, hb, hrow⟩
  rw [← HG2.out] at hrow
  rw [← HK2.out]
  have HB3 := Lib.hid (HB2.out.trans (hb.mono (by omega)))
  have hbox := (hb.block w.heap.size (by omega)).trans HBOX.out
  have hs3 : w.heap.size < w3.heap.size := by have := hb.size; omega
  have HBOX3 := Lib.hid hbox
  have hg3 := hrow.lt
  have HROW3 := Lib.hid hrow
  clear k2 k3 k4 k5
  obtain ⟨k2, k3, k4, k5⟩ := pair_cells hbox
  clear hb hbox hrow
  go_wp2_with fail
  refine (take_ok _ _ (some ⟨g, 0, none⟩) L L g2 k m ((HROW3.out.alloc _).rd HG.out) hm (by omega) hkL).mono ?_
  rintro e w' ⟨rfl, rfl⟩
  rw [HT.out]
  have hnv : ((v : Int) != (v : Int)) = false := by simp
  go_wp2_with fail
  refine (check_any _ (some ⟨g, 0, none⟩) L L g2 _ ((HROW3.out.alloc _).rd HG.out)).mono ?_
  rintro e w4 ⟨rfl, hb⟩
  rw [HC2.out]
  have HB4 := Lib.hid (HB3.out.trans (((Below.refl w.heap.size w3).alloc (by omega) (.cells #[.slice (some ⟨g, 0, none⟩) L L, .int .i64 (K2 : Int)] 28)).trans (hb.mono (by simp; omega))))
  have hs4 : w3.heap.size < w4.heap.size := by have := hb.size; simp at this; omega
  have hs5 : w.heap.size < w4.heap.size := by omega
  have hbox := (hb.block w.heap.size (by simp; omega)).trans ((Below.heap_alloc _ _ _ (by omega)).trans HBOX3.out)
  have hbox3 := (hb.block w3.heap.size (by simp)).trans (heap_alloc_new _ _)
  have hrow3 : Row w4 g L g2 := (HROW3.out.alloc _).below hb (by simp; omega)
  have HROW4 := Lib.hid hrow3
  clear k2 k3 k4 k5
  obtain ⟨k2, k3, k4, k5⟩ := pair_cells hbox
  obtain ⟨j2, j3, j4, j5⟩ := pair_cells hbox3
  clear hb hbox hbox3 hrow3
  have ht1 : numN g2 a 1 = numN f a 1 := numN_congr 1 fun j hj => by
    obtain rfl : j = 0 := (by omega)
    exact HA.out a hin
  have HT1 := Lib.hid ht1
  clear ht1
  go_wp2_with fail
  refine (take_ok _ _ A l c f a 1 (HR.out.below HB4.out (Nat.le_refl _)) (by omega) (by omega) (by omega)).mono ?_
  rintro e w' ⟨rfl, rfl⟩
  go_wp2_with fail
  refine (take_ok _ _ (some ⟨g, 0, none⟩) L L g2 a 1 (HROW4.out.rd HG.out) (by omega) (by omega) (by omega)).mono ?_
  rintro e w' ⟨rfl, rfl⟩
  rw [HT1.out]
  go_wp2
  go_ret
  exact ⟨rfl, HB4.out⟩
theorem back_walk (A : Option Addr) (l c : Nat) (f : Nat → Nat) (k : Int) (v : Nat) (m a : Int) (w : World) (hr : RdB w w.heap.size A l f) (_ : A = none → c = 0) (_ : -9223372036854775808 ≤ k) (_ : k ≤ 9223372036854775807)
    (hv : v < 4294967296) (hn0 : -9223372036854775808 ≤ m) (hn1 : m ≤ 9223372036854775807) (_ : -9223372036854775808 ≤ a) (_ : a ≤ 9223372036854775807) :
    Calls Try.prog 6 #[.agg #[.slice A l c, .int .i64 k], .int .u32 (v : Int), .int .i64 m, .int .i64 a] w fun e w' => e = .returned (.bool true) ∧ Below w.heap.size w w' := by
  by_cases hlt : l ≤ 10000
  · by_cases h : checkE f l k = 0 ∧ fitsB v m = true ∧ k + m ≤ 8388608
    · obtain ⟨h1, h2, h3⟩ := h
      obtain ⟨K, rfl, _⟩ := check_clean hr.1 h1
      obtain ⟨M, rfl, _⟩ := fitsB_int h2
      by_cases ho : a < 0 ∨ (K : Int) ≤ a
      · exact back_out A l c f K M a v w hr hlt hv h1 h2 (by omega) ho
      · obtain ⟨a, rfl⟩ := Int.eq_ofNat_of_zero_le (show 0 ≤ a by omega)
        exact back_in A l c f K M a v w hr hlt hv h1 h2 (by omega) (by omega)
    · exact back_err A l c f k m a v w hr hlt hv hn0 hn1 h
  · exact back_long A l c k m a v w (by omega)
set_option maxRecDepth 100000 in
theorem back_walk_lifted (os : Os) (started : os.Started) (H : Type) (enc : TypeId × Value → H) :
    ReturnsInHanded {} Try.checked os 6 .any (Rows.bitsBackSpec.pre6 enc Try.prog Try.f6 Rows.bitsBackRow.domain false) (Rows.bitsBackSpec.post enc Try.prog Try.f6 false true false false) := by
  refine returnsInHanded_of_change (C := Try.checked) own started (by kernel_rfl) Try.func6
    (ChangeSpec.witness6 (enc := enc) (C := Try.checked) false ⟨#[], #[.agg #[.slice none 0 0, .int .i64 0], .int .u32 0, .int .i64 0, .int .i64 0], []⟩ 8 (by kernel_rfl) (by kernel_rfl) (by kernel_rfl) (by kernel_rfl)) ?_
  intro W base args ds gs before hval0 hW _ _
  have hval : ∀ (j : Nat) t v, Try.f6.params[j]? = some t → args[j]? = some v → Value.okWide Try.prog W .any base t v := hval0
  have hW' := hW
  obtain ⟨p, q, hA0, hV, rfl, _, _⟩ := hW
  have hA : DataW.TrodAll enc Try.prog W 0 (fun _ => true) true Try.f6.params.toList args.toList ds p := hA0
  rw [Try.params6] at hA hval
  obtain ⟨v0, vs0, d0, ds0, p0, q0, hargs, rfl, rfl, h0, r0⟩ := trodAll_cons hA
  obtain ⟨v1, vs1, d1, ds1, p1, q1, rfl, rfl, rfl, h1, r1⟩ := trodAll_cons r0
  obtain ⟨v2, vs2, d2, ds2, p2, q2, rfl, rfl, rfl, h2, r2⟩ := trodAll_cons r1
  obtain ⟨v3, vs3, d3, ds3, p3, q3, rfl, rfl, rfl, h3, r3⟩ := trodAll_cons r2
  obtain ⟨rfl, rfl, rfl⟩ := trodAll_nil r3
  obtain rfl : args = #[v0, v1, v2, v3] := by cases args; simp_all
  obtain ⟨rfl, rfl⟩ := trodVars_none hV
  have k0 := h0
  have lt0 : ∀ x ∈ p0, x.block < W.heap.size := by obtain ⟨m, hm⟩ := k0; exact DataW.trod_lt m _ _ _ hm
  obtain ⟨A0, len0, cap0, f0, a0, rfl, hr0, hn0, u0⟩ := open_pen (hval 0 28 v0 rfl rfl) h0
  have k1 := h1
  have lt1 : ∀ x ∈ p1, x.block < W.heap.size := by obtain ⟨m, hm⟩ := k1; exact DataW.trod_lt m _ _ _ hm
  obtain ⟨a1, rfl, rfl, rfl, w1⟩ := open_int Try.underlying23 (hval 1 23 v1 rfl rfl) h1
  have u1 := wf_u32_range w1
  obtain ⟨a1, rfl⟩ := Int.eq_ofNat_of_zero_le u1.1
  have k2 := h2
  have lt2 : ∀ x ∈ p2, x.block < W.heap.size := by obtain ⟨m, hm⟩ := k2; exact DataW.trod_lt m _ _ _ hm
  obtain ⟨a2, rfl, rfl, rfl, w2⟩ := open_int Try.underlying3 (hval 2 3 v2 rfl rfl) h2
  have u2 := wf_i64_range w2
  have k3 := h3
  have lt3 : ∀ x ∈ p3, x.block < W.heap.size := by obtain ⟨m, hm⟩ := k3; exact DataW.trod_lt m _ _ _ hm
  obtain ⟨a3, rfl, rfl, rfl, w3⟩ := open_int Try.underlying3 (hval 3 3 v3 rfl rfl) h3
  have u3 := wf_i64_range w3
  clear hA0 hval0
  refine (back_walk A0 len0 cap0 f0 a0 a1 a2 a3 W hr0 hn0 u0.1 u0.2 (by omega) u2.1 u2.2 u3.1 u3.2).mono fun e W' ⟨he, bel⟩ => ?_
  subst he
  exact ⟨_, rfl, _, _, _, [], _, [], hW', trodAll_mk1 (shut_bool Try.underlying4 _), (trodAll_cons_mk (Below.trod laidOut (by kernel_rfl) (of_decide_eq_true (by kernel_rfl)) k0 bel lt0) (trodAll_cons_mk (Below.trod laidOut (by kernel_rfl) (of_decide_eq_true (by kernel_rfl)) k1 bel lt1) (trodAll_cons_mk (Below.trod laidOut (by kernel_rfl) (of_decide_eq_true (by kernel_rfl)) k2 bel lt2) (trodAll_cons_mk (Below.trod laidOut (by kernel_rfl) (of_decide_eq_true (by kernel_rfl)) k3 bel lt3) trodAll_mk0)))), rfl, bel.frame _, fun h => by cases h⟩
theorem back_walk_holds : Rows.BitsBackSaid :=
  OpenClaim.holds_of_wide 6 Try.f6 rfl rfl rfl rfl rfl rfl rfl ⟨rfl, rfl, rfl, rfl, rfl⟩ rfl rfl rfl rfl rfl (by kernel_rfl) Try.func6 (by kernel_rfl)
    (of_decide_eq_true (by kernel_rfl)) (by unfold Func.isWrapper; first | (rw [if_pos (by decide +kernel)]; kernel_rfl) | (rw [if_neg (by decide +kernel)]; exact ⟨rfl, rfl⟩))
    (fun os started H enc _ => back_walk_lifted os started H enc)
#print axioms back_walk_holds
end Go.Proofs.Ytniekmnjnnkieaa
