/-
  Layer 1 (bits): what bits.Put and bits.Align answer for every pen and number.
-/
import Derived.Test.YtedjapamimhglaaBitPush
import Derived.Test.YtedjapamimhglaaBitPen
namespace Go.Proofs.Ytedjapamimhglaa
open Go.RowKit
theorem checkE_eq (f : Nat → Nat) (n : Nat) (k : Int) : penE f n k = 0 ∨ penE f n k = 8 := by unfold penE; split <;> simp
/-- Where a pen may be: its bits, its bytes, and nought behind. -/
theorem check_clean {f : Nat → Nat} {n : Nat} {k : Int} (hf : ∀ j, f j < 256) (h : penE f n k = 0) : ∃ K : Nat, k = K ∧ K ≤ 8388608 ∧ n = (K + 7) / 8 ∧ Clean (zext n f) K := by
  by_cases h0 : k < 0
  · rw [checkE_bad (by omega)] at h; omega
  obtain ⟨K, rfl⟩ := Int.eq_ofNat_of_zero_le (show 0 ≤ k by omega)
  rw [checkE_nat] at h
  by_cases hc : K ≤ 8388608 ∧ n = (K + 7) / 8 ∧ (K % 8 = 0 ∨ shrN (f (n - 1)) (K % 8) = 0)
  · obtain ⟨h1, h2, h3⟩ := hc
    refine ⟨K, rfl, h1, h2, fun j => ?_, fun j hj => ?_, ?_⟩
    · unfold zext; split
      · exact hf j
      · omega
    · unfold zext; rw [if_neg (by omega)]
    · unfold zext
      by_cases e : K % 8 = 0
      · rw [if_neg (by omega)]; exact Nat.two_pow_pos _
      · rw [if_pos (by omega)]
        rcases h3 with h3 | h3
        · exact absurd h3 e
        · rw [show n - 1 = K / 8 by omega] at h3
          unfold shrN at h3
          exact (Nat.div_eq_zero_iff_lt (Nat.two_pow_pos _)).1 h3
  · rw [if_neg hc] at h; omega
def noPen : Value := .agg #[.slice none 0 0, .int .i64 0]
/-- A call's own two blocks, the boxed pen and the result's cell, and what may be done with the second. -/
theorem two_blocks {w w2 : World} {A : Option Addr} {n c : Nat} {k : Int} {t : TypeId} (hb : Below (w.heap.size + 1 + 1) ((w.alloc (.cells #[.slice A n c, .int .i64 k] t)).alloc (.cells #[.slice none 0 0, .int .i64 0] t)) w2) :
    w2.cell? ⟨w.heap.size + 1, 0, none⟩ = some (.slice none 0 0) ∧ w2.cell? ⟨w.heap.size + 1, 1, none⟩ = some (.int .i64 0) ∧
    w2.frozen? ⟨w.heap.size + 1, 0, none⟩ = false ∧ w2.frozen? ⟨w.heap.size + 1, 1, none⟩ = false ∧
    w2.cell? ⟨w.heap.size, 0, none⟩ = some (.slice A n c) ∧ w2.cell? ⟨w.heap.size, 1, none⟩ = some (.int .i64 k) := by
  obtain ⟨hc, hfz⟩ := bcell hb
  exact ⟨(hc (w.heap.size + 1) 0 (by omega)).trans (by go_simp), (hc (w.heap.size + 1) 1 (by omega)).trans (by go_simp), (hfz (w.heap.size + 1) 0 (by omega)).trans (by go_simp), (hfz (w.heap.size + 1) 1 (by omega)).trans (by go_simp),
    (hc w.heap.size 0 (by omega)).trans (by go_simp), (hc w.heap.size 1 (by omega)).trans (by go_simp)⟩
theorem two_below {w w2 : World} {o o' : Obj} (hb : Below (w.heap.size + 1 + 1) ((w.alloc o).alloc o') w2) (u u' : Value) :
    Below w.heap.size w ((w2.setCell ⟨w.heap.size + 1, 0, none⟩ u).setCell ⟨w.heap.size + 1, 1, none⟩ u') :=
  (((((Below.refl _ _).alloc (Nat.le_refl _) _).alloc (by simp) _).trans (hb.mono (by omega))).setCell (by simp) _).setCell (by simp) _
theorem two_rd {w : World} {A : Option Addr} {n : Nat} {f : Nat → Nat} (hr : RdB w w.heap.size A n f) (o o' : Obj) : RdB ((w.alloc o).alloc o') ((w.alloc o).alloc o').heap.size A n f :=
  (hr.below (((Below.refl _ _).alloc (Nat.le_refl _) _).alloc (by simp) _) (Nat.le_refl _)).more (by simp; omega)
set_option maxHeartbeats 1000000 in
theorem put_bad (w : World) (A : Option Addr) (n c : Nat) (f : Nat → Nat) (k m : Int) (v : Nat) (hr : RdB w w.heap.size A n f) (hc : penE f n k = 8) :
    Calls Try.prog 24 #[.agg #[.slice A n c, .int .i64 k], .int .u32 (v : Int), .int .i64 m] w fun e w' => e = .returned (.tuple #[.agg #[.slice none 0 0, .int .i64 0], .int .i64 8]) ∧ Below w.heap.size w w' := by
  have HR := Lib.hid hr
  have HC := Lib.hid hc
  clear hr hc
  go_enter Try.func24, Try.ntmps24
  go_wp2_with fail
  refine (pcheck_any _ A n c f k (two_rd HR.out _ _)).mono ?_
  rintro e w2 ⟨rfl, hb⟩
  have HB := Lib.hid (hb.mono (B' := w.heap.size + 1 + 1) (by simp))
  have hlt : w.heap.size + 1 + 1 ≤ w2.heap.size := by have := hb.size; simpa using this
  clear hb
  rw [HC.out]
  obtain ⟨k2, k3, k4, k5, k6, k7⟩ := two_blocks HB.out
  go_wp2
  refine bodyPost_ret (v := .tuple #[.agg #[.slice none 0 0, .int .i64 0], .int .i64 8]) ?_ rfl ⟨rfl, two_below HB.out _ _⟩
  simp [results, Try.results24, go_sem, k2, k3]
set_option maxHeartbeats 1000000 in
theorem put_arg (w : World) (A : Option Addr) (n c : Nat) (f : Nat → Nat) (k m : Int) (v : Nat) (hr : RdB w w.heap.size A n f) (hc : penE f n k = 0) (hv : v < 4294967296) (hn0 : -9223372036854775808 ≤ m) (hn1 : m ≤ 9223372036854775807) (hf : fitsB v m = false) :
    Calls Try.prog 24 #[.agg #[.slice A n c, .int .i64 k], .int .u32 (v : Int), .int .i64 m] w fun e w' => e = .returned (.tuple #[.agg #[.slice none 0 0, .int .i64 0], .int .i64 2]) ∧ Below w.heap.size w w' := by
  have HR := Lib.hid hr
  have HC := Lib.hid hc
  clear hr hc
  go_enter Try.func24, Try.ntmps24
  go_wp2_with fail
  refine (pcheck_any _ A n c f k (two_rd HR.out _ _)).mono ?_
  rintro e w2 ⟨rfl, hb⟩
  have HB := Lib.hid (hb.mono (B' := w.heap.size + 1 + 1) (by simp))
  have hlt : w.heap.size + 1 + 1 ≤ w2.heap.size := by have := hb.size; simpa using this
  clear hb
  rw [HC.out]
  obtain ⟨k2, k3, k4, k5, k6, k7⟩ := two_blocks HB.out
  go_wp2_with (go_at_call 41; refine (fits_any _ _ _ (by omega) (by omega) hn0 hn1).mono ?_; rintro e w' ⟨rfl, rfl⟩)
  refine bodyPost_ret (v := .tuple #[.agg #[.slice none 0 0, .int .i64 0], .int .i64 2]) ?_ rfl ⟨rfl, two_below HB.out _ _⟩
  simp [results, Try.results24, go_sem, k2, k3]
set_option maxHeartbeats 1000000 in
theorem put_full (w : World) (A : Option Addr) (n c : Nat) (f : Nat → Nat) (k m : Nat) (v : Nat) (hr : RdB w w.heap.size A n f) (hc : penE f n k = 0) (hk : k ≤ 8388608) (hv : v < 4294967296) (hm : m ≤ 32) (hf : fitsB v m = true) (hfull : 8388608 < k + m) :
    Calls Try.prog 24 #[.agg #[.slice A n c, .int .i64 (k : Int)], .int .u32 (v : Int), .int .i64 (m : Int)] w fun e w' => e = .returned (.tuple #[.agg #[.slice none 0 0, .int .i64 0], .int .i64 9]) ∧ Below w.heap.size w w' := by
  have HR := Lib.hid hr
  have HC := Lib.hid hc
  clear hr hc
  go_enter Try.func24, Try.ntmps24
  go_wp2_with fail
  refine (pcheck_any _ A n c f k (two_rd HR.out _ _)).mono ?_
  rintro e w2 ⟨rfl, hb⟩
  have HB := Lib.hid (hb.mono (B' := w.heap.size + 1 + 1) (by simp))
  have hlt : w.heap.size + 1 + 1 ≤ w2.heap.size := by have := hb.size; simpa using this
  clear hb
  rw [HC.out]
  obtain ⟨k2, k3, k4, k5, k6, k7⟩ := two_blocks HB.out
  go_wp2_with (go_at_call 41; refine (fits_any _ _ _ (by omega) (by omega) (by omega) (by omega)).mono ?_; rintro e w' ⟨rfl, rfl⟩)
  refine bodyPost_ret (v := .tuple #[.agg #[.slice none 0 0, .int .i64 0], .int .i64 9]) ?_ rfl ⟨rfl, two_below HB.out _ _⟩
  simp [results, Try.results24, go_sem, k2, k3]
set_option maxHeartbeats 1000000 in
theorem put_ok (w : World) (A : Option Addr) (n c : Nat) (f : Nat → Nat) (k m L : Nat) (v : Nat) (hr : RdB w w.heap.size A n f) (hc : penE f n k = 0) (hk : k ≤ 8388608) (hv : v < 4294967296) (hm : m ≤ 32) (hf : fitsB v m = true) (hfull : k + m ≤ 8388608) (hL : L = (k + m + 7) / 8) :
    Calls Try.prog 24 #[.agg #[.slice A n c, .int .i64 (k : Int)], .int .u32 (v : Int), .int .i64 (m : Int)] w fun e w' => ∃ g, e = .returned (.tuple #[.agg #[.slice (some ⟨g, 0, none⟩) L L, .int .i64 ((k + m : Nat) : Int)], .int .i64 0]) ∧
      w.heap.size ≤ g ∧ Below w.heap.size w w' ∧ Row w' g L (putF (zext n f) k v m) := by
  obtain ⟨K, hK, _, hn, hcl⟩ := check_clean hr.1 hc
  obtain rfl : k = K := by omega
  have HR := Lib.hid hr
  have HC := Lib.hid hc
  have HL := Lib.hid hL
  have HCL := Lib.hid hcl
  have hnL : n ≤ L := by omega
  clear hr hc hL hn hcl hK
  go_enter Try.func24, Try.ntmps24
  go_wp2_with fail
  refine (pcheck_any _ A n c f k (two_rd HR.out _ _)).mono ?_
  rintro e w2 ⟨rfl, hb⟩
  have hr2 := (two_rd HR.out (.cells #[.slice A n c, .int .i64 (k : Int)] 47) (.cells #[.slice none 0 0, .int .i64 0] 47)).below hb (Nat.le_refl _)
  have HR2 := Lib.hid (hr2.more (B' := w2.heap.size) hb.size)
  have HB := Lib.hid (hb.mono (B' := w.heap.size + 1 + 1) (by simp))
  have hlt : w.heap.size + 1 + 1 ≤ w2.heap.size := by have := hb.size; simpa using this
  clear hb hr2
  rw [HC.out]
  obtain ⟨k2, k3, k4, k5, k6, k7⟩ := two_blocks HB.out
  go_wp2_with (go_at_call 41; refine (fits_any _ _ _ (by omega) (by omega) (by omega) (by omega)).mono ?_; rintro e w' ⟨rfl, rfl⟩)
  refine (write_any _ A n c f k m L v HR2.out HCL.out hk hm hnL HL.out hv).mono ?_
  rintro e w3 ⟨g, rfl, hg, hb, hrow⟩
  have HB3 := Lib.hid (HB.out.trans (hb.mono (by omega)))
  have HW := Lib.hid hrow
  have hlt3 := hrow.lt
  clear hb hrow k2 k3 k4 k5 k6 k7
  obtain ⟨k2, k3, k4, k5, k6, k7⟩ := two_blocks HB3.out
  go_wp2
  refine bodyPost_ret (v := .tuple #[.agg #[.slice (some ⟨g, 0, none⟩) L L, .int .i64 ((k + m : Nat) : Int)], .int .i64 0]) ?_ rfl ⟨g, rfl, by omega, two_below HB3.out _ _, ?_⟩
  · simp [results, Try.results24, go_sem, k2, k3]
  · exact (HW.out.other (p := ⟨w.heap.size + 1, 0, none⟩) (by simp; omega) _).other (p := ⟨w.heap.size + 1, 1, none⟩) (by simp; omega) _
end Go.Proofs.Ytedjapamimhglaa
