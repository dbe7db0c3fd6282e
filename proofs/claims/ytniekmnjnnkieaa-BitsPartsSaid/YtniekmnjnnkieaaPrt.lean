/-
  Layer 1 (bits): bits put in two parts, as plain functions; and the law BitsParts where it has nothing to compare.
-/
import Derived.Test.YtniekmnjnnkieaaBack
namespace Go.Proofs.Ytniekmnjnnkieaa
open Go.RowKit Go.ChangeShapes Go.WideShapes Go.ChangeAt
theorem putF_congr {F : Nat → Nat} {k u v : Nat} : ∀ i, (∀ j, j < i → u / 2 ^ j % 2 = v / 2 ^ j % 2) → putF F k u i = putF F k v i
  | 0, _ => rfl
  | i + 1, h => by
    show stepF (putF F k u i) (k + i) _ = stepF (putF F k v i) (k + i) _
    rw [putF_congr i fun j hj => h j (by omega), h i (by omega)]
theorem putF_on (F : Nat → Nat) (k v low : Nat) : ∀ i, putF (putF F k v low) (k + low) (v / 2 ^ low) i = putF F k v (low + i)
  | 0 => rfl
  | i + 1 => by
    show stepF (putF (putF F k v low) (k + low) (v / 2 ^ low) i) (k + low + i) (v / 2 ^ low / 2 ^ i % 2) = stepF (putF F k v (low + i)) (k + (low + i)) (v / 2 ^ (low + i) % 2)
    rw [putF_on F k v low i, Nat.div_div_eq_div_mul, ← Nat.pow_add, Nat.add_assoc]
theorem low_bits (v low j : Nat) (h : j < low) : v % 2 ^ low / 2 ^ j % 2 = v / 2 ^ j % 2 := by
  obtain ⟨d, rfl⟩ : ∃ d, low = j + 1 + d := ⟨low - j - 1, by omega⟩
  rw [Nat.pow_add, Nat.mod_mul, Nat.pow_succ]
  have e : 2 ^ j * 2 * (v / (2 ^ j * 2) % 2 ^ d) = 2 ^ j * (2 * (v / (2 ^ j * 2) % 2 ^ d)) := Nat.mul_assoc _ _ _
  rw [e, Nat.add_mul_div_left _ _ (Nat.two_pow_pos j), Nat.mod_mul, Nat.add_mul_div_left _ _ (Nat.two_pow_pos j), Nat.div_eq_of_lt (Nat.mod_lt _ (Nat.two_pow_pos j))]
  omega
theorem put_parts (F : Nat → Nat) (k v low n : Nat) (h : low ≤ n) : putF (putF F k (v % 2 ^ low) low) (k + low) (v / 2 ^ low) (n - low) = putF F k v n := by
  rw [putF_congr (u := v % 2 ^ low) (v := v) low fun j hj => low_bits v low j hj, putF_on, show low + (n - low) = n by omega]
theorem clean_zext {g : Nat → Nat} {K L : Nat} (h : Clean g K) (hL : L = (K + 7) / 8) : zext L g = g := by
  funext j
  unfold zext
  by_cases hj : j < L
  · rw [if_pos hj]
  · rw [if_neg hj]
    by_cases e : K / 8 < j
    · exact (h.2.1 j e).symm
    · have h3 := h.2.2
      rw [show K % 8 = 0 by omega] at h3
      rw [show j = K / 8 by omega]
      omega
theorem take_low {F : Nat → Nat} {k : Nat} (h : Clean F k) (v n low : Nat) (hl : low ≤ n) : numN (putF F k v n) k low = v % 2 ^ low :=
  numN_eq _ k v low fun j hj => putF_there h v j n (by omega)
theorem take_high {F : Nat → Nat} {k : Nat} (h : Clean F k) (v n low : Nat) (hl : low ≤ n) (hv : v < 2 ^ n) : numN (putF F k v n) (k + low) (n - low) = v / 2 ^ low := by
  rw [numN_eq _ (k + low) (v / 2 ^ low) (n - low) fun j hj => by rw [Nat.add_assoc, putF_there h v (low + j) n (by omega), Nat.div_div_eq_div_mul, ← Nat.pow_add], Nat.mod_eq_of_lt]
  have e : 2 ^ n = 2 ^ low * 2 ^ (n - low) := by rw [← Nat.pow_add]; congr 1; omega
  rw [e] at hv
  exact Nat.div_lt_of_lt_mul hv
theorem high_fits {v n low : Nat} (hl : low ≤ n) (hv : v < 2 ^ n) : v / 2 ^ low < 2 ^ (n - low) := by
  have e : 2 ^ n = 2 ^ low * 2 ^ (n - low) := by rw [← Nat.pow_add]; congr 1; omega
  rw [e] at hv
  exact Nat.div_lt_of_lt_mul hv
set_option maxRecDepth 100000 in
set_option maxHeartbeats 1000000 in
theorem parts_out (A : Option Addr) (l c : Nat) (k m a : Int) (v : Nat) (w : World) (h : 10000 < l ∨ m < 0 ∨ 32 < m ∨ a < 0 ∨ m < a) :
    Calls Try.prog 7 #[.agg #[.slice A l c, .int .i64 k], .int .u32 (v : Int), .int .i64 m, .int .i64 a] w fun e w' => e = .returned (.bool true) ∧ Below w.heap.size w w' := by
  by_cases h1 : 10000 < l
  · clear h
    go_enter Try.func7, Try.ntmps7
    go_wp2_with fail
    refine (alive_any _).mono ?_
    rintro e w2 ⟨rfl, hb⟩
    have HB := Lib.hid (((Below.refl w.heap.size w).alloc (Nat.le_refl _) (.cells #[.slice A l c, .int .i64 k] 28)).trans (hb.mono (by simp)))
    have hbox := (hb.block w.heap.size (by simp)).trans (heap_alloc_new _ _)
    obtain ⟨k2, k3, k4, k5⟩ := pair_cells hbox
    clear hb hbox
    go_wp2
    go_ret
    exact ⟨rfl, HB.out⟩
  · by_cases h2 : m < 0
    · clear h
      go_enter Try.func7, Try.ntmps7
      go_wp2_with fail
      refine (alive_any _).mono ?_
      rintro e w2 ⟨rfl, hb⟩
      have HB := Lib.hid (((Below.refl w.heap.size w).alloc (Nat.le_refl _) (.cells #[.slice A l c, .int .i64 k] 28)).trans (hb.mono (by simp)))
      have hbox := (hb.block w.heap.size (by simp)).trans (heap_alloc_new _ _)
      obtain ⟨k2, k3, k4, k5⟩ := pair_cells hbox
      clear hb hbox
      go_wp2
      go_ret
      exact ⟨rfl, HB.out⟩
    · by_cases h3 : 32 < m
      · clear h
        go_enter Try.func7, Try.ntmps7
        go_wp2_with fail
        refine (alive_any _).mono ?_
        rintro e w2 ⟨rfl, hb⟩
        have HB := Lib.hid (((Below.refl w.heap.size w).alloc (Nat.le_refl _) (.cells #[.slice A l c, .int .i64 k] 28)).trans (hb.mono (by simp)))
        have hbox := (hb.block w.heap.size (by simp)).trans (heap_alloc_new _ _)
        obtain ⟨k2, k3, k4, k5⟩ := pair_cells hbox
        clear hb hbox
        go_wp2
        go_ret
        exact ⟨rfl, HB.out⟩
      · by_cases h4 : a < 0
        · clear h
          go_enter Try.func7, Try.ntmps7
          go_wp2_with fail
          refine (alive_any _).mono ?_
          rintro e w2 ⟨rfl, hb⟩
          have HB := Lib.hid (((Below.refl w.heap.size w).alloc (Nat.le_refl _) (.cells #[.slice A l c, .int .i64 k] 28)).trans (hb.mono (by simp)))
          have hbox := (hb.block w.heap.size (by simp)).trans (heap_alloc_new _ _)
          obtain ⟨k2, k3, k4, k5⟩ := pair_cells hbox
          clear hb hbox
          go_wp2
          go_ret
          exact ⟨rfl, HB.out⟩
        · have h5 : m < a := by omega
          clear h
          go_enter Try.func7, Try.ntmps7
          go_wp2_with fail
          refine (alive_any _).mono ?_
          rintro e w2 ⟨rfl, hb⟩
          have HB := Lib.hid (((Below.refl w.heap.size w).alloc (Nat.le_refl _) (.cells #[.slice A l c, .int .i64 k] 28)).trans (hb.mono (by simp)))
          have hbox := (hb.block w.heap.size (by simp)).trans (heap_alloc_new _ _)
          obtain ⟨k2, k3, k4, k5⟩ := pair_cells hbox
          clear hb hbox
          go_wp2
          go_ret
          exact ⟨rfl, HB.out⟩
set_option maxRecDepth 100000 in
set_option maxHeartbeats 1000000 in
theorem parts_err (A : Option Addr) (l c : Nat) (f : Nat → Nat) (k : Int) (m a : Nat) (v : Nat) (w : World) (hr : RdB w w.heap.size A l f) (hlt : l ≤ 10000) (hv : v < 4294967296) (hm : m ≤ 32) (ha : a ≤ m)
    (h : ¬ (checkE f l k = 0 ∧ fitsB v m = true ∧ k + m ≤ 8388608)) :
    Calls Try.prog 7 #[.agg #[.slice A l c, .int .i64 k], .int .u32 (v : Int), .int .i64 (m : Int), .int .i64 (a : Int)] w fun e w' => e = .returned (.bool true) ∧ Below w.heap.size w w' := by
  have HR := Lib.hid hr; have HH := Lib.hid h
  clear hr h
  go_enter Try.func7, Try.ntmps7
  go_wp2_with fail
  refine (alive_any _).mono ?_
  rintro e w2 ⟨rfl, hb⟩
  have hB2 : Below w.heap.size w w2 := ((Below.refl w.heap.size w).alloc (Nat.le_refl _) (.cells #[.slice A l c, .int .i64 k] 28)).trans (hb.mono (by simp))
  have hbox := (hb.block w.heap.size (by simp)).trans (heap_alloc_new _ _)
  have hs2 : w.heap.size < w2.heap.size := by have := hb.size; simp at this; omega
  obtain ⟨k2, k3, k4, k5⟩ := pair_cells hbox
  have HB2 := Lib.hid hB2
  clear hb hbox hB2
  go_wp2_with fail
  refine (put_err _ A l c f k m v ((HR.out.below HB2.out (Nat.le_refl _)).more (by omega)) hv (by omega) (by omega) HH.out).mono ?_
  rintro e w3 ⟨E, hE, hE2, rfl, hb⟩
  have HB3 := Lib.hid (HB2.out.trans (hb.mono (by omega)))
  have hs3 : w.heap.size < w3.heap.size := by have := hb.size; omega
  clear hb k2 k3 k4 k5
  have hne : (E == 0) = false := by simp; omega
  have hne' : (E != 0) = true := by simp; omega
  go_wp2
  go_ret
  exact ⟨rfl, HB3.out.alloc (by omega) _⟩
end Go.Proofs.Ytniekmnjnnkieaa
