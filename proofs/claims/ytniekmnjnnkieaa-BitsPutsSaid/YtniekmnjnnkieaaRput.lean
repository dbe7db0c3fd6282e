/-
  Layer 1 (bits), the document's own answer: what its Put answers for every pen and number.
-/
import Derived.Test.YtniekmnjnnkieaaSet
namespace Go.Proofs.Ytniekmnjnnkieaa
open Go.RowKit
theorem may_of_check {f : Nat → Nat} {n : Nat} {k : Int} : (checkE f n k = 0 → mayB f n k = true) ∧ (checkE f n k = 8 → mayB f n k = false) := by
  unfold checkE
  cases mayB f n k <;> simp
set_option maxHeartbeats 1000000 in
theorem rput_bad (w : World) (A : Option Addr) (n c : Nat) (f : Nat → Nat) (k m : Int) (v : Nat) (hr : RdB w w.heap.size A n f) (hc : checkE f n k = 8) :
    Calls Try.prog 20 #[.agg #[.slice A n c, .int .i64 k], .int .u32 (v : Int), .int .i64 m] w fun e w' => e = .returned (.tuple #[.agg #[.slice none 0 0, .int .i64 0], .int .i64 8]) ∧ Below w.heap.size w w' := by
  have HR := Lib.hid hr
  have hm := may_of_check.2 hc
  clear hr hc
  go_enter Try.func20, Try.ntmps20
  go_wp2_with fail
  refine (may_any _ A n c f k (two_rd HR.out _ _)).mono ?_
  rintro e w2 ⟨rfl, hb⟩
  have HB := Lib.hid (hb.mono (B' := w.heap.size + 1 + 1) (by simp))
  have hlt : w.heap.size + 1 + 1 ≤ w2.heap.size := by have := hb.size; simpa using this
  clear hb
  rw [hm]
  clear hm
  obtain ⟨k2, k3, k4, k5, k6, k7⟩ := two_blocks HB.out
  go_wp2
  refine bodyPost_ret (v := .tuple #[.agg #[.slice none 0 0, .int .i64 0], .int .i64 8]) ?_ rfl ⟨rfl, two_below HB.out _ _⟩
  simp [results, Try.results20, go_sem, k2, k3]
set_option maxHeartbeats 1000000 in
theorem rput_arg (w : World) (A : Option Addr) (n c : Nat) (f : Nat → Nat) (k m : Int) (v : Nat) (hr : RdB w w.heap.size A n f) (hc : checkE f n k = 0) (hv : v < 4294967296) (hn0 : -9223372036854775808 ≤ m) (hn1 : m ≤ 9223372036854775807) (hf : fitsB v m = false) :
    Calls Try.prog 20 #[.agg #[.slice A n c, .int .i64 k], .int .u32 (v : Int), .int .i64 m] w fun e w' => e = .returned (.tuple #[.agg #[.slice none 0 0, .int .i64 0], .int .i64 2]) ∧ Below w.heap.size w w' := by
  have HR := Lib.hid hr
  have hm := may_of_check.1 hc
  clear hr hc
  go_enter Try.func20, Try.ntmps20
  go_wp2_with fail
  refine (may_any _ A n c f k (two_rd HR.out _ _)).mono ?_
  rintro e w2 ⟨rfl, hb⟩
  have HB := Lib.hid (hb.mono (B' := w.heap.size + 1 + 1) (by simp))
  have hlt : w.heap.size + 1 + 1 ≤ w2.heap.size := by have := hb.size; simpa using this
  clear hb
  rw [hm]
  clear hm
  obtain ⟨k2, k3, k4, k5, k6, k7⟩ := two_blocks HB.out
  go_wp2_with (go_at_call 29; refine (rfits_any _ _ _ (by omega) (by omega) hn0 hn1).mono ?_; rintro e w' ⟨rfl, rfl⟩)
  refine bodyPost_ret (v := .tuple #[.agg #[.slice none 0 0, .int .i64 0], .int .i64 2]) ?_ rfl ⟨rfl, two_below HB.out _ _⟩
  simp [results, Try.results20, go_sem, k2, k3]
set_option maxHeartbeats 1000000 in
theorem rput_full (w : World) (A : Option Addr) (n c : Nat) (f : Nat → Nat) (k m : Nat) (v : Nat) (hr : RdB w w.heap.size A n f) (hc : checkE f n k = 0) (hk : k ≤ 8388608) (hv : v < 4294967296) (hm32 : m ≤ 32) (hf : fitsB v m = true) (hfull : 8388608 < k + m) :
    Calls Try.prog 20 #[.agg #[.slice A n c, .int .i64 (k : Int)], .int .u32 (v : Int), .int .i64 (m : Int)] w fun e w' => e = .returned (.tuple #[.agg #[.slice none 0 0, .int .i64 0], .int .i64 9]) ∧ Below w.heap.size w w' := by
  have HR := Lib.hid hr
  have hm := may_of_check.1 hc
  clear hr hc
  go_enter Try.func20, Try.ntmps20
  go_wp2_with fail
  refine (may_any _ A n c f k (two_rd HR.out _ _)).mono ?_
  rintro e w2 ⟨rfl, hb⟩
  have HB := Lib.hid (hb.mono (B' := w.heap.size + 1 + 1) (by simp))
  have hlt : w.heap.size + 1 + 1 ≤ w2.heap.size := by have := hb.size; simpa using this
  clear hb
  rw [hm]
  clear hm
  obtain ⟨k2, k3, k4, k5, k6, k7⟩ := two_blocks HB.out
  go_wp2_with (go_at_call 29; refine (rfits_any _ _ _ (by omega) (by omega) (by omega) (by omega)).mono ?_; rintro e w' ⟨rfl, rfl⟩)
  refine bodyPost_ret (v := .tuple #[.agg #[.slice none 0 0, .int .i64 0], .int .i64 9]) ?_ rfl ⟨rfl, two_below HB.out _ _⟩
  simp [results, Try.results20, go_sem, k2, k3]
set_option maxHeartbeats 1000000 in
theorem rput_ok (w : World) (A : Option Addr) (n c : Nat) (f : Nat → Nat) (k m : Nat) (v : Nat) (hr : RdB w w.heap.size A n f) (hA : A = none → c = 0) (hc : checkE f n k = 0) (hk : k ≤ 8388608) (hv : v < 4294967296) (hm32 : m ≤ 32) (hf : fitsB v m = true) (hfull : k + m ≤ 8388608) :
    Calls Try.prog 20 #[.agg #[.slice A n c, .int .i64 (k : Int)], .int .u32 (v : Int), .int .i64 (m : Int)] w fun e w' => ∃ A' c' L, L = (k + m + 7) / 8 ∧ e = .returned (.tuple #[.agg #[.slice A' L c', .int .i64 ((k + m : Nat) : Int)], .int .i64 0]) ∧
      w'.ownsRow w.heap.size 5 1 (.slice A' L c') L (bytesL L (putF (zext n f) k v m)) ∧ Below w.heap.size w w' := by
  obtain ⟨K, hK, _, hn, hcl⟩ := check_clean hr.1 hc
  obtain rfl : k = K := by omega
  have HR := Lib.hid hr; have HA := Lib.hid hA; have HN := Lib.hid hn; have HCL := Lib.hid hcl
  have hm := may_of_check.1 hc
  clear hr hc hA hn hcl hK
  go_enter Try.func20, Try.ntmps20
  go_wp2_with fail
  refine (may_any _ A n c f k (two_rd HR.out _ _)).mono ?_
  rintro e w2 ⟨rfl, hb⟩
  have hr2 := (two_rd HR.out (.cells #[.slice A n c, .int .i64 (k : Int)] 28) (.cells #[.slice none 0 0, .int .i64 0] 28)).below hb (Nat.le_refl _)
  have HR2 := Lib.hid (hr2.more (B' := w2.heap.size) hb.size)
  have HB := Lib.hid (hb.mono (B' := w.heap.size + 1 + 1) (by simp))
  have hlt : w.heap.size + 1 + 1 ≤ w2.heap.size := by have := hb.size; simpa using this
  clear hb hr2
  rw [hm]
  clear hm
  obtain ⟨k2, k3, k4, k5, k6, k7⟩ := two_blocks HB.out
  go_wp2_with (go_at_call 29; refine (rfits_any _ _ _ (by omega) (by omega) (by omega) (by omega)).mono ?_; rintro e w' ⟨rfl, rfl⟩)
  refine (set_any _ A n c f k m v HR2.out HA.out hk HN.out HCL.out hm32 hv).mono ?_
  rintro e w3 ⟨A3, c3, L, hL, rfl, ho, hb⟩
  have HB3 := Lib.hid (HB.out.trans (hb.mono (by omega)))
  have HO := Lib.hid ho
  have hlt3 : w.heap.size + 1 + 1 ≤ w3.heap.size := by have := hb.size; omega
  have HL := Lib.hid hL
  clear hb ho hL k2 k3 k4 k5 k6 k7
  obtain ⟨k2, k3, k4, k5, k6, k7⟩ := two_blocks HB3.out
  go_wp2
  refine bodyPost_ret (v := .tuple #[.agg #[.slice A3 L c3, .int .i64 ((k + m : Nat) : Int)], .int .i64 0]) ?_ rfl ⟨A3, c3, L, HL.out, rfl, ?_, two_below HB3.out _ _⟩
  · simp [results, Try.results20, go_sem, k2, k3]
  · exact ownsRow_lower (ownsRow_setCell_below (ownsRow_setCell_below HO.out (a := ⟨w.heap.size + 1, 0, none⟩) (by show w.heap.size + 1 < _; omega) _) (a := ⟨w.heap.size + 1, 1, none⟩) (by show w.heap.size + 1 < _; omega) _) (by omega)
end Go.Proofs.Ytniekmnjnnkieaa
