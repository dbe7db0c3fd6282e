/-
  Layer 1 (bits), the document's own answer: what its Align answers for every pen.
-/
import Derived.Test.YtniekmnjnnkieaaRput
import Derived.Deep.LoopGhost
namespace Go.Proofs.Ytniekmnjnnkieaa
open Go.RowKit
set_option maxHeartbeats 1000000 in
theorem ralign_bad (w : World) (A : Option Addr) (n c : Nat) (f : Nat → Nat) (k : Int) (hr : RdB w w.heap.size A n f) (hc : checkE f n k = 8) :
    Calls Try.prog 21 #[.agg #[.slice A n c, .int .i64 k]] w fun e w' => e = .returned (.tuple #[.agg #[.slice none 0 0, .int .i64 0], .int .i64 8]) ∧ Below w.heap.size w w' := by
  have HR := Lib.hid hr
  have hm := may_of_check.2 hc
  clear hr hc
  go_enter Try.func21, Try.ntmps21
  go_wp2_with fail
  refine (may_any _ A n c f k (two_rd HR.out _ _)).mono ?_
  rintro e w2 ⟨rfl, hb⟩
  have HB := Lib.hid (hb.mono (B' := w.heap.size + 1 + 1) (by simp))
  have hlt : w.heap.size + 1 + 1 ≤ w2.heap.size := by have := hb.size; simpa using this
  clear hb
  rw [hm]
  clear hm
  obtain ⟨k2, k3, k4, k5, k6, k7⟩ := two_blocks HB.out
  go_wp2
  refine bodyPost_ret (v := .tuple #[.agg #[.slice none 0 0, .int .i64 0], .int .i64 8]) ?_ rfl ⟨rfl, two_below HB.out _ _⟩
  simp [results, Try.results21, go_sem, k2, k3]
theorem SetAt.on {w : World} {base p : Nat} {A : Option Addr} {n c K : Nat} {F : Nat → Nat} (h : SetAt w base p A n c K F) : SetAt (w.setCell ⟨p, 1, none⟩ (.int .i64 ((K + 1 : Nat) : Int))) base p A n c (K + 1) F :=
  ⟨pair_set1 h.1 _, ownsRow_setCell_other h.2 (a := ⟨p, 1, none⟩) (own_ne h.2 h.1) _⟩
set_option maxHeartbeats 1000000 in
theorem ralign_ok (w : World) (A : Option Addr) (n c : Nat) (f : Nat → Nat) (k : Nat) (hr : RdB w w.heap.size A n f) (hA : A = none → c = 0) (hc : checkE f n k = 0) :
    Calls Try.prog 21 #[.agg #[.slice A n c, .int .i64 (k : Int)]] w fun e w' => ∃ A' c', e = .returned (.tuple #[.agg #[.slice A' n c', .int .i64 ((8 * n : Nat) : Int)], .int .i64 0]) ∧
      w'.ownsRow w.heap.size 5 1 (.slice A' n c') n (bytesL n f) ∧ Below w.heap.size w w' := by
  obtain ⟨K, hK, hk, hn, hcl⟩ := check_clean hr.1 hc
  obtain rfl : k = K := by omega
  have hk8 : k ≤ 8 * n := by omega
  have hn1 : n ≤ 2000000 := by omega
  have hk9 : 8 * n < k + 8 := by omega
  have HR := Lib.hid hr; have HA := Lib.hid hA
  have hm := may_of_check.1 hc
  clear hr hc hA hn hcl hK
  go_enter Try.func21, Try.ntmps21
  go_wp2_with fail
  refine (may_any _ A n c f k (two_rd HR.out _ _)).mono ?_
  rintro e w2 ⟨rfl, hb⟩
  have hr2 := (two_rd HR.out (.cells #[.slice A n c, .int .i64 (k : Int)] 28) (.cells #[.slice none 0 0, .int .i64 0] 28)).below hb (Nat.le_refl _)
  have HR2 := Lib.hid (hr2.more (B' := w2.heap.size) hb.size)
  have HB := Lib.hid (hb.mono (B' := w.heap.size + 1 + 1) (by simp))
  have hlt : w.heap.size + 1 + 1 ≤ w2.heap.size := by have := hb.size; simpa using this
  clear hb hr2
  rw [hm]
  clear hm
  obtain ⟨k2, k3, k4, k5, k6, k7⟩ := two_blocks HB.out
  go_wp2_with fail
  refine (twin_any _ A n c f k HR2.out (by omega) HA.out).mono ?_
  rintro e w3 ⟨A3, c3, rfl, ho, hb⟩
  have HB3 := Lib.hid (HB.out.trans (hb.mono (by omega)))
  have HO := Lib.hid (ownsRow_lower ho (base' := w.heap.size + 1 + 1) hlt)
  have hlt3 : w.heap.size + 1 + 1 ≤ w3.heap.size := by have := hb.size; omega
  clear hb ho k2 k3 k4 k5 k6 k7
  go_wp2
  go_loopg [11] (8 * n - k) (fun gk t wr => ∃ i : Nat, k ≤ i ∧ i ≤ 8 * n ∧ gk = 8 * n - i ∧ SetAt wr (w.heap.size + 1 + 1) w3.heap.size A3 n c3 i f ∧ Below (w.heap.size + 1 + 1) w3 wr)
  case atStart => exact ⟨k, Nat.le_refl _, hk8, rfl, ⟨heap_alloc_new _ _, HO.out.alloc _⟩, (Below.refl _ _).alloc hlt3 _⟩
  case round =>
    obtain ⟨i, hi1, hi2, hgk, hset, hbel⟩ := hrel
    have HS := Lib.hid hset; have HBL := Lib.hid hbel; have HG := Lib.hid hgk
    have hsz : w3.heap.size < wr.heap.size := (Array.getElem?_eq_some_iff.1 hset.1).1
    obtain ⟨j2, j3, j4, j5⟩ := pair_cells hset.1
    clear hset hbel hgk
    by_cases h8 : i % 8 = 0
    · have ht : ((i : Int) % 8 != 0) = false := by simp; omega
      have HI := Lib.hid (show i = 8 * n by omega)
      have hs3 : w.heap.size < wr.heap.size := by omega
      clear h8 hi1 hi2 j2 j3 j4 j5
      obtain ⟨k2, k3, k4, k5, k6, k7⟩ := two_blocks (HB3.out.trans HBL.out)
      obtain ⟨j2, j3, j4, j5⟩ := pair_cells HS.out.1
      go_wp2
      refine bodyPost_ret (v := .tuple #[.agg #[.slice A3 n c3, .int .i64 (i : Int)], .int .i64 0]) ?_ rfl ⟨A3, c3, by rw [HI.out], ?_, two_below (HB3.out.trans HBL.out) _ _⟩
      · simp [results, Try.results21, go_sem, k2, k3]
      · exact ownsRow_lower (ownsRow_setCell_below (ownsRow_setCell_below HS.out.2 (a := ⟨w.heap.size + 1, 0, none⟩) (by simp) _) (a := ⟨w.heap.size + 1, 1, none⟩) (by simp) _) (by omega)
    · have ht : ((i : Int) % 8 != 0) = true := by simp; omega
      have hlt8 : i < 8 * n := by omega
      have H8 := Lib.hid h8
      clear h8
      go_wp2
      go_roundg (8 * n - (i + 1))
      case rel => exact ⟨i + 1, by omega, by omega, rfl, HS.out.on, HBL.out.setCell (by omega) _⟩
      case measure => have := HG.out; omega
end Go.Proofs.Ytniekmnjnnkieaa
