/-
  Layer 2 (sums): what sums.Crc, the document's own Crc, Table and bit-by-bit CRC answer, for every table, sum and bytes.
-/
import Derived.Test.YtpnnnmkonodbiaaSumTable
namespace Go.Proofs.Ytpnnnmkonodbiaa
open Go.RowKit
set_option maxRecDepth 100000 in
set_option maxHeartbeats 1000000 in
theorem rtable_any (w : World) : Calls Try.prog 15 #[] w fun e w' => e = .returned (.agg (tabA rowN)) ∧ Below w.heap.size w w' := by
  have hz := (zero_of_info infoTab).1
  go_enter Try.func15, Try.ntmps15
  go_wp2
  rw [part_none]
  go_loopw [2] (fun i wr => ∃ k : Nat, k ≤ 256 ∧ i = .int .i64 k ∧ Tab wr w.heap.size (partN 0) ∧ Tab wr (w.heap.size + 1) (partN k) ∧ w.heap.size + 1 < wr.heap.size ∧ Below w.heap.size w wr) (fun i _ => 256 - (intOf i).toNat)
  case atStart =>
    exact ⟨0, Nat.zero_le _, rfl, heap_alloc2_old w _ _, heap_alloc2_new w _ _, by simp, ((Below.refl _ _).alloc (Nat.le_refl _) _).alloc (by simp) _⟩
  case round =>
    obtain ⟨k, hk, rfl, h0, h1, hsz, hb⟩ := hrel
    by_cases hlt : k < 256
    · have c1 := h1.cell hlt
      have f1 := h1.frozen k
      have H0 := Lib.hid h0; have H1 := Lib.hid h1; have HB := Lib.hid hb
      clear h0 h1 hb
      go_wp2_with (go_at_call 19; refine (rrow_any _ k hlt).mono ?_; rintro e w' ⟨rfl, rfl⟩)
      go_roundw
      case rel =>
        have hset := H1.out.set k (rowN k)
        rw [part_upd] at hset
        refine ⟨k + 1, by omega, by go_num, H0.out.other (by simp) _, hset, ?_, ?_⟩
        · simp [World.setCell]; omega
        · exact HB.out.setCell (by simp) _
      case measure => simp [intOf]; omega
    · obtain rfl : k = 256 := by omega
      have H0 := Lib.hid h0; have H1 := Lib.hid h1; have HB := Lib.hid hb
      clear h0 h1 hb hlt hk
      go_wp2_with (first
        | (refine wpList_load_row rfl _ _ rfl (w.heap.size + 1) rfl _ (tabA (partN 256)) (0, 0) _ H1.out Try.underlying23 rfl (by rw [tabA_size]; exact szTab) ?_)
        | (refine wpList_store_row rfl _ _ _ rfl w.heap.size (tabA (partN 256)) rfl rfl _ (tabA (partN 0)) H0.out (by rw [tabA_size]; exact szTab) (by rw [tabA_size, tabA_size]) (tabA_one _) ?_))
      refine bodyPost_ret (v := .agg (tabA (partN 256))) ?_ rfl ⟨by rw [part_full], below_setRow HB.out (Nat.le_refl _) _⟩
      exact results_cell_row rfl _ _ w.heap.size _ _ (0, 0) _ rfl (H0.out.setRow (h := partN 256)) Try.underlying23 rfl (by rw [tabA_size]; exact szTab)
/-! ### the CRC -/
theorem not_nat (x : Nat) (hx : x < 4294967296) : 4294967295 ^^^ x = 4294967295 - x := by
  have h : (BitVec.allOnes 32 ^^^ BitVec.ofNat 32 x).toNat = (~~~ (BitVec.ofNat 32 x)).toNat := by rw [BitVec.allOnes_xor]
  rw [BitVec.toNat_xor, BitVec.toNat_not, BitVec.toNat_ofNat, BitVec.toNat_allOnes, Nat.mod_eq_of_lt (by omega)] at h
  exact h
theorem u32_not (x : Nat) (hx : x < 4294967296) : bits .xor .u32 IntKind.u32.max (x : Int) = ((4294967295 - x : Nat) : Int) := by
  have := u32_xor 4294967295 x (by omega) hx
  rw [not_nat x hx] at this
  exact this
theorem RdB.at {w : World} {B n : Nat} {A : Option Addr} {f : Nat → Nat} (h : RdB w B A n f) (hn : 0 < n) : ∃ b o, A = some ⟨b, o, none⟩ ∧ b < B ∧ ∀ j, j < n → w.cell? ⟨b, o + j, none⟩ = some (.int .u8 (f j : Int)) := h.2 hn
set_option maxRecDepth 100000 in
set_option maxHeartbeats 1000000 in
theorem crc_any (w : World) (B : Nat) (g : Nat → Nat) (s : Nat) (A : Option Addr) (l c : Nat) (f : Nat → Nat) (hg : ∀ i, i < 256 → g i < 4294967296) (hs : s < 4294967296) (hr : RdB w B A l f) (hB : B ≤ w.heap.size) (hl : l ≤ 1000000000000) :
    Calls Try.prog 11 #[.agg (tabA g), .int .u32 (s : Int), .slice A l c] w fun e w' => e = .returned (.int .u32 (crcV g s f l : Nat)) ∧ Below w.heap.size w w' := by
  have HT := Lib.hid (tab_new w g)
  have HR := Lib.hid (hr.below ((Below.refl _ w).alloc (Nat.le_refl _) (.cells (tabA g) 23)) hB)
  have HF := Lib.hid hr.1
  have HG := Lib.hid hg
  clear hr hg
  go_enter Try.func11, Try.ntmps11
  have hn := u32_not s hs
  go_wp2
  clear hn
  obtain ⟨W, hW⟩ : ∃ W, W = w.alloc (.cells (tabA g) 23) := ⟨_, rfl⟩
  rw [← hW] at HT HR ⊢
  have HB := Lib.hid (show Below w.heap.size w W by rw [hW]; exact (Below.refl _ _).alloc (Nat.le_refl _) _)
  clear hW
  go_loop [7, 14] (fun x k => ∃ j : Nat, j ≤ l ∧ k = .int .i64 j ∧ x = .int .u32 (crcN g f (4294967295 - s) j : Nat)) (fun _ k => l - (intOf k).toNat)
  case atStart => exact ⟨0, Nat.zero_le _, rfl, rfl⟩
  case round =>
    obtain ⟨j, hj, rfl, rfl⟩ := hrel
    have hx := crcN_lt (x := 4294967295 - s) HG.out HF.out (by omega) j
    obtain ⟨x, hxe⟩ : ∃ x, x = crcN g f (4294967295 - s) j := ⟨_, rfl⟩
    rw [← hxe] at hx ⊢
    have HX := Lib.hid hxe
    clear hxe
    by_cases hlt : j < l
    · obtain ⟨b, o, rfl, hb, hc⟩ := HR.out.at (by omega)
      have hcell := hc j hlt
      clear hc
      have hf := HF.out j
      have hi : x % 256 ^^^ f j < 256 := xor_lt8 (by omega) hf
      have e1 := u8_xor (x % 256) (f j) (by omega) hf
      obtain ⟨i, hie⟩ : ∃ i, i = x % 256 ^^^ f j := ⟨_, rfl⟩
      rw [← hie] at hi e1
      have ht := HT.out.cell hi
      have e2 := u32_xor (x / 256) (g i) (by omega) (HG.out i hi)
      rw [show ((x % 256 : Nat) : Int) = (x : Int) % 256 by omega] at e1
      rw [show ((x / 256 : Nat) : Int) = (x : Int) / 256 by omega] at e2
      have HI := Lib.hid hie
      clear hie
      go_wp2
      refine ⟨⟨j + 1, hlt, by go_num, val_int ?_⟩, by simp [intOf]; omega⟩
      simp only [crcN, crcStep]
      rw [← HX.out, ← HI.out]
    · obtain rfl : j = l := by omega
      have hn := u32_not x hx
      clear hj hlt
      go_wp2
      go_ret
      exact ⟨ret_int (by unfold crcV; rw [← HX.out]), HB.out⟩
set_option maxRecDepth 100000 in
set_option maxHeartbeats 1000000 in
theorem rcrc_any (w : World) (B : Nat) (g : Nat → Nat) (s : Nat) (A : Option Addr) (l c : Nat) (f : Nat → Nat) (hg : ∀ i, i < 256 → g i < 4294967296) (hs : s < 4294967296) (hr : RdB w B A l f) (hB : B ≤ w.heap.size) (hl : l ≤ 1000000000000) :
    Calls Try.prog 13 #[.agg (tabA g), .int .u32 (s : Int), .slice A l c] w fun e w' => e = .returned (.int .u32 (crcV g s f l : Nat)) ∧ Below w.heap.size w w' := by
  have HT := Lib.hid (tab_new w g)
  have HR := Lib.hid (hr.below ((Below.refl _ w).alloc (Nat.le_refl _) (.cells (tabA g) 23)) hB)
  have HF := Lib.hid hr.1
  have HG := Lib.hid hg
  clear hr hg
  go_enter Try.func13, Try.ntmps13
  go_wp2
  obtain ⟨W, hW⟩ : ∃ W, W = w.alloc (.cells (tabA g) 23) := ⟨_, rfl⟩
  rw [← hW] at HT HR ⊢
  have HB := Lib.hid (show Below w.heap.size w W by rw [hW]; exact (Below.refl _ _).alloc (Nat.le_refl _) _)
  clear hW
  go_loop [7, 8] (fun x k => ∃ j : Nat, j ≤ l ∧ k = .int .i64 j ∧ x = .int .u32 (crcN g f (4294967295 - s) j : Nat)) (fun _ k => l - (intOf k).toNat)
  case atStart => exact ⟨0, Nat.zero_le _, rfl, val_int (by simp only [crcN]; omega)⟩
  case round =>
    obtain ⟨j, hj, rfl, rfl⟩ := hrel
    have hx := crcN_lt (x := 4294967295 - s) HG.out HF.out (by omega) j
    obtain ⟨x, hxe⟩ : ∃ x, x = crcN g f (4294967295 - s) j := ⟨_, rfl⟩
    rw [← hxe] at hx ⊢
    have HX := Lib.hid hxe
    clear hxe
    by_cases hlt : j < l
    · obtain ⟨b, o, rfl, hb, hc⟩ := HR.out.at (by omega)
      have hcell := hc j hlt
      clear hc
      have hf := HF.out j
      have hi : x % 256 ^^^ f j < 256 := xor_lt8 (by omega) hf
      have e1 := i64_xor (x % 256) (f j) (by omega) (by omega)
      obtain ⟨i, hie⟩ : ∃ i, i = x % 256 ^^^ f j := ⟨_, rfl⟩
      rw [← hie] at hi e1
      have ht := HT.out.cell hi
      have e2 := u32_xor (x / 256) (g i) (by omega) (HG.out i hi)
      rw [show ((x % 256 : Nat) : Int) = (x : Int) % 256 by omega] at e1
      rw [show ((x / 256 : Nat) : Int) = (x : Int) / 256 by omega] at e2
      have HI := Lib.hid hie
      clear hie
      go_wp2
      refine ⟨⟨j + 1, hlt, by go_num, val_int ?_⟩, by simp [intOf]; omega⟩
      simp only [crcN, crcStep]
      rw [← HX.out, ← HI.out]
    · obtain rfl : j = l := by omega
      clear hj hlt
      go_wp2
      go_ret
      exact ⟨ret_int (by unfold crcV; rw [← HX.out]; omega), HB.out⟩
set_option maxRecDepth 100000 in
set_option maxHeartbeats 1000000 in
theorem of_any (w : World) (B : Nat) (A : Option Addr) (l c : Nat) (f : Nat → Nat) (hr : RdB w B A l f) (hl : l ≤ 1000000000000) :
    Calls Try.prog 16 #[.slice A l c] w fun e w' => e = .returned (.int .u32 (crcV rowN 0 f l : Nat)) ∧ w = w' := by
  have HR := Lib.hid hr
  have HF := Lib.hid hr.1
  clear hr
  go_enter Try.func16, Try.ntmps16
  go_wp2
  go_loop [3, 4, 5] (fun x k _ => ∃ j : Nat, j ≤ l ∧ k = .int .i64 j ∧ x = .int .u32 (ofN f j : Nat)) (fun _ k _ => l - (intOf k).toNat)
  case atStart => exact ⟨0, Nat.zero_le _, rfl, rfl⟩
  case round =>
    obtain ⟨j, hj, rfl, rfl⟩ := hrel
    have hx := ofN_lt f HF.out j
    obtain ⟨x, hxe⟩ : ∃ x, x = ofN f j := ⟨_, rfl⟩
    rw [← hxe] at hx ⊢
    have HX := Lib.hid hxe
    clear hxe
    by_cases hlt : j < l
    · have hd : decide ((j : Int) < (l : Int)) = true := by simp; omega
      have hd2 : decide (j < l) = true := by simp; omega
      obtain ⟨b, o, rfl, hb, hc⟩ := HR.out.at (by omega)
      have hcell := hc j hlt
      clear hc
      have hf := HF.out j
      have e1 := u32_xor x (f j) (by omega) (by omega)
      obtain ⟨y, hy⟩ : ∃ y, y = x ^^^ f j := ⟨_, rfl⟩
      have hy0 : y < 4294967296 := by rw [hy]; exact xor_lt32 hx (by omega)
      rw [← hy] at e1
      have HY := Lib.hid hy
      clear hy
      go_wp2
      clear e1
      go_loop [3, 5] (fun z m => ∃ i : Nat, i ≤ 8 ∧ m = .int .i64 i ∧ z = .int .u32 (stepsN y i : Nat)) (fun _ m => 8 - (intOf m).toNat)
      case atStart => exact ⟨0, Nat.zero_le _, rfl, rfl⟩
      case round =>
        obtain ⟨i, hi, rfl, rfl⟩ := hrel
        have hl := stepsN_lt hy0 i
        by_cases hlt2 : i < 8
        · go_wp2_with (go_at_call 20; refine (rstep_any _ _ hl).mono ?_; rintro e w' ⟨rfl, rfl⟩)
          go_round
          case rel => exact ⟨i + 1, by omega, by go_num, rfl⟩
          case measure => simp [intOf]; omega
        · obtain rfl : i = 8 := by omega
          clear hlt2 hi
          go_wp2
          go_round
          case rel => exact ⟨j + 1, by omega, by go_num, val_int (by simp only [ofN]; rw [← HX.out, ← HY.out])⟩
          case measure => simp [intOf]; omega
    · obtain rfl : j = l := by omega
      clear hj hlt
      go_wp2
      go_ret
      exact ⟨ret_int (by rw [crcV_of, ← HX.out]; omega), rfl⟩
end Go.Proofs.Ytpnnnmkonodbiaa
