/-
  Layer 1 (bits): what the method push of a pen under way does, and what bits.write answers.
-/
import Derived.Test.YtedjapamimhglaaBitBeg
import Derived.BigRegion
namespace Go.Proofs.Ytedjapamimhglaa
open Go.RowKit
theorem emod_u8 (x : Nat) (h : x < 256) : (x : Int) % 256 = (x : Int) := by omega
set_option maxHeartbeats 1000000 in
theorem push_any (w : World) (p g L k : Nat) (f : Nat → Nat) (x : Nat) (hx : x < 2) (hp : PenAt w p g L k) (hrow : Row w g L f) (hne : p ≠ g) (hk : k < 8 * L) (hL : L ≤ 2000000) (hf : f (k / 8) < 2 ^ (k % 8)) :
    Calls Try.prog 52 #[.pointer (some ⟨p, 0, none⟩), .int .u32 (x : Int)] w fun e w' => e = .returned (.tuple #[]) ∧ w' = (((w.setCell ⟨g, k / 8, none⟩ (.int .u8 ((f (k / 8) + x * 2 ^ (k % 8) : Nat) : Int))).setCell ⟨p, 1, none⟩ (.int .i64 ((k + 1 : Nat) : Int))).drew) := by
  have c0 : w.cell? ⟨p, 0, none⟩ = some (.slice (some ⟨g, 0, none⟩) L L) := by rw [cell_of_row w p 0 _ 99 (0, 0) hp]; rfl
  have c1 : w.cell? ⟨p, 1, none⟩ = some (.int .i64 (k : Int)) := by rw [cell_of_row w p 1 _ 99 (0, 0) hp]; rfl
  have c2 := hrow.cell (j := k / 8) (by omega)
  have z1 : w.frozen? ⟨p, 1, none⟩ = false := by unfold PenAt at hp; simp [World.frozen?, hp]
  have z2 := hrow.frozen (k / 8)
  have hlt : k / 8 < L := by omega
  have HF := Lib.hid hf; have HP := Lib.hid hp; have HR := Lib.hid hrow
  clear hf hp hrow
  have hv : bits .or .u8 ((f (k / 8) : Nat) : Int) ((x : Int) * 2 ^ (k % 8) % 256) = ((f (k / 8) + x * 2 ^ (k % 8) : Nat) : Int) := by
    have h8 : k % 8 < 8 := Nat.mod_lt _ (by omega)
    have h1 : 2 ^ (k % 8) * 2 ≤ 256 := by
      have := Nat.pow_le_pow_right (n := 2) (by omega) (show k % 8 + 1 ≤ 8 by omega)
      rw [Nat.pow_succ] at this; simpa using this
    have h2 : x * 2 ^ (k % 8) ≤ 1 * 2 ^ (k % 8) := Nat.mul_le_mul_right _ (by omega)
    have h3 := HF.out
    rw [cast_shl, emod_u8 _ (by omega), u8_or _ _ (by omega) (by omega), Nat.or_comm, or_add _ _ (k % 8) h3 (Nat.dvd_mul_left _ _), Nat.add_comm]
  have HV := Lib.hid hv
  clear hv
  go_enter Try.func52, Try.ntmps52
  go_wp2
  go_region
  go_wp2
  go_end0
  rw [HV.out]
  exact ⟨rfl, rfl⟩
/-! ### bits behind bits -/
def stepF (f : Nat → Nat) (k b : Nat) : Nat → Nat := upd f (k / 8) (f (k / 8) + b * 2 ^ (k % 8))
def putF (f : Nat → Nat) (k v : Nat) : Nat → (Nat → Nat)
  | 0 => f
  | i + 1 => stepF (putF f k v i) (k + i) (v / 2 ^ i % 2)
/-- Behind k bits all is nought. -/
def Clean (f : Nat → Nat) (k : Nat) : Prop := (∀ j, f j < 256) ∧ (∀ j, k / 8 < j → f j = 0) ∧ f (k / 8) < 2 ^ (k % 8)
theorem Clean.step {f : Nat → Nat} {k b : Nat} (h : Clean f k) (hb : b < 2) : Clean (stepF f k b) (k + 1) := by
  obtain ⟨h1, h2, h3⟩ := h
  have h8 : k % 8 < 8 := Nat.mod_lt _ (by omega)
  have hp : 2 ^ (k % 8) * 2 ≤ 256 := by
    have := Nat.pow_le_pow_right (n := 2) (by omega) (show k % 8 + 1 ≤ 8 by omega)
    rw [Nat.pow_succ] at this; simpa using this
  have hq : b * 2 ^ (k % 8) ≤ 1 * 2 ^ (k % 8) := Nat.mul_le_mul_right _ (by omega)
  refine ⟨fun j => ?_, fun j hj => ?_, ?_⟩
  · unfold stepF upd; split
    · omega
    · exact h1 j
  · unfold stepF upd
    rw [if_neg (by omega)]
    exact h2 j (by omega)
  · unfold stepF upd
    by_cases e : k % 8 = 7
    · rw [if_neg (by omega), h2 _ (by omega)]; exact Nat.two_pow_pos _
    · rw [if_pos (by omega), show (k + 1) % 8 = k % 8 + 1 by omega, Nat.pow_succ]; omega
theorem Clean.put {f : Nat → Nat} {k : Nat} (h : Clean f k) (v : Nat) : ∀ i, Clean (putF f k v i) (k + i)
  | 0 => h
  | i + 1 => (Clean.put h v i).step (Nat.mod_lt _ (by omega))
theorem push_step (w : World) (p g L k : Nat) (f : Nat → Nat) (x : Nat) (y : Int) (hy : y = (x : Int)) (hx : x < 2) (hp : PenAt w p g L k) (hrow : Row w g L f) (hne : p ≠ g) (hk : k < 8 * L) (hL : L ≤ 2000000) (hf : Clean f k) :
    Calls Try.prog 52 #[.pointer (some ⟨p, 0, none⟩), .int .u32 y] w fun e w' => e = .returned (.tuple #[]) ∧ PenAt w' p g L (k + 1) ∧ Row w' g L (stepF f k x) ∧ ∀ B, B ≤ p → B ≤ g → Below B w w' := by
  subst hy
  refine (push_any w p g L k f x hx hp hrow hne hk hL hf.2.2).mono ?_
  rintro e w' ⟨rfl, rfl⟩
  refine ⟨rfl, ?_, ?_, fun B h1 h2 => (((Below.refl _ _).setCell h2 _).setCell h1 _).drew⟩
  · have h1 : PenAt (w.setCell ⟨g, k / 8, none⟩ (.int .u8 ((f (k / 8) + x * 2 ^ (k % 8) : Nat) : Int))) p g L k := (Below.heap_setCell w ⟨g, k / 8, none⟩ _ p hne).trans hp
    show (World.setCell _ _ _).heap[p]? = _
    unfold PenAt at h1
    simp [World.setCell, Array.getElem?_modify] at h1 ⊢
    simp [h1]
  · exact (hrow.set (k / 8) _).other (p := ⟨p, 1, none⟩) (fun e => hne e.symm) _
set_option maxHeartbeats 1000000 in
theorem write_any (w : World) (A : Option Addr) (n c : Nat) (f : Nat → Nat) (k m L v : Nat) (hr : RdB w w.heap.size A n f) (hcl : Clean (zext n f) k) (hk : k ≤ 8388608) (hm : m ≤ 32) (hn : n ≤ L) (hL : L = (k + m + 7) / 8) (hv : v < 4294967296) :
    Calls Try.prog 42 #[.agg #[.slice A n c, .int .i64 (k : Int)], .int .u32 (v : Int), .int .i64 (m : Int)] w fun e w' => ∃ g, e = .returned (.agg #[.slice (some ⟨g, 0, none⟩) L L, .int .i64 ((k + m : Nat) : Int)]) ∧
      w.heap.size ≤ g ∧ Below w.heap.size w w' ∧ Row w' g L (putF (zext n f) k v m) := by
  have hL1 : L ≤ 2000000 := by omega
  have hkL : k + m ≤ 8 * L := by omega
  have HL := Lib.hid hL
  have HR := Lib.hid hr
  have HC := Lib.hid hcl
  clear hL hr hcl
  go_enter Try.func42, Try.ntmps42
  go_wp2_with fail
  refine (begin_any _ A n c f k m L (HR.out.below (((Below.refl _ _).alloc (Nat.le_refl _) _).alloc (by simp) _) (Nat.le_refl _) |>.more (by simp; omega)) hk (by omega) hn HL.out).mono ?_
  rintro e w2 ⟨rfl, hb, hrow⟩
  have HB := Lib.hid hb
  have HROW := Lib.hid hrow
  have hlt := hrow.lt
  simp only [World.size_alloc] at hlt
  clear hb hrow
  go_wp2
  go_loopw [13] (fun i wr => ∃ j : Nat, j ≤ m ∧ i = .int .i64 j ∧ PenAt wr w2.heap.size (w.heap.size + 1 + 1 + 1 + 1) L (k + j) ∧ Row wr (w.heap.size + 1 + 1 + 1 + 1) L (putF (zext n f) k v j) ∧ Below (w.heap.size + 1 + 1) w2 wr) (fun i _ => m - (intOf i).toNat)
  case atStart =>
    refine ⟨0, Nat.zero_le _, rfl, heap_alloc_new _ _, ?_, ?_⟩
    · exact (Row.alloc (by simpa using HROW.out) _ : Row _ _ L (zext n f))
    · exact (Below.refl _ _).alloc (by omega) _
  case round =>
    obtain ⟨j, hj, rfl, hp, hrow, hbel⟩ := hrel
    have HP := Lib.hid hp
    have HW := Lib.hid hrow
    have HBL := Lib.hid hbel
    clear hp hrow hbel
    by_cases hlt2 : j < m
    · go_wp2_with fail
      refine (push_step _ _ _ L (k + j) _ (v / 2 ^ j % 2) _ (bit_cast v j hv) (Nat.mod_lt _ (by omega)) HP.out HW.out (by omega) (by omega) hL1 (HC.out.put v j)).mono ?_
      rintro e w5 ⟨rfl, h1, h2, h3⟩
      have h4 := Lib.hid (HBL.out.trans (h3 (w.heap.size + 1 + 1) (by omega) (by omega)))
      have h5 := Lib.hid h1
      have h6 := Lib.hid h2
      clear h1 h2 h3
      go_wp2
      go_roundw
      case rel => exact ⟨j + 1, hlt2, by go_num, h5.out, h6.out, h4.out⟩
      case measure => simp [intOf]; omega
    · obtain rfl : j = m := by omega
      have d0 : wr.cell? ⟨w2.heap.size, 0, none⟩ = some (.slice (some ⟨w.heap.size + 1 + 1 + 1 + 1, 0, none⟩) L L) := by rw [cell_of_row _ _ 0 _ 99 (0, 0) HP.out]; rfl
      have d1 : wr.cell? ⟨w2.heap.size, 1, none⟩ = some (.int .i64 ((k + j : Nat) : Int)) := by rw [cell_of_row _ _ 1 _ 99 (0, 0) HP.out]; rfl
      obtain ⟨hc, hfz⟩ := bcell (HB.out.mono (B' := w.heap.size + 1 + 1) (by simp) |>.trans HBL.out)
      have k2 := (hc (w.heap.size + 1) 0 (by omega)).trans (by go_simp : _ = some (Value.slice none 0 0))
      have k3 := (hc (w.heap.size + 1) 1 (by omega)).trans (by go_simp : _ = some (Value.int .i64 0))
      have k4 := (hfz (w.heap.size + 1) 0 (by omega)).trans (by go_simp : _ = false)
      have k5 := (hfz (w.heap.size + 1) 1 (by omega)).trans (by go_simp : _ = false)
      clear hc hfz
      go_wp2
      refine bodyPost_ret (v := .agg #[.slice (some ⟨w.heap.size + 1 + 1 + 1 + 1, 0, none⟩) L L, .int .i64 ((k + j : Nat) : Int)]) ?_ rfl ⟨_, rfl, by omega, ?_, ?_⟩
      · simp [results, Try.results42, go_sem, k2, k3]
      · exact ((((Below.refl _ _).alloc (Nat.le_refl _) _).alloc (by simp) _).trans ((HB.out.mono (by simp; omega)).trans (HBL.out.mono (by omega)))).setCell (by simp) _ |>.setCell (by simp) _
      · exact (HW.out.other (p := ⟨w.heap.size + 1, 0, none⟩) (by simp; omega) _).other (p := ⟨w.heap.size + 1, 1, none⟩) (by simp; omega) _
end Go.Proofs.Ytedjapamimhglaa
