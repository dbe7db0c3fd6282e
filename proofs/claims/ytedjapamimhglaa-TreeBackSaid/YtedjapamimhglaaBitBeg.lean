/-
  Layer 1 (bits): what bits.begin answers, and the row of bytes that it makes.
-/
import Derived.Test.YtedjapamimhglaaBitMem
import Derived.Deep.QuietTactic
import Derived.BigQuiet
import Derived.Laws.CopyOwn
import Derived.StillTailTactics
import Derived.Laws.Rows
namespace Go.Proofs.Ytedjapamimhglaa
open Go.RowKit
theorem need_is (k L : Nat) (w : World) (h : k ≤ 9223372036854775800) (hL : L = (k + 7) / 8) :
    Calls Try.prog 43 #[.int .i64 (k : Int)] w fun e w' => e = .returned (.int .i64 (L : Int)) ∧ w = w' := by
  subst hL; exact need_any k w h
theorem sz5 : (Try.prog.info? 5).map (·.size) = some 1 := by kernel_rfl
def zext (n : Nat) (f : Nat → Nat) (j : Nat) : Nat := if j < n then f j else 0
theorem splice_zeros (L n : Nat) (f : Nat → Nat) (hn : n ≤ L) : splice (madeCells #[.int .u8 0] L).toList 0 (bytesL n f) = bytesL L (zext n f) := by
  rw [toList_madeCells_one]
  apply List.ext_getElem?
  intro j
  rw [bytesL_get]
  have hl : (bytesL n f).length = n := by simp [bytesL]
  simp only [splice, List.take_zero, List.nil_append, Nat.zero_add, List.getElem?_append, hl, bytesL_get, List.getElem?_drop, List.getElem?_replicate, zext]
  by_cases h1 : j < n
  · simp [h1]; omega
  · by_cases h2 : j < L
    · simp [h1, h2]; omega
    · simp [h1, h2]; omega
theorem copy_src {w w' : World} {B n : Nat} {A : Option Addr} {f : Nat → Nat} (h : RdB w B A n f) (hb : Below B w w') :
    0 < (bytesL n f).length → ∃ ad, A = some ad ∧ ∀ j v, (bytesL n f)[j]? = some v → w'.cell? (ad.add j) = some v := by
  intro hp
  have hl : (bytesL n f).length = n := by simp [bytesL]
  rw [hl] at hp
  obtain ⟨b, o, rfl, hlt, hc⟩ := h.2 hp
  refine ⟨_, rfl, fun j v hv => ?_⟩
  rw [bytesL_get] at hv
  by_cases hj : j < n
  · rw [if_pos hj] at hv
    injection hv with hv
    subst hv
    have e : (⟨b, o, none⟩ : Addr).add j = ⟨b, o + j, none⟩ := by unfold Addr.add; split <;> simp_all
    rw [e, hb.cell (p := ⟨b, o + j, none⟩) hlt]; exact hc j hj
  · rw [if_neg hj] at hv; cases hv
set_option maxRecDepth 100000 in
set_option maxHeartbeats 400000 in
theorem begin_any (w : World) (A : Option Addr) (n c : Nat) (f : Nat → Nat) (k m L : Nat) (hr : RdB w w.heap.size A n f) (hk : k ≤ 8388608) (hm : m ≤ 64) (hn : n ≤ L) (hL : L = (k + m + 7) / 8) :
    Calls Try.prog 51 #[.agg #[.slice A n c, .int .i64 (k : Int)], .int .i64 (m : Int)] w fun e w' => e = .returned (.agg #[.slice (some ⟨w.heap.size + 1 + 1, 0, none⟩) L L, .int .i64 (k : Int)]) ∧
      Below w.heap.size w w' ∧ Row w' (w.heap.size + 1 + 1) L (zext n f) := by
  obtain ⟨i0, hi, hz0, hz1, hz2⟩ := info_parts info5
  have hL1 : L ≤ 2000000 := by omega
  have hmk : ∀ u : World, (Instr.makeSlice 29 (.int .i64 (L : Int)) (.int .i64 (L : Int))).run Try.prog u =
      .ok (.slice (some ⟨u.heap.size, 0, none⟩) L L) (u.alloc (.cells (madeCells #[.int .u8 0] L) 5)) := fun u => by
    have h := run_make (P := Try.prog) u 29 5 i0 (.int .u8 0) Try.underlying29 hi hz0 .i64 .i64 (L : Int) (L : Int) (by omega) (Int.le_refl _) (by rw [hz2]; omega) (by omega)
    rw [Int.toNat_natCast] at h
    simpa [hz1, Value.cells] using h
  have HL := Lib.hid hL
  have HR := Lib.hid hr
  clear hL hr
  go_enter Try.func51, Try.ntmps51
  go_wp2_with (first
    | (go_at_call 43; refine (need_is (k + m) L _ (by omega) HL.out).mono ?_; rintro e w' ⟨rfl, rfl⟩)
    | (with_reducible refine wpList_copy_splice rfl (.tmp 12) (.tmp 14) 29 29 rfl 5 Try.underlying29 sz5 _ _ _ _ _ _ rfl rfl (w.heap.size + 1 + 1) 0 (madeCells #[.int .u8 0] L).toList 5 ?c1 (bytesL n f) ?c2 ?c3 ?c4 (bytesL_one n f) (w.heap.size + 1 + 1) _ (Below.refl _ _) (Nat.le_refl _) ?c5))
  case c1 => rw [Array.toArray_toList]; simpa using heap_alloc_new ((w.alloc (.cells #[.slice A n c, .int .i64 (k : Int)] 47)).alloc (.cells #[.slice none 0 0, .int .i64 0] 99)) (.cells (madeCells #[.int .u8 0] L) 5)
  case c2 => simp [bytesL, Nat.min_eq_left hn]
  case c3 => exact copy_src HR.out (((((Below.refl _ _).alloc (Nat.le_refl _) _).alloc (by simp) _).alloc (by simp; omega) _))
  case c4 => simp [bytesL, size_madeCells]; omega
  case c5 =>
    intro w4 hg4 hb4
    have HB := Lib.hid hb4
    have hsz : w.heap.size + 1 + 1 < w4.heap.size := by have := hb4.size; simp at this; omega
    obtain ⟨hc, hfz⟩ := bcell hb4
    have k1 := (hc w.heap.size 1 (by omega)).trans (by go_simp : _ = some (Value.int .i64 (k : Int)))
    have k2 := (hc (w.heap.size + 1) 0 (by omega)).trans (by go_simp : _ = some (Value.slice none 0 0))
    have k3 := (hc (w.heap.size + 1) 1 (by omega)).trans (by go_simp : _ = some (Value.int .i64 0))
    have k4 := (hfz (w.heap.size + 1) 0 (by omega)).trans (by go_simp : _ = false)
    have k5 := (hfz (w.heap.size + 1) 1 (by omega)).trans (by go_simp : _ = false)
    clear hb4 hc hfz
    go_wp2
    refine bodyPost_ret (v := .agg #[.slice (some ⟨w.heap.size + 1 + 1, 0, none⟩) L L, .int .i64 (k : Int)]) ?_ rfl ⟨rfl, ?_, ?_⟩
    · simp [results, Try.results51, go_sem, k2, k3]
    · exact ((((((Below.refl _ _).alloc (Nat.le_refl _) _).alloc (by simp) _).alloc (by simp; omega) _).trans (HB.out.mono (by omega))).setCell (by simp) _).setCell (by simp) _
    · unfold Row
      rw [Below.heap_setCell _ _ _ _ (by simp), Below.heap_setCell _ _ _ _ (by simp), ← splice_zeros L n f hn]
      exact hg4.out
/-- A pen under way: its two cells. -/
def PenAt (w : World) (p g L k : Nat) : Prop := w.heap[p]? = some (.cells #[.slice (some ⟨g, 0, none⟩) L L, .int .i64 (k : Int)] 99 (0, 0))
end Go.Proofs.Ytedjapamimhglaa
