/-
  Layer 3 (canon): what begin and next do.
-/
import Derived.Test.YtedjapamimhglaaCanonChk
import Derived.StillTailTactics
import Derived.IntWalk
namespace Go.Proofs.Ytedjapamimhglaa
open Go.RowKit
/-- A tally of which the first k are begun. -/
def begN (t : Nat → Nat) (k m : Nat) : Nat := if m < k then fstN t m else t m
theorem beg_step (t : Nat → Nat) (k : Nat) : upd (begN t k) k (fstN t k) = begN t (k + 1) := by
  funext m
  unfold upd begN
  by_cases e : m = k
  · subst e; rw [if_pos rfl, if_pos (by omega)]
  · rw [if_neg e]
    by_cases h : m < k
    · rw [if_pos h, if_pos (by omega)]
    · rw [if_neg h, if_neg (by omega)]
theorem beg_at (t : Nat → Nat) (k : Nat) : begN t k k = t k := by unfold begN; rw [if_neg (by omega)]
theorem beg_none (t : Nat → Nat) : begN t 0 = t := by funext m; unfold begN; rw [if_neg (by omega)]
set_option maxRecDepth 100000 in
set_option maxHeartbeats 1000000 in
theorem tal_begin_any (w : World) (b : Nat) (t : Nat → Nat) (ht : ∀ m, t m ≤ 1000) (h : Tal w b t) :
    Calls Try.prog 39 #[.pointer (some ⟨b, 0, none⟩)] w fun e w' => e = .returned (.tuple #[]) ∧ Below b w w' ∧ Tal w' b (fstN t) := by
  have HT := Lib.hid ht
  rw [← beg_none t] at h
  have H0 := Lib.hid h
  clear ht h
  go_enter Try.func39, Try.ntmps39
  go_wp2
  go_loopw [2, 6] (fun l i wr => ∃ k : Nat, k ≤ 16 ∧ i = .int .i64 k ∧ l = .int .i64 (fstN t k : Nat) ∧ Tal wr b (begN t k) ∧ Below b w wr) (fun _ i _ => 16 - (intOf i).toNat)
  case atStart => exact ⟨0, by omega, rfl, rfl, H0.out, Below.refl _ _⟩
  case round =>
    obtain ⟨k, hk, rfl, rfl, ht, hb⟩ := hrel
    have hm := HT.out k
    have hbd := fstN_in HT.out hk
    have HS := Lib.hid (show fstN t (k + 1) = 2 * (fstN t k + t k) from rfl)
    have HST := Lib.hid (beg_step t k)
    obtain ⟨p, hp⟩ : ∃ p, p = fstN t k := ⟨_, rfl⟩
    have HP := Lib.hid hp
    rw [← hp] at hbd HS HST ⊢
    clear hp
    by_cases hlt : k < 16
    · have c1 := ht.cell hlt
      have f1 := ht.frozen k
      rw [beg_at] at c1
      have H1 := Lib.hid ht; have HB := Lib.hid hb
      clear ht hb
      go_wp2
      go_quiet (fail)
      go_wp2
      go_roundw
      case rel =>
        have hset := H1.out.set k p
        rw [HST.out] at hset
        exact ⟨k + 1, by omega, by go_num, val_int (by rw [HS.out]; omega), hset, (below_drawN HB.out _).setCell (by simp) _⟩
      case measure => simp [intOf]; omega
    · obtain rfl : k = 16 := by omega
      have H1 := Lib.hid ht; have HB := Lib.hid hb
      clear ht hb hlt hk
      go_wp2
      go_end0
      exact ⟨rfl, HB.out, H1.out.ext fun i hi => by unfold begN; rw [if_pos hi]⟩
set_option maxRecDepth 100000 in
set_option maxHeartbeats 1000000 in
theorem next_any (w : World) (b m : Nat) (t : Nat → Nat) (hm : m < 16) (ht : t m < 4294967296) (h : Tal w b t) :
    Calls Try.prog 40 #[.pointer (some ⟨b, 0, none⟩), .int .u8 (m : Int)] w fun e w' => e = .returned (.agg #[.int .u32 (t m : Nat), .int .u8 (m : Int)]) ∧ Below w.heap.size (w.setCell ⟨b, m, none⟩ (.int .i64 ((t m + 1 : Nat) : Int))) w' := by
  have c1 := h.cell hm
  have f1 := h.frozen m
  have hlt := h.lt
  have H := Lib.hid h
  obtain ⟨x, hx⟩ : ∃ x, x = t m := ⟨_, rfl⟩
  rw [← hx] at c1 ht ⊢
  have HX := Lib.hid hx
  clear h hx
  go_enter Try.func40, Try.ntmps40
  go_wp2
  have g1 : IntKind.i64.wrap ((x : Int) + 1) = ((x + 1 : Nat) : Int) := by rw [IntWalk.i64_in _ ⟨by omega, by omega⟩]; rfl
  refine wp_region_still_tail 8 (by kernel_rfl) (by kernel_rfl) ?_
  simp only [List.take_succ_cons, List.take_zero, List.drop_succ_cons, List.drop_zero]
  change wpStill _ _ (World.drew _) (fun a' => wpList _ _ _ _ a' (World.drew _)) _ _
  have hm2 : (m : Int) < 16 := by omega
  have hm0 : ¬ (m : Int) < 0 := by omega
  have hm4 : ¬ (16 : Int) ≤ m := by omega
  repeat still_step
  refine wpStill_nil ?_
  clear hm2 hm0 hm4
  go_wp2
  clear g1
  have hb : Below w.heap.size (w.setCell ⟨b, m, none⟩ (.int .i64 ((x : Int) + 1))) (w.setCell ⟨b, m, none⟩ (.int .i64 ((x : Int) + 1))) := Below.refl _ _
  have hs : (w.setCell ⟨b, m, none⟩ (.int .i64 ((x : Int) + 1))).heap.size = w.heap.size := by simp [World.setCell]
  exact bodyPost_ret (v := .agg #[.int .u32 (x : Int), .int .u8 (m : Int)]) (by simp [results, Try.results40, go_sem]) rfl ⟨rfl, ((hb.alloc (by omega) _).alloc (by rw [World.size_alloc]; omega) _).drew⟩
end Go.Proofs.Ytedjapamimhglaa
