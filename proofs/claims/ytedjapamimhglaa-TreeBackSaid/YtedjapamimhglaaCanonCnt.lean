/-
  Layer 3 (canon): what count answers, and left.
-/
import Derived.Test.YtedjapamimhglaaCanonTal
namespace Go.Proofs.Ytedjapamimhglaa
open Go.RowKit
theorem wpList_store_rowT {P : Program} {ops : Array Oper} {rest : List Oper} {o : Oper} {a : Act} {w : World} {Q : Exit → Act → World → Prop} (hgd : o.guard = none) (ty : TypeId) (x y : Operand) (ho : o.op = .store ty x y)
    (g : Nat) (cells : Array Value) (hx : a.eval x = .pointer (some ⟨g, 0, none⟩)) (hy : a.eval y = .agg cells)
    (t : TypeId) (old : Array Value) (hg : w.heap[g]? = some (.cells old t (0, 0))) (hi : (P.info? ty).map (·.size) = some cells.size)
    (hold : old.size = cells.size) (h1 : cells.all (·.oneCell') = true)
    (h : wpList P ops Q rest (a.put o.dst undef) (w.setRow g cells)) : wpList P ops Q (o :: rest) a w :=
  wpList_plain hgd fun _ hK => wp_store_row ty x y ho g cells hx hy t old hg hi hold h1 (hK _ _ h)
theorem below_setRowT {B : Nat} {a w : World} (h : Below B a w) {g : Nat} (hp : B ≤ g) (cs : Array Value) : Below B a (w.setRow g cs) :=
  ⟨h.os, h.tape, h.output, by rw [size_setRow]; exact h.size, fun k hk => (setRow_other w g k cs (by omega)).trans (h.block k hk)⟩
theorem Tal.setRow {w : World} {b : Nat} {g h : Nat → Nat} (ht : Tal w b g) : Tal (w.setRow b (talA h)) b h := setRow_heap w b _ _ _ _ ht
set_option maxRecDepth 100000 in
set_option maxHeartbeats 1000000 in
theorem count_any (w : World) (A : Option Addr) (n c : Nat) (f : Nat → Nat) (hr : RdB w w.heap.size A n f) (hn : n ≤ 1000000) (h15 : ∀ j, j < n → f j ≤ 15) :
    Calls Try.prog 38 #[.slice A n c] w fun e w' => e = .returned (.agg (talA fun m => tcN f m n)) ∧ Below w.heap.size w w' := by
  have hz := (zero_of_info infoTal).1
  have HR := Lib.hid hr; have H15 := Lib.hid h15
  clear hr h15
  go_enter Try.func38, Try.ntmps38
  go_wp2
  go_loopw [8] (fun i wr => ∃ k : Nat, k ≤ n ∧ i = .int .i64 k ∧ Tal wr w.heap.size zeroN ∧ Tal wr (w.heap.size + 1) (fun m => tcN f m k) ∧ w.heap.size + 1 < wr.heap.size ∧ Below w.heap.size w wr) (fun i _ => n - (intOf i).toNat)
  case atStart =>
    exact ⟨0, Nat.zero_le _, rfl, heap_alloc2_old w _ _, heap_alloc2_new w _ _, by simp, ((Below.refl _ _).alloc (Nat.le_refl _) _).alloc (by simp) _⟩
  case round =>
    obtain ⟨k, hk, rfl, h0, h1, hsz, hb⟩ := hrel
    by_cases hlt : k < n
    · obtain ⟨b, o, rfl, _, hc⟩ := (HR.out.below hb (Nat.le_refl _)).2 (by omega)
      have hcell := hc k hlt
      have hf := H15.out k hlt
      have hcn := cntN_le f (f k) k
      clear hc
      by_cases hp : 0 < f k
      · have c1 := h1.cell (show f k < 16 by omega)
        have f1 := h1.frozen (f k)
        have H0 := Lib.hid h0; have H1 := Lib.hid h1; have HB := Lib.hid hb
        have HS := Lib.hid (cnt_step hp)
        clear h0 h1 hb
        obtain ⟨q, hq⟩ : ∃ q, q = tcN f (f k) k := ⟨_, rfl⟩
        have HQ := Lib.hid hq
        rw [← hq] at c1 hcn
        clear hq
        go_wp2
        go_roundw
        case rel =>
          have hset := H1.out.set (f k) (q + 1)
          rw [HQ.out, HS.out] at hset
          refine ⟨k + 1, by omega, by go_num, H0.out.other (by simp) _, ?_, by simpa [World.setCell] using hsz, HB.out.setCell (by simp) _⟩
          rw [HQ.out]; exact hset
        case measure => simp [intOf]; omega
      · have hz0 : f k = 0 := by omega
        have hno : decide (0 < ((f k : Nat) : Int)) = false := by simp; omega
        have H0 := Lib.hid h0; have H1 := Lib.hid h1; have HB := Lib.hid hb
        have HS := Lib.hid (cnt_skip hz0)
        clear h0 h1 hb hz0
        go_wp2
        go_roundw
        case rel =>
          refine ⟨k + 1, by omega, by go_num, H0.out, ?_, hsz, HB.out⟩
          rw [← HS.out]; exact H1.out
        case measure => simp [intOf]; omega
    · obtain rfl : k = n := by omega
      have H0 := Lib.hid h0; have H1 := Lib.hid h1; have HB := Lib.hid hb
      clear h0 h1 hb hlt hk
      go_wp2_with (first
        | (refine wpList_load_row rfl _ _ rfl (w.heap.size + 1) rfl _ (talA fun m => tcN f m k) (0, 0) _ H1.out Try.underlying79 rfl (by rw [talA_size]; exact szTal) ?_)
        | (refine wpList_store_rowT rfl _ _ _ rfl w.heap.size (talA fun m => tcN f m k) rfl rfl _ (talA zeroN) H0.out (by rw [talA_size]; exact szTal) (by rw [talA_size, talA_size]) (talA_one _) ?_))
      refine bodyPost_ret (v := .agg (talA fun m => tcN f m k)) ?_ rfl ⟨rfl, below_setRowT HB.out (Nat.le_refl _) _⟩
      exact results_cell_row rfl _ _ w.heap.size _ _ (0, 0) _ rfl (H0.out.setRow (h := fun m => tcN f m k)) Try.underlying79 rfl (by rw [talA_size]; exact szTal)
set_option maxRecDepth 100000 in
set_option maxHeartbeats 1000000 in
theorem left_any (w : World) (t : Nat → Nat) (ht : ∀ m, t m ≤ 1000) :
    Calls Try.prog 53 #[.agg (talA t)] w fun e w' => e = .returned (.int .i64 (leftI t 15)) ∧ Below w.heap.size w w' := by
  have HT := Lib.hid ht
  clear ht
  go_enter Try.func53, Try.ntmps53
  go_wp2
  go_loopw [3, 8] (fun l i wr => ∃ k : Nat, k ≤ 15 ∧ i = .int .i64 k ∧ l = .int .i64 (leftI t k) ∧ Tal wr w.heap.size t ∧ Below w.heap.size w wr) (fun _ i _ => 15 - (intOf i).toNat)
  case atStart => exact ⟨0, by omega, rfl, rfl, heap_alloc_new w _, (Below.refl _ _).alloc (Nat.le_refl _) _⟩
  case round =>
    obtain ⟨k, hk, rfl, rfl, ht, hb⟩ := hrel
    have HS := Lib.hid (show leftI t (k + 1) = 2 * leftI t k - (t (k + 1) : Int) from rfl)
    have hbd := leftI_in HT.out (k := k) (by omega)
    obtain ⟨l, hl⟩ : ∃ l, l = leftI t k := ⟨_, rfl⟩
    have HL := Lib.hid hl
    rw [← hl] at hbd HS ⊢
    clear hl
    obtain ⟨hbd1, hbd2⟩ := hbd
    by_cases hlt : k < 15
    · have c1 := ht.cell (show 1 + k < 16 by omega)
      have hm := HT.out (1 + k)
      have H1 := Lib.hid ht; have HB := Lib.hid hb
      clear ht hb
      go_wp2
      go_roundw
      case rel => exact ⟨k + 1, by omega, by go_num, val_int (by rw [HS.out, Nat.add_comm 1 k]), H1.out, HB.out⟩
      case measure => simp [intOf]; omega
    · obtain rfl : k = 15 := by omega
      have HB := Lib.hid hb
      clear ht hb hlt hk
      go_wp2
      go_ret
      exact ⟨ret_int (by rw [HL.out]), HB.out⟩
end Go.Proofs.Ytedjapamimhglaa
