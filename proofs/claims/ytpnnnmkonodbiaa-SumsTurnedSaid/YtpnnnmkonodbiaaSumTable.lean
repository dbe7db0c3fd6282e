/-
  Layer 2 (sums): sums.Table and the document's own Table answer the same 256 numbers.
-/
import Derived.Test.YtpnnnmkonodbiaaSumTab
namespace Go.Proofs.Ytpnnnmkonodbiaa
open Go.RowKit
theorem wpList_store_row {P : Program} {ops : Array Oper} {rest : List Oper} {o : Oper} {a : Act} {w : World} {Q : Exit → Act → World → Prop} (hgd : o.guard = none) (ty : TypeId) (x y : Operand) (ho : o.op = .store ty x y)
    (g : Nat) (cells : Array Value) (hx : a.eval x = .pointer (some ⟨g, 0, none⟩)) (hy : a.eval y = .agg cells)
    (t : TypeId) (old : Array Value) (hg : w.heap[g]? = some (.cells old t (0, 0))) (hi : (P.info? ty).map (·.size) = some cells.size)
    (hold : old.size = cells.size) (h1 : cells.all (·.oneCell') = true)
    (h : wpList P ops Q rest (a.put o.dst undef) (w.setRow g cells)) : wpList P ops Q (o :: rest) a w :=
  wpList_plain hgd fun _ hK => wp_store_row ty x y ho g cells hx hy t old hg hi hold h1 (hK _ _ h)
theorem below_setRow {B : Nat} {a w : World} (h : Below B a w) {g : Nat} (hp : B ≤ g) (cs : Array Value) : Below B a (w.setRow g cs) :=
  ⟨h.os, h.tape, h.output, by rw [size_setRow]; exact h.size, fun k hk => (setRow_other w g k cs (by omega)).trans (h.block k hk)⟩
theorem Tab.setRow {w : World} {b : Nat} {g h : Nat → Nat} (ht : Tab w b g) : Tab (w.setRow b (tabA h)) b h := setRow_heap w b _ _ _ _ ht
/-- The table's step: the closure writes its variable. -/
theorem tstep_even (w : World) (b x : Nat) (hx : x < 4294967296) (h : w.heap[b]? = some (.cells #[.int .u32 (x : Int)] 22 (0, 0))) (h2 : ¬ x % 2 = 1) :
    Calls Try.prog 17 #[.pointer (some ⟨b, 0, none⟩)] w fun e w' => e = .returned (.tuple #[]) ∧ Below b w w' ∧ w'.heap[b]? = some (.cells #[.int .u32 (stepN x : Nat)] 22 (0, 0)) := by
  have c0 := cell_of_one h
  have f0 := free_of_one h
  have hr : ((x : Int) / 2) = ((stepN x : Nat) : Int) := by unfold stepN; rw [if_neg h2]; omega
  have H := Lib.hid hr; have HB := Lib.hid h; clear hr h
  have h1 : ((x : Int) % 2 == 1) = false := by simp; omega
  clear h2
  go_enter Try.func17, Try.ntmps17
  go_wp2
  go_end0
  refine ⟨rfl, (Below.refl b w).setCell (show b ≤ b from Nat.le_refl _) _, ?_⟩
  rw [← H.out]
  exact one_setCell HB.out
theorem tstep_odd (w : World) (b x : Nat) (hx : x < 4294967296) (h : w.heap[b]? = some (.cells #[.int .u32 (x : Int)] 22 (0, 0))) (h2 : x % 2 = 1) :
    Calls Try.prog 17 #[.pointer (some ⟨b, 0, none⟩)] w fun e w' => e = .returned (.tuple #[]) ∧ Below b w w' ∧ w'.heap[b]? = some (.cells #[.int .u32 (stepN x : Nat)] 22 (0, 0)) := by
  have c0 := cell_of_one h
  have f0 := free_of_one h
  have hr : bits .xor .u32 ((x : Int) / 2) 3988292384 = ((stepN x : Nat) : Int) := by
    have := u32_xor (x / 2) 3988292384 (by omega) (by omega)
    unfold stepN; rw [if_pos h2]; exact this
  have H := Lib.hid hr; have HB := Lib.hid h; clear hr h
  have h1 : ((x : Int) % 2 == 1) = true := by simp; omega
  clear h2
  go_enter Try.func17, Try.ntmps17
  go_wp2
  go_end0
  refine ⟨rfl, ((Below.refl b w).setCell (show b ≤ b from Nat.le_refl _) _).setCell (show b ≤ b from Nat.le_refl _) _, ?_⟩
  rw [← H.out]
  exact one_setCell (one_setCell HB.out)
theorem tstep_any (w : World) (b x : Nat) (hx : x < 4294967296) (h : w.heap[b]? = some (.cells #[.int .u32 (x : Int)] 22 (0, 0))) :
    Calls Try.prog 17 #[.pointer (some ⟨b, 0, none⟩)] w fun e w' => e = .returned (.tuple #[]) ∧ Below b w w' ∧ w'.heap[b]? = some (.cells #[.int .u32 (stepN x : Nat)] 22 (0, 0)) := by
  by_cases h2 : x % 2 = 1
  · exact tstep_odd w b x hx h h2
  · exact tstep_even w b x hx h h2
def partN (i j : Nat) : Nat := if j < i then rowN j else 0
theorem part_upd (i : Nat) : upd (partN i) i (rowN i) = partN (i + 1) := by
  funext j
  unfold upd partN
  by_cases h : j = i
  · subst h; rw [if_pos rfl, if_pos (by omega)]
  · rw [if_neg h]
    by_cases h2 : j < i
    · rw [if_pos h2, if_pos (by omega)]
    · rw [if_neg h2, if_neg (by omega)]
theorem part_full : tabA (partN 256) = tabA rowN := tabA_ext fun i hi => by unfold partN; rw [if_pos hi]
theorem part_none : tabA zero0 = tabA (partN 0) := tabA_ext fun _ _ => rfl
def OneV (w : World) (b : Nat) (x : Nat) : Prop := w.heap[b]? = some (.cells #[.int .u32 (x : Int)] 22 (0, 0))
set_option maxRecDepth 100000 in
set_option maxHeartbeats 1000000 in
theorem table_any (w : World) : Calls Try.prog 9 #[] w fun e w' => e = .returned (.agg (tabA rowN)) ∧ Below w.heap.size w w' := by
  have hz := (zero_of_info infoTab).1
  have hmf : ∀ (fn : Fn) (first cap : Array Value) (w : World), (Instr.makeFunc fn first cap).run Try.prog w = .ok (.func fn first cap) w := fun _ _ _ _ => rfl
  go_enter Try.func9, Try.ntmps9
  go_wp2
  rw [part_none]
  go_loopw [5] (fun i wr => ∃ k : Nat, k ≤ 256 ∧ i = .int .i64 k ∧ Tab wr w.heap.size (partN 0) ∧ Tab wr (w.heap.size + 1) (partN k) ∧ w.heap.size + 1 < wr.heap.size ∧ Below w.heap.size w wr) (fun i _ => 256 - (intOf i).toNat)
  case atStart =>
    exact ⟨0, Nat.zero_le _, rfl, heap_alloc2_old w _ _, heap_alloc2_new w _ _, by simp, ((Below.refl _ _).alloc (Nat.le_refl _) _).alloc (by simp) _⟩
  case round =>
    obtain ⟨k, hk, rfl, h0, h1, hsz, hb⟩ := hrel
    obtain ⟨wo, rfl⟩ : ∃ wo : World, wo = wr := ⟨_, rfl⟩
    by_cases hlt : k < 256
    · have hk0 : (k : Int) % 4294967296 = k := by omega
      have hd : decide ((k : Int) < 256) = true := by simp; omega
      have H0 := Lib.hid h0; have H1 := Lib.hid h1; have HB := Lib.hid hb
      clear h0 h1 hb
      go_wp2
      go_loopw [11] (fun m wi => ∃ j : Nat, j ≤ 8 ∧ m = .int .i64 j ∧ OneV wi wo.heap.size (stepsN k j) ∧ Below wo.heap.size wo wi) (fun m _ => 8 - (intOf m).toNat)
      case atStart => exact ⟨0, Nat.zero_le _, rfl, heap_alloc_new wo _, (Below.refl _ _).alloc (Nat.le_refl _) _⟩
      case round =>
        obtain ⟨j, hj, rfl, hv, hb2⟩ := hrel
        have hl := stepsN_lt (x := k) (by omega) j
        by_cases hlt2 : j < 8
        · have HV := Lib.hid hv; have HB2 := Lib.hid hb2
          clear hv hb2
          go_wp2_with (go_at_call 17; refine (tstep_any _ _ _ hl HV.out).mono ?_; rintro e w' ⟨rfl, hb3, hv3⟩)
          have HB3 := Lib.hid (HB2.out.trans hb3); have HV3 := Lib.hid hv3
          clear hb3 hv3
          go_wp2
          go_roundw
          case rel =>
            exact ⟨j + 1, by omega, by go_num, HV3.out, HB3.out⟩
          case measure => simp [intOf]; omega
        · obtain rfl : j = 8 := by omega
          clear hlt2 hj
          have c0 := cell_of_one hv
          have f1 := (H1.out.below hb2 hsz).frozen k
          have c1 := (H1.out.below hb2 hsz).cell hlt
          have HV := Lib.hid hv; have HB2 := Lib.hid hb2
          clear hv hb2 hl
          go_wp2
          go_roundw
          case rel =>
            have hk1 := H1.out.below HB2.out hsz
            have hset := hk1.set k (rowN k)
            rw [part_upd] at hset
            refine ⟨k + 1, by omega, by go_num, (H0.out.below HB2.out (by omega)).other (by simp) _, hset, ?_, ?_⟩
            · have := HB2.out.size; simp [World.setCell]; omega
            · exact (HB.out.trans (HB2.out.mono (by omega))).setCell (by simp) _
          case measure => simp [intOf]; omega
    · obtain rfl : k = 256 := by omega
      have H0 := Lib.hid h0; have H1 := Lib.hid h1; have HB := Lib.hid hb
      clear h0 h1 hb hlt hk
      go_wp2_with (first
        | (refine wpList_load_row rfl _ _ rfl (w.heap.size + 1) rfl _ (tabA (partN 256)) (0, 0) _ H1.out Try.underlying23 rfl (by rw [tabA_size]; exact szTab) ?_)
        | (refine wpList_store_row rfl _ _ _ rfl w.heap.size (tabA (partN 256)) rfl rfl _ (tabA (partN 0)) H0.out (by rw [tabA_size]; exact szTab) (by rw [tabA_size, tabA_size]) (tabA_one _) ?_))
      refine bodyPost_ret (v := .agg (tabA (partN 256))) ?_ rfl ⟨by rw [part_full], below_setRow HB.out (Nat.le_refl _) _⟩
      exact results_cell_row rfl _ _ w.heap.size _ _ (0, 0) _ rfl (H0.out.setRow (h := partN 256)) Try.underlying23 rfl (by rw [tabA_size]; exact szTab)
end Go.Proofs.Ytpnnnmkonodbiaa
