/-
  Layer 10 (runs): the chapter's first runs.
-/
import Derived.Test.YtgkbnmknlmapdaaRunImpl
namespace Go.Proofs.Ytgkbnmknlmapdaa
open Go.RowKit Go.ChangeShapes Go.WideShapes Go.ChangeAt Go.Joins
set_option maxRecDepth 100000 in
set_option maxHeartbeats 2000000 in
theorem is10_any (w : World) (A : Option Addr) (n c : Nat) (f : Nat → Nat) (A2 : Option Addr) (m c2 : Nat) (l : List (Int × Int)) (hr : ByR w w.heap.size A n c f) (hr2 : RdU w w.heap.size A2 l) (hm : m = l.length) (hn : m ≤ 1000) (he : sqE f n = 0) (hv : sqV f n = l) :
    Calls Try.prog 8 #[.slice A n c, .slice A2 m c2] w fun e w' => e = .returned (.bool true) ∧ Below w.heap.size w w' := by
  have hs := sq10_any w A n c f hr
  rw [he, hv] at hs
  have HS := Lib.hid hs; have HR2 := Lib.hid hr2; have HM := Lib.hid hm
  have hmm : ((m : Int) != (m : Int)) = false := by simp
  clear hs hr hr2 he hv hm
  go_enter Try.func8, Try.ntmps8
  go_wp2_with fail
  refine HS.out.mono ?_
  rintro e w1 ⟨A', n', c', rfl, hru, hb1⟩
  obtain rfl : n' = m := hru.1.trans HM.out.symm
  have HRU := Lib.hid hru.2.1; have HB1 := Lib.hid hb1
  have HR3 := Lib.hid ((HR2.out.below hb1 (Nat.le_refl _)).more hb1.size)
  clear hru hb1 HR2
  go_wp2
  go_loopw [7] (fun iv wr => ∃ i : Nat, i ≤ n' ∧ iv = .int .i64 (i : Int) ∧ Hid (∃ q, wr = w1.drewN q)) (fun iv _ => n' - (intOf iv).toNat)
  case atStart => exact ⟨0, Nat.zero_le _, rfl, Lib.hid ⟨0, rfl⟩⟩
  case round =>
    obtain ⟨i, hi, rfl, HD⟩ := hrel
    have h1 : Hid (RdU wr w1.heap.size A' l) := Lib.hid (by obtain ⟨q, hq⟩ := HD.out; rw [hq]; exact HRU.out)
    have h2 : Hid (RdU wr w1.heap.size A2 l) := Lib.hid (by obtain ⟨q, hq⟩ := HD.out; rw [hq]; exact HR3.out)
    by_cases hlt : i < n'
    · have hlti : (i : Int) < (n' : Int) := by omega
      have hi0 : (0 : Int) ≤ (i : Int) := by omega
      have hil : i < l.length := by rw [← HM.out]; exact hlt
      obtain ⟨b, o, rfl, _, _⟩ := h1.out.at hil
      obtain ⟨b2, o2, rfl, _, _⟩ := h2.out.at hil
      have r1 := h1.out.range rfl hil
      have r2 := h2.out.range rfl hil
      obtain ⟨t, ht⟩ : ∃ t, t = l.getD i run0 := ⟨_, rfl⟩
      rw [← ht] at r1 r2
      have R1 : Hid (∀ V, (∃ q, V = wr.drewN q) → V.rangeAt b (o + i * 2) (runC t)) := Lib.hid fun V hV => by obtain ⟨q, rfl⟩ := hV; exact r1
      have R2 : Hid (∀ V, (∃ q, V = wr.drewN q) → V.rangeAt b2 (o2 + i * 2) (runC t)) := Lib.hid fun V hV => by obtain ⟨q, rfl⟩ := hV; exact r2
      clear r1 r2 ht hil
      go_wp2
      refine wp_region_quiet_lit (by kernel_rfl) (by kernel_rfl) ?_
      repeat (first
        | (go_big_quiet_want; with_reducible refine quiet_load_row _ _ rfl _ _ rfl _ _ R1.out Try.underlying25 rfl (szRunC t) ?_; go_big_quiet_on; simp only [Act.put, List.setIfInBounds_toArray, List.set_cons_succ, List.set_cons_zero])
        | (go_big_quiet_want; with_reducible refine quiet_load_row _ _ rfl _ _ rfl _ _ R2.out Try.underlying25 rfl (szRunC t) ?_; go_big_quiet_on; simp only [Act.put, List.setIfInBounds_toArray, List.set_cons_succ, List.set_cons_zero])
        | (go_big_quiet_want; with_reducible refine quiet_neq _ _ _ rfl (.agg (runC t).toArray) (.agg (runC t).toArray) false rfl rfl (fun w => run_eqGuard_agg _ _ _ _ _ _ _ guardRun) (fun w => run_neq_run w t) ?_; go_big_quiet_on; simp only [Act.put, List.setIfInBounds_toArray, List.set_cons_succ, List.set_cons_zero])
        | go_big_quiet_step (fail))
      refine wpQuiet_nil ?_
      rintro V ⟨q, rfl⟩
      go_wp2
      go_roundw
      case rel => exact ⟨i + 1, by omega, by go_num, Lib.hid (by obtain ⟨p, hp⟩ := HD.out; exact ⟨p + q, by rw [hp, World.drewN_drewN]⟩)⟩
      case measure => simp [intOf]; omega
    · obtain rfl : i = n' := by omega
      have hlti : ¬ (i : Int) < (i : Int) := by omega
      have hb : Below w.heap.size w wr := by obtain ⟨q, hq⟩ := HD.out; rw [hq]; exact ⟨HB1.out.os, HB1.out.tape, HB1.out.output, HB1.out.size, HB1.out.block⟩
      have HB := Lib.hid hb
      clear hb
      go_wp2
      go_ret
      exact ⟨rfl, HB.out⟩
def f8U (j : Nat) : Nat := [5, 5, 5, 5, 0, 0, 0, 7].getD j 0
theorem f8_runs : sqE f8U 8 = 0 ∧ sqV f8U 8 = [(5, 0), (16, 0), (17, 0), (7, 0)] := by decide
theorem f8_lt (j : Nat) : f8U j < 256 := by
  rcases Nat.lt_or_ge j 8 with h | h
  · exact (List.all_eq_true.1 (show ((List.range 8).all fun j => decide (f8U j < 256)) = true by decide) j (List.mem_range.2 h)) |> of_decide_eq_true
  · unfold f8U; rw [List.getD_eq_getElem?_getD, List.getElem?_eq_none (by simpa using h)]; decide
theorem rd_lit {w : World} {b n : Nat} {xs : Array Value} {t : TypeId} {f : Nat → Nat} (hf : ∀ j, f j < 256) (h : w.heap[b]? = some (.cells xs t (0, 0))) (hx : ∀ j, j < n → xs[j]? = some (.int .u8 (f j : Int))) : RdB w w.heap.size (some ⟨b, 0, none⟩) n f := by
  refine ⟨hf, fun _ => ⟨b, 0, rfl, (Array.getElem?_eq_some_iff.1 h).1, fun j hj => ?_⟩⟩
  rw [cell_of_row w b _ _ _ (0, 0) h, Nat.zero_add]
  exact hx j hj
set_option maxRecDepth 100000 in
set_option maxHeartbeats 2000000 in
theorem aliveU_any (w : World) : Calls Try.prog 12 #[] w fun e w' => e = .returned (.bool true) ∧ Below w.heap.size w w' := by
  obtain ⟨W1, hW1⟩ : ∃ W1, W1 = w.alloc (.cells #[.int .u8 5, .int .u8 5, .int .u8 5, .int .u8 5, .int .u8 0, .int .u8 0, .int .u8 0, .int .u8 7] 5) := ⟨_, rfl⟩
  obtain ⟨W2, hW2⟩ : ∃ W2, W2 = W1.alloc (.cells #[.int .i64 5, .int .i64 0, .int .i64 16, .int .i64 0, .int .i64 17, .int .i64 0, .int .i64 7, .int .i64 0] 25) := ⟨_, rfl⟩
  have hs1 : W1.heap.size = w.heap.size + 1 := by rw [hW1]; simp
  have hb : Below w.heap.size w W2 := by rw [hW2]; exact Below.alloc (by rw [hW1]; exact (Below.refl _ _).alloc (Nat.le_refl _) _) (by omega) _
  have hrow : W2.heap[w.heap.size]? = some (.cells #[.int .u8 5, .int .u8 5, .int .u8 5, .int .u8 5, .int .u8 0, .int .u8 0, .int .u8 0, .int .u8 7] 5 (0, 0)) := by
    rw [hW2]; exact (Below.heap_alloc _ _ _ (by omega)).trans (by rw [hW1]; exact heap_alloc_new w _)
  have hby : ByR W2 W2.heap.size (some ⟨w.heap.size, 0, none⟩) 8 8 f8U := ⟨rd_lit f8_lt hrow (fun j hj => by
    match j, hj with
    | 0, _ => rfl
    | 1, _ => rfl
    | 2, _ => rfl
    | 3, _ => rfl
    | 4, _ => rfl
    | 5, _ => rfl
    | 6, _ => rfl
    | 7, _ => rfl), (fun h => by cases h), Nat.le_refl _, by unfold maxLen; omega⟩
  have hru : RdU W2 W2.heap.size (some ⟨w.heap.size + 1, 0, none⟩) [(5, 0), (16, 0), (17, 0), (7, 0)] := by
    have h := SrcL.new W1 2 4 #[.int .i64 5, .int .i64 0, .int .i64 16, .int .i64 0, .int .i64 17, .int .i64 0, .int .i64 7, .int .i64 0] 25 rfl
    rw [hs1, ← hW2] at h
    exact h
  have HI := Lib.hid (is10_any W2 _ 8 8 f8U _ 4 4 _ hby hru rfl (by omega) f8_runs.1 f8_runs.2)
  have HB := Lib.hid hb; have HW1 := Lib.hid hW1; have HW2 := Lib.hid hW2
  clear hb hW1 hW2 hs1 hrow hby hru
  go_enter Try.func12, Try.ntmps12
  go_wp2_with fail
  rw [← HW1.out, ← HW2.out]
  refine HI.out.mono ?_
  rintro e w3 ⟨rfl, hb3⟩
  have HB3 := Lib.hid (HB.out.trans (hb3.mono HB.out.size))
  clear hb3
  go_wp2
  go_ret
  exact ⟨rfl, HB3.out⟩
end Go.Proofs.Ytgkbnmknlmapdaa
