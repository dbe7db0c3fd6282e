/-
  Layer 9 (reach): the document's own answers, whole.
-/
import Derived.Test.YtdecacajignkoaaReaRef
import Derived.BigRegion
import Derived.BigQuiet
namespace Go.Proofs.Ytdecacajignkoaa
open Go.RowKit
theorem decN {p : Prop} [Decidable p] (h : ¬ p) : decide p = false := by simp [h]
theorem decY {p : Prop} [Decidable p] (h : p) : decide p = true := by simp [h]
def p2N (k : Nat) : Nat := 2 ^ k
theorem p2N_le {k : Nat} (h : k ≤ 20) : p2N k ≤ 1048576 := by
  have := Nat.pow_le_pow_right (n := 2) (by omega) h
  exact this
set_option maxRecDepth 100000 in
set_option maxHeartbeats 1000000 in
theorem rpower9_any (w : World) (n : Nat) (hn : n ≤ 20) : Calls Try.prog 30 #[.int .i64 (n : Int)] w fun e w' => e = .returned (.int .i64 (p2N n : Int)) ∧ w = w' := by
  go_enter Try.func30, Try.ntmps30
  go_wp2
  go_loopw [3, 4] (fun pv iv wr => ∃ i q : Nat, i ≤ n ∧ q ≤ 1048576 ∧ iv = .int .i64 (i : Int) ∧ pv = .int .i64 (q : Int) ∧ Hid (q = p2N i) ∧ w = wr) (fun _ iv _ => n - (intOf iv).toNat)
  case atStart => exact ⟨0, 1, Nat.zero_le _, by omega, rfl, rfl, Lib.hid rfl, rfl⟩
  case round =>
    obtain ⟨i, q, hi, hq, rfl, rfl, HQ, rfl⟩ := hrel
    by_cases hlt : i < n
    · have hlti : (i : Int) < (n : Int) := by omega
      have hq2 : 2 * q = p2N (i + 1) := by rw [HQ.out]; unfold p2N; rw [Nat.pow_succ]; omega
      have hq3 : 2 * q ≤ 1048576 := by rw [hq2]; exact p2N_le (by omega)
      obtain ⟨r, hr⟩ : ∃ r, r = 2 * q := ⟨_, rfl⟩
      have er : (2 : Int) * (q : Int) = (r : Int) := by omega
      rw [← hr] at hq2 hq3
      have HQ2 := Lib.hid hq2
      clear hr hq2
      go_wp2
      go_roundw
      case rel => exact ⟨i + 1, r, by omega, hq3, by go_num, by go_num, HQ2, trivial⟩
      case measure => simp [intOf]; omega
    · obtain rfl : i = n := by omega
      have hlti : ¬ (i : Int) < (i : Int) := by omega
      have hq := HQ.out
      subst hq
      go_wp2
      go_ret
      exact ⟨rfl, rfl⟩
/-- Two variables, made, then written. -/
def twoV (w : World) (z p q : Array Value) (t : TypeId) : World := (((w.alloc (.cells z t)).alloc (.cells z t)).setRow w.heap.size p).setRow (w.heap.size + 1) q
theorem two_rows (w : World) (z p q : Array Value) (t : TypeId) : ((w.alloc (.cells z t)).alloc (.cells z t)).heap[w.heap.size]? = some (.cells z t (0, 0)) ∧ (((w.alloc (.cells z t)).alloc (.cells z t)).setRow w.heap.size p).heap[w.heap.size + 1]? = some (.cells z t (0, 0)) ∧
    (twoV w z p q t).heap[w.heap.size]? = some (.cells p t (0, 0)) ∧ (twoV w z p q t).heap[w.heap.size + 1]? = some (.cells q t (0, 0)) ∧ Below w.heap.size w (twoV w z p q t) := by
  have h1 : ((w.alloc (.cells z t)).alloc (.cells z t)).heap[w.heap.size]? = some (.cells z t (0, 0)) := (Below.heap_alloc _ _ _ (by simp)).trans (heap_alloc_new w _)
  have h2 : ((w.alloc (.cells z t)).alloc (.cells z t)).heap[w.heap.size + 1]? = some (.cells z t (0, 0)) := by
    have := heap_alloc_new (w.alloc (.cells z t)) (.cells z t)
    rw [World.size_alloc] at this; exact this
  have h3 := (setRow_other ((w.alloc (.cells z t)).alloc (.cells z t)) w.heap.size (w.heap.size + 1) p (by omega)).trans h2
  refine ⟨h1, h3, ?_, setRow_heap _ _ _ _ _ _ h3, ?_⟩
  · exact (setRow_other _ _ _ _ (by omega)).trans (setRow_heap _ _ _ _ _ _ h1)
  · exact below_row9 (below_row9 (((Below.refl _ _).alloc (Nat.le_refl _) _).alloc (by simp) _) (Nat.le_refl _) _) (by omega) _
set_option maxRecDepth 100000 in
set_option maxHeartbeats 4000000 in
theorem rlong9_any (w : World) (n : Int) : Calls Try.prog 16 #[.int .i64 n] w fun e w' => e = .returned (.tuple #[.int .i64 (lgS n), .int .i64 (lgB n), .int .i64 (lgX n), .int .i64 (lgE n)]) ∧ Below w.heap.size w w' := by
  by_cases y0 : n < 3
  · have e1 : lgS n = 0 := if_neg (by omega)
    have e2 : lgB n = 0 := if_neg (by omega)
    have e3 : lgX n = 0 := if_neg (by omega)
    have e4 : lgE n = 2 := if_neg (by omega)
    rw [e1, e2, e3, e4]
    have d0 : decide (n < 3) = true := decY y0
    clear e1 e2 e3 e4
    go_enter Try.func16, Try.ntmps16
    go_wp2
    refine bodyPost_ret (results_tmp4 rfl _ _ _) rfl ?_
    exact ⟨rfl, Below.refl _ _⟩
  have d0 : decide (n < 3) = false := decN y0
  by_cases y1 : 258 < n
  · have e1 : lgS n = 0 := if_neg (by omega)
    have e2 : lgB n = 0 := if_neg (by omega)
    have e3 : lgX n = 0 := if_neg (by omega)
    have e4 : lgE n = 2 := if_neg (by omega)
    rw [e1, e2, e3, e4]
    have d1 : decide (258 < n) = true := decY y1
    clear e1 e2 e3 e4
    go_enter Try.func16, Try.ntmps16
    go_wp2
    refine bodyPost_ret (results_tmp4 rfl _ _ _) rfl ?_
    exact ⟨rfl, Below.refl _ _⟩
  have d1 : decide (258 < n) = false := decN y1
  obtain ⟨m, rfl⟩ := Int.eq_ofNat_of_zero_le (show 0 ≤ n by omega)
  have hk : 3 ≤ (m : Int) ∧ (m : Int) ≤ 258 := by omega
  have hz := (zero_of_info inforlongs).1
  obtain ⟨I, hI⟩ : ∃ I, I = atN longT m 29 := ⟨_, rfl⟩
  obtain ⟨q1, q2, q3⟩ := atN_spec (T := longT) (n := m) (show 3 ≤ m by omega) 29 (by omega)
  rw [← hI] at q1 q2
  have e1 : lgS (m : Int) = (((257 + I : Nat)) : Int) := by unfold lgS lgI; rw [if_pos hk, Int.toNat_natCast, ← hI]
  have e2 : lgB (m : Int) = ((longX I : Nat) : Int) := by unfold lgB lgI; rw [if_pos hk, Int.toNat_natCast, ← hI]
  have e3 : lgX (m : Int) = ((m - longT I : Nat) : Int) := by
    unfold lgX lgI; rw [if_pos hk, Int.toNat_natCast, ← hI]
  have e4 : lgE (m : Int) = 0 := if_pos hk
  obtain ⟨tI, htI⟩ : ∃ tI, tI = longT I := ⟨_, rfl⟩
  obtain ⟨xI, hxI⟩ : ∃ xI, xI = longX I := ⟨_, rfl⟩
  obtain ⟨uI, huI⟩ : ∃ uI, uI = m - longT I := ⟨_, rfl⟩
  obtain ⟨sI, hsI⟩ : ∃ sI, sI = 257 + I := ⟨_, rfl⟩
  rw [← hsI] at e1; rw [← hxI] at e2; rw [← huI] at e3
  rw [← htI] at huI q2
  rw [e1, e2, e3, e4]
  have hm3 : m ≤ 258 := by omega
  have HTI := Lib.hid htI; have HXI := Lib.hid hxI; have HUI := Lib.hid huI; have HSI := Lib.hid hsI
  clear htI hxI huI hsI
  have HI := Lib.hid hI; have HQ2 := Lib.hid q2; have HLO := Lib.hid (rlongs_any w)
  clear q3 e1 e2 e3 e4 hI q2
  go_enter Try.func16, Try.ntmps16
  go_wp2_with fail
  refine HLO.out.mono ?_
  rintro e w1 ⟨rfl, hb1⟩
  obtain ⟨t1, t2, t3, t4, t5⟩ := two_rows w1 (tblA (fun _ => 0) 29) (tblA (fun i => (longT i : Int)) 29) (tblA (fun i => (longX i : Int)) 29) 43
  obtain ⟨V, hV⟩ : ∃ V, V = twoV w1 (tblA (fun _ => 0) 29) (tblA (fun i => (longT i : Int)) 29) (tblA (fun i => (longX i : Int)) 29) 43 := ⟨_, rfl⟩
  rw [← hV] at t3 t4 t5
  have TA := Lib.hid t1; have TB := Lib.hid t2; have TC := Lib.hid t3; have TD := Lib.hid t4; have HBV := Lib.hid (hb1.trans (t5.mono hb1.size)); have HV := Lib.hid hV
  obtain ⟨b, hb⟩ : ∃ b, b = w1.heap.size := ⟨_, rfl⟩
  have HB := Lib.hid hb
  clear t1 t2 t3 t4 t5 hb1 hV hb
  go_wp2_with (first
    | (refine wpList_store_rowTo rfl _ _ _ rfl rfl w1.heap.size (tblA (fun i => (longT i : Int)) 29) rfl rfl 43 (tblA (fun _ => 0) 29) TA.out (szA29 _) (by rw [tblA_size, tblA_size]) (tblA_one _ _) ?_)
    | (refine wpList_store_rowTo rfl _ _ _ rfl rfl (w1.heap.size + 1) (tblA (fun i => (longX i : Int)) 29) rfl rfl 43 (tblA (fun _ => 0) 29) TB.out (szA29 _) (by rw [tblA_size, tblA_size]) (tblA_one _ _) ?_; change wpList _ _ _ _ _ (twoV w1 (tblA (fun _ => 0) 29) (tblA (fun i => (longT i : Int)) 29) (tblA (fun i => (longX i : Int)) 29) 43); rw [← HV.out]))
  rw [← HB.out]
  have TC2 : Hid (V.heap[b]? = some (.cells (tblA (fun i => (longT i : Int)) 29) 43 (0, 0))) := Lib.hid (by rw [HB.out]; exact TC.out)
  have TD2 : Hid (V.heap[b + 1]? = some (.cells (tblA (fun i => (longX i : Int)) 29) 43 (0, 0))) := Lib.hid (by rw [HB.out]; exact TD.out)
  clear TC TD TA TB hz
  go_loopw [8, 9] (fun av iv wr => ∃ i a : Nat, i ≤ 29 ∧ a ≤ 29 ∧ iv = .int .i64 (i : Int) ∧ av = .int .i64 (a : Int) ∧ Hid (a = atN longT m i) ∧ V = wr) (fun _ iv _ => 29 - (intOf iv).toNat)
  case atStart => exact ⟨0, 0, Nat.zero_le _, Nat.zero_le _, rfl, rfl, Lib.hid rfl, rfl⟩
  case round =>
    obtain ⟨i, a, hi, ha, rfl, rfl, HA, rfl⟩ := hrel
    by_cases hlt : i < 29
    · have hlti : (i : Int) < 29 := by omega
      have c1 : V.cell? ⟨b, i, none⟩ = some (.int .i64 ((longT i : Nat) : Int)) := tbl_cell TC2.out hlt
      have hst : atN longT m (i + 1) = if longT i ≤ m then i else atN longT m i := rfl
      obtain ⟨t, ht⟩ : ∃ t, t = longT i := ⟨_, rfl⟩
      rw [← ht] at c1 hst
      clear ht
      by_cases htm : t ≤ m
      · have dt : decide ((t : Int) ≤ (m : Int)) = true := decY (by omega)
        have dt2 : decide (t ≤ m) = true := decY htm
        rw [if_pos htm] at hst
        have HST := Lib.hid hst
        clear hst
        go_wp2
        go_roundw
        case rel => exact ⟨i + 1, i, by omega, by omega, by go_num, rfl, Lib.hid HST.out.symm, trivial⟩
        case measure => simp [intOf]; omega
      · have dt : decide ((t : Int) ≤ (m : Int)) = false := decN (by omega)
        have dt2 : decide (t ≤ m) = false := decN htm
        rw [if_neg htm, ← HA.out] at hst
        have HST := Lib.hid hst
        clear hst
        go_wp2
        go_roundw
        case rel => exact ⟨i + 1, a, by omega, by omega, by go_num, rfl, Lib.hid HST.out.symm, trivial⟩
        case measure => simp [intOf]; omega
    · obtain rfl : i = 29 := by omega
      have hlti : ¬ ((29 : Nat) : Int) < 29 := by omega
      obtain rfl : a = I := HA.out.trans HI.out.symm
      have c1 : V.drew.cell? ⟨b, a, none⟩ = some (.int .i64 (tI : Int)) := by rw [HTI.out]; exact tbl_cell TC2.out q1
      have c2 : V.drew.cell? ⟨b + 1, a, none⟩ = some (.int .i64 (xI : Int)) := by rw [HXI.out]; exact tbl_cell TD2.out q1
      have c3 : V.cell? ⟨b, a, none⟩ = some (.int .i64 (tI : Int)) := c1
      have c4 : V.cell? ⟨b + 1, a, none⟩ = some (.int .i64 (xI : Int)) := c2
      have w1 : IntKind.i64.wrap ((m : Int) - (tI : Int)) = (uI : Int) := by rw [IntKind.wrap_i64]; have := HUI.out; have := HQ2.out; omega
      have w2 : IntKind.i64.wrap (257 + (a : Int)) = (sI : Int) := by rw [IntKind.wrap_i64]; have := HSI.out; omega
      have ha1 : (a : Int) < 29 := by omega
      have ha0 : ¬ (a : Int) < 0 := by omega
      have ha2 : ¬ (29 : Int) ≤ (a : Int) := by omega
      go_wp2
      go_region
      all_goals (
        go_wp2
        refine bodyPost_ret (results_tmp4 rfl _ _ _) rfl ?_
        exact ⟨rfl, Below.drew HBV.out⟩)
set_option maxRecDepth 100000 in
set_option maxHeartbeats 4000000 in
theorem rfar9_any (w : World) (n : Int) : Calls Try.prog 17 #[.int .i64 n] w fun e w' => e = .returned (.tuple #[.int .i64 (frS n), .int .i64 (frB n), .int .i64 (frX n), .int .i64 (frE n)]) ∧ Below w.heap.size w w' := by
  by_cases y0 : n < 1
  · have e1 : frS n = 0 := if_neg (by omega)
    have e2 : frB n = 0 := if_neg (by omega)
    have e3 : frX n = 0 := if_neg (by omega)
    have e4 : frE n = 2 := if_neg (by omega)
    rw [e1, e2, e3, e4]
    have d0 : decide (n < 1) = true := decY y0
    clear e1 e2 e3 e4
    go_enter Try.func17, Try.ntmps17
    go_wp2
    refine bodyPost_ret (results_tmp4 rfl _ _ _) rfl ?_
    exact ⟨rfl, Below.refl _ _⟩
  have d0 : decide (n < 1) = false := decN y0
  by_cases y1 : 32768 < n
  · have e1 : frS n = 0 := if_neg (by omega)
    have e2 : frB n = 0 := if_neg (by omega)
    have e3 : frX n = 0 := if_neg (by omega)
    have e4 : frE n = 2 := if_neg (by omega)
    rw [e1, e2, e3, e4]
    have d1 : decide (32768 < n) = true := decY y1
    clear e1 e2 e3 e4
    go_enter Try.func17, Try.ntmps17
    go_wp2
    refine bodyPost_ret (results_tmp4 rfl _ _ _) rfl ?_
    exact ⟨rfl, Below.refl _ _⟩
  have d1 : decide (32768 < n) = false := decN y1
  obtain ⟨m, rfl⟩ := Int.eq_ofNat_of_zero_le (show 0 ≤ n by omega)
  have hk : 1 ≤ (m : Int) ∧ (m : Int) ≤ 32768 := by omega
  have hz := (zero_of_info inforfars).1
  obtain ⟨I, hI⟩ : ∃ I, I = atN farT m 30 := ⟨_, rfl⟩
  obtain ⟨q1, q2, q3⟩ := atN_spec (T := farT) (n := m) (show 1 ≤ m by omega) 30 (by omega)
  rw [← hI] at q1 q2
  have e1 : frS (m : Int) = (((I : Nat)) : Int) := by unfold frS frI; rw [if_pos hk, Int.toNat_natCast, ← hI]
  have e2 : frB (m : Int) = ((farX I : Nat) : Int) := by unfold frB frI; rw [if_pos hk, Int.toNat_natCast, ← hI]
  have e3 : frX (m : Int) = ((m - farT I : Nat) : Int) := by
    unfold frX frI; rw [if_pos hk, Int.toNat_natCast, ← hI]
  have e4 : frE (m : Int) = 0 := if_pos hk
  obtain ⟨tI, htI⟩ : ∃ tI, tI = farT I := ⟨_, rfl⟩
  obtain ⟨xI, hxI⟩ : ∃ xI, xI = farX I := ⟨_, rfl⟩
  obtain ⟨uI, huI⟩ : ∃ uI, uI = m - farT I := ⟨_, rfl⟩
  obtain ⟨sI, hsI⟩ : ∃ sI, sI = I := ⟨_, rfl⟩
  rw [← hsI] at e1; rw [← hxI] at e2; rw [← huI] at e3
  rw [← htI] at huI q2
  rw [e1, e2, e3, e4]
  have hm3 : m ≤ 32768 := by omega
  have HTI := Lib.hid htI; have HXI := Lib.hid hxI; have HUI := Lib.hid huI; have HSI := Lib.hid hsI
  clear htI hxI huI hsI
  have HI := Lib.hid hI; have HQ2 := Lib.hid q2; have HLO := Lib.hid (rfars_any w)
  clear q3 e1 e2 e3 e4 hI q2
  go_enter Try.func17, Try.ntmps17
  go_wp2_with fail
  refine HLO.out.mono ?_
  rintro e w1 ⟨rfl, hb1⟩
  obtain ⟨t1, t2, t3, t4, t5⟩ := two_rows w1 (tblA (fun _ => 0) 30) (tblA (fun i => (farT i : Int)) 30) (tblA (fun i => (farX i : Int)) 30) 46
  obtain ⟨V, hV⟩ : ∃ V, V = twoV w1 (tblA (fun _ => 0) 30) (tblA (fun i => (farT i : Int)) 30) (tblA (fun i => (farX i : Int)) 30) 46 := ⟨_, rfl⟩
  rw [← hV] at t3 t4 t5
  have TA := Lib.hid t1; have TB := Lib.hid t2; have TC := Lib.hid t3; have TD := Lib.hid t4; have HBV := Lib.hid (hb1.trans (t5.mono hb1.size)); have HV := Lib.hid hV
  obtain ⟨b, hb⟩ : ∃ b, b = w1.heap.size := ⟨_, rfl⟩
  have HB := Lib.hid hb
  clear t1 t2 t3 t4 t5 hb1 hV hb
  go_wp2_with (first
    | (refine wpList_store_rowTo rfl _ _ _ rfl rfl w1.heap.size (tblA (fun i => (farT i : Int)) 30) rfl rfl 46 (tblA (fun _ => 0) 30) TA.out (szA30 _) (by rw [tblA_size, tblA_size]) (tblA_one _ _) ?_)
    | (refine wpList_store_rowTo rfl _ _ _ rfl rfl (w1.heap.size + 1) (tblA (fun i => (farX i : Int)) 30) rfl rfl 46 (tblA (fun _ => 0) 30) TB.out (szA30 _) (by rw [tblA_size, tblA_size]) (tblA_one _ _) ?_; change wpList _ _ _ _ _ (twoV w1 (tblA (fun _ => 0) 30) (tblA (fun i => (farT i : Int)) 30) (tblA (fun i => (farX i : Int)) 30) 46); rw [← HV.out]))
  rw [← HB.out]
  have TC2 : Hid (V.heap[b]? = some (.cells (tblA (fun i => (farT i : Int)) 30) 46 (0, 0))) := Lib.hid (by rw [HB.out]; exact TC.out)
  have TD2 : Hid (V.heap[b + 1]? = some (.cells (tblA (fun i => (farX i : Int)) 30) 46 (0, 0))) := Lib.hid (by rw [HB.out]; exact TD.out)
  clear TC TD TA TB hz
  go_loopw [8, 9] (fun av iv wr => ∃ i a : Nat, i ≤ 30 ∧ a ≤ 30 ∧ iv = .int .i64 (i : Int) ∧ av = .int .i64 (a : Int) ∧ Hid (a = atN farT m i) ∧ V = wr) (fun _ iv _ => 30 - (intOf iv).toNat)
  case atStart => exact ⟨0, 0, Nat.zero_le _, Nat.zero_le _, rfl, rfl, Lib.hid rfl, rfl⟩
  case round =>
    obtain ⟨i, a, hi, ha, rfl, rfl, HA, rfl⟩ := hrel
    by_cases hlt : i < 30
    · have hlti : (i : Int) < 30 := by omega
      have c1 : V.cell? ⟨b, i, none⟩ = some (.int .i64 ((farT i : Nat) : Int)) := tbl_cell TC2.out hlt
      have hst : atN farT m (i + 1) = if farT i ≤ m then i else atN farT m i := rfl
      obtain ⟨t, ht⟩ : ∃ t, t = farT i := ⟨_, rfl⟩
      rw [← ht] at c1 hst
      clear ht
      by_cases htm : t ≤ m
      · have dt : decide ((t : Int) ≤ (m : Int)) = true := decY (by omega)
        have dt2 : decide (t ≤ m) = true := decY htm
        rw [if_pos htm] at hst
        have HST := Lib.hid hst
        clear hst
        go_wp2
        go_roundw
        case rel => exact ⟨i + 1, i, by omega, by omega, by go_num, rfl, Lib.hid HST.out.symm, trivial⟩
        case measure => simp [intOf]; omega
      · have dt : decide ((t : Int) ≤ (m : Int)) = false := decN (by omega)
        have dt2 : decide (t ≤ m) = false := decN htm
        rw [if_neg htm, ← HA.out] at hst
        have HST := Lib.hid hst
        clear hst
        go_wp2
        go_roundw
        case rel => exact ⟨i + 1, a, by omega, by omega, by go_num, rfl, Lib.hid HST.out.symm, trivial⟩
        case measure => simp [intOf]; omega
    · obtain rfl : i = 30 := by omega
      have hlti : ¬ ((30 : Nat) : Int) < 30 := by omega
      obtain rfl : a = I := HA.out.trans HI.out.symm
      have c1 : V.drew.cell? ⟨b, a, none⟩ = some (.int .i64 (tI : Int)) := by rw [HTI.out]; exact tbl_cell TC2.out q1
      have c2 : V.drew.cell? ⟨b + 1, a, none⟩ = some (.int .i64 (xI : Int)) := by rw [HXI.out]; exact tbl_cell TD2.out q1
      have c3 : V.cell? ⟨b, a, none⟩ = some (.int .i64 (tI : Int)) := c1
      have c4 : V.cell? ⟨b + 1, a, none⟩ = some (.int .i64 (xI : Int)) := c2
      have w1 : IntKind.i64.wrap ((m : Int) - (tI : Int)) = (uI : Int) := by rw [IntKind.wrap_i64]; have := HUI.out; have := HQ2.out; omega
      obtain rfl : a = sI := HSI.out.symm
      have ha1 : (a : Int) < 30 := by omega
      have ha0 : ¬ (a : Int) < 0 := by omega
      have ha2 : ¬ (30 : Int) ≤ (a : Int) := by omega
      go_wp2
      go_region
      all_goals (
        go_wp2
        refine bodyPost_ret (results_tmp4 rfl _ _ _) rfl ?_
        exact ⟨rfl, Below.drew HBV.out⟩)
set_option maxRecDepth 100000 in
set_option maxHeartbeats 4000000 in
theorem rlbit9_any (w : World) (s : Int) : Calls Try.prog 21 #[.int .i64 s] w fun e w' => e = .returned (.tuple #[.int .i64 (lbV s), .int .i64 (lbE s)]) ∧ Below w.heap.size w w' := by
  by_cases y0 : s < 257
  · skip
    have e1 : lbE s = 90 := if_neg (by omega)
    have e2 : lbV s = 0 := if_neg (by omega)
    rw [e1, e2]
    have d0 : decide (s < 257) = true := decY y0
    clear e1 e2
    go_enter Try.func21, Try.ntmps21
    go_wp2
    go_ret2
    exact ⟨rfl, Below.refl _ _⟩
  have d0 : decide (s < 257) = false := decN y0
  by_cases y1 : 285 < s
  · skip
    have e1 : lbE s = 90 := if_neg (by omega)
    have e2 : lbV s = 0 := if_neg (by omega)
    rw [e1, e2]
    have d1 : decide (285 < s) = true := decY y1
    clear e1 e2
    go_enter Try.func21, Try.ntmps21
    go_wp2
    go_ret2
    exact ⟨rfl, Below.refl _ _⟩
  have d1 : decide (285 < s) = false := decN y1
  have hz := (zero_of_info inforlongs).1
  obtain ⟨I, hI⟩ : ∃ I, I = (s - 257).toNat := ⟨_, rfl⟩
  have e1 : lbE s = 0 := if_pos (by omega)
  have e2 : lbV s = ((longX I : Nat) : Int) := by unfold lbV; rw [if_pos (by omega), ← hI]
  rw [e1, e2]
  obtain ⟨xI, hxI⟩ : ∃ xI, xI = longX I := ⟨_, rfl⟩
  rw [← hxI]
  have hs : s = 257 + (I : Int) := by omega
  have hin : I < 29 := by omega
  have HXI := Lib.hid hxI; have HLO := Lib.hid (rlongs_any w)
  have hsub : s - 257 = (I : Int) := by omega
  have HSUB := Lib.hid hsub
  clear e1 e2 hxI hI
  subst hs
  have hsub2 : 257 + (I : Int) - 257 = (I : Int) := by omega
  go_enter Try.func21, Try.ntmps21
  go_wp2_with fail
  refine HLO.out.mono ?_
  rintro e w1 ⟨rfl, hb1⟩
  obtain ⟨t1, t2, t3, t4, t5⟩ := two_rows w1 (tblA (fun _ => 0) 29) (tblA (fun i => (longT i : Int)) 29) (tblA (fun i => (longX i : Int)) 29) 43
  obtain ⟨V, hV⟩ : ∃ V, V = twoV w1 (tblA (fun _ => 0) 29) (tblA (fun i => (longT i : Int)) 29) (tblA (fun i => (longX i : Int)) 29) 43 := ⟨_, rfl⟩
  rw [← hV] at t3 t4 t5
  have TA := Lib.hid t1; have TB := Lib.hid t2; have TC := Lib.hid t3; have TD := Lib.hid t4; have HBV := Lib.hid (hb1.trans (t5.mono hb1.size)); have HV := Lib.hid hV
  obtain ⟨b, hb⟩ : ∃ b, b = w1.heap.size := ⟨_, rfl⟩
  have HB := Lib.hid hb
  clear t1 t2 t3 t4 t5 hb1 hV hb
  have c4 : V.cell? ⟨w1.heap.size + 1, I, none⟩ = some (.int .i64 (xI : Int)) := by rw [HXI.out]; exact tbl_cell TD.out hin
  have ha1 : (I : Int) < 29 := by omega
  have ha0 : ¬ (I : Int) < 0 := by omega
  have ha2 : ¬ (29 : Int) ≤ (I : Int) := by omega
  go_wp2_with (first
    | (refine wpList_store_rowTo rfl _ _ _ rfl rfl w1.heap.size (tblA (fun i => (longT i : Int)) 29) rfl rfl 43 (tblA (fun _ => 0) 29) TA.out (szA29 _) (by rw [tblA_size, tblA_size]) (tblA_one _ _) ?_)
    | (refine wpList_store_rowTo rfl _ _ _ rfl rfl (w1.heap.size + 1) (tblA (fun i => (longX i : Int)) 29) rfl rfl 43 (tblA (fun _ => 0) 29) TB.out (szA29 _) (by rw [tblA_size, tblA_size]) (tblA_one _ _) ?_; change wpList _ _ _ _ _ (twoV w1 (tblA (fun _ => 0) 29) (tblA (fun i => (longT i : Int)) 29) (tblA (fun i => (longX i : Int)) 29) 43); rw [← HV.out]))
  go_ret2
  exact ⟨rfl, HBV.out⟩
set_option maxRecDepth 100000 in
set_option maxHeartbeats 4000000 in
theorem rfbit9_any (w : World) (s : Int) : Calls Try.prog 22 #[.int .i64 s] w fun e w' => e = .returned (.tuple #[.int .i64 (fbV s), .int .i64 (fbE s)]) ∧ Below w.heap.size w w' := by
  by_cases y0 : s < 0
  · skip
    have e1 : fbE s = 90 := if_neg (by omega)
    have e2 : fbV s = 0 := if_neg (by omega)
    rw [e1, e2]
    have d0 : decide (s < 0) = true := decY y0
    clear e1 e2
    go_enter Try.func22, Try.ntmps22
    go_wp2
    go_ret2
    exact ⟨rfl, Below.refl _ _⟩
  have d0 : decide (s < 0) = false := decN y0
  by_cases y1 : 29 < s
  · skip
    have e1 : fbE s = 90 := if_neg (by omega)
    have e2 : fbV s = 0 := if_neg (by omega)
    rw [e1, e2]
    have d1 : decide (29 < s) = true := decY y1
    clear e1 e2
    go_enter Try.func22, Try.ntmps22
    go_wp2
    go_ret2
    exact ⟨rfl, Below.refl _ _⟩
  have d1 : decide (29 < s) = false := decN y1
  have hz := (zero_of_info inforfars).1
  obtain ⟨I, hI⟩ : ∃ I, I = s.toNat := ⟨_, rfl⟩
  have e1 : fbE s = 0 := if_pos (by omega)
  have e2 : fbV s = ((farX I : Nat) : Int) := by unfold fbV; rw [if_pos (by omega), ← hI]
  rw [e1, e2]
  obtain ⟨xI, hxI⟩ : ∃ xI, xI = farX I := ⟨_, rfl⟩
  rw [← hxI]
  have hs : s = (I : Int) := by omega
  have hin : I < 30 := by omega
  have HXI := Lib.hid hxI; have HLO := Lib.hid (rfars_any w)
  have hsub : s = (I : Int) := by omega
  have HSUB := Lib.hid hsub
  clear e1 e2 hxI hI
  subst hs
  have hsub2 : (I : Int) = (I : Int) := by omega
  go_enter Try.func22, Try.ntmps22
  go_wp2_with fail
  refine HLO.out.mono ?_
  rintro e w1 ⟨rfl, hb1⟩
  obtain ⟨t1, t2, t3, t4, t5⟩ := two_rows w1 (tblA (fun _ => 0) 30) (tblA (fun i => (farT i : Int)) 30) (tblA (fun i => (farX i : Int)) 30) 46
  obtain ⟨V, hV⟩ : ∃ V, V = twoV w1 (tblA (fun _ => 0) 30) (tblA (fun i => (farT i : Int)) 30) (tblA (fun i => (farX i : Int)) 30) 46 := ⟨_, rfl⟩
  rw [← hV] at t3 t4 t5
  have TA := Lib.hid t1; have TB := Lib.hid t2; have TC := Lib.hid t3; have TD := Lib.hid t4; have HBV := Lib.hid (hb1.trans (t5.mono hb1.size)); have HV := Lib.hid hV
  obtain ⟨b, hb⟩ : ∃ b, b = w1.heap.size := ⟨_, rfl⟩
  have HB := Lib.hid hb
  clear t1 t2 t3 t4 t5 hb1 hV hb
  have c4 : V.cell? ⟨w1.heap.size + 1, I, none⟩ = some (.int .i64 (xI : Int)) := by rw [HXI.out]; exact tbl_cell TD.out hin
  have ha1 : (I : Int) < 30 := by omega
  have ha0 : ¬ (I : Int) < 0 := by omega
  have ha2 : ¬ (30 : Int) ≤ (I : Int) := by omega
  go_wp2_with (first
    | (refine wpList_store_rowTo rfl _ _ _ rfl rfl w1.heap.size (tblA (fun i => (farT i : Int)) 30) rfl rfl 46 (tblA (fun _ => 0) 30) TA.out (szA30 _) (by rw [tblA_size, tblA_size]) (tblA_one _ _) ?_)
    | (refine wpList_store_rowTo rfl _ _ _ rfl rfl (w1.heap.size + 1) (tblA (fun i => (farX i : Int)) 30) rfl rfl 46 (tblA (fun _ => 0) 30) TB.out (szA30 _) (by rw [tblA_size, tblA_size]) (tblA_one _ _) ?_; change wpList _ _ _ _ _ (twoV w1 (tblA (fun _ => 0) 30) (tblA (fun i => (farT i : Int)) 30) (tblA (fun i => (farX i : Int)) 30) 46); rw [← HV.out]))
  go_ret2
  exact ⟨rfl, HBV.out⟩
set_option maxRecDepth 100000 in
set_option maxHeartbeats 4000000 in
theorem rlof9_any (w : World) (s x : Int) : Calls Try.prog 18 #[.int .i64 s, .int .i64 x] w fun e w' => e = .returned (.tuple #[.int .i64 (loV s x), .int .i64 (loE s x)]) ∧ Below w.heap.size w w' := by
  have hbi := rlbit9_any w s
  by_cases y0 : 257 ≤ s ∧ s ≤ 285
  · have b1 : lbE s = 0 := if_pos y0
    have b2 : lbV s = ((longX (s - 257).toNat : Nat) : Int) := if_pos y0
    rw [b1, b2] at hbi
    obtain ⟨I, hI⟩ : ∃ I, I = (s - 257).toNat := ⟨_, rfl⟩
    have e0 : loE s x = if x < 0 ∨ ((2 ^ longX (s - 257).toNat : Nat) : Int) ≤ x then 2 else if s = 284 ∧ x = 31 then 90 else 0 := if_pos y0
    have e9 : loV s x = if loE s x = 0 then ((longT (s - 257).toNat : Nat) : Int) + x else 0 := rfl
    rw [← hI] at hbi e0 e9
    have hin : I < 29 := by omega
    have hxl := longX_le I
    have hsub : s - 257 = (I : Int) := by omega
    skip
    have htl : longT I ≤ 32768 := all_lt (P := fun i => longT i ≤ 32768) (n := 29) (by decide +kernel) I hin
    obtain ⟨tI, htI⟩ : ∃ tI, tI = longT I := ⟨_, rfl⟩
    obtain ⟨xI, hxI⟩ : ∃ xI, xI = longX I := ⟨_, rfl⟩
    obtain ⟨EE, hEE⟩ : ∃ EE, EE = loE s x := ⟨_, rfl⟩
    obtain ⟨VV, hVV⟩ : ∃ VV, VV = loV s x := ⟨_, rfl⟩
    rw [← hxI] at hbi e0 hxl
    rw [← htI] at e9 htl
    rw [← hEE] at e0 e9 ⊢
    rw [← hVV] at e9 ⊢
    have hpw := rpower9_any
    obtain ⟨p, hp⟩ : ∃ p, p = p2N xI := ⟨_, rfl⟩
    have hp2 : ((2 ^ xI : Nat) : Int) = (p : Int) := by rw [hp]; rfl
    have hpl : p ≤ 1048576 := by rw [hp]; exact p2N_le (by omega)
    rw [hp2] at e0
    have HBI := Lib.hid hbi; have HTI := Lib.hid htI; have HP := Lib.hid hp; have E0 := Lib.hid e0; have E9 := Lib.hid e9; have HLO := Lib.hid (fun w => rlongs_any w)
    have HPW : Hid (∀ w, Calls Try.prog 30 #[.int .i64 (xI : Int)] w fun e w' => e = .returned (.int .i64 (p : Int)) ∧ w = w') := Lib.hid fun w => by rw [hp]; exact rpower9_any w xI (by omega)
    have hz := (zero_of_info inforlongs).1
    clear hbi hxI htI hEE hVV hp hp2 e0 e9 hpw b1 b2
    try clear hI
    by_cases x0 : x < 0
    · have d0 : decide (x < 0) = true := decY x0
      obtain rfl : EE = 2 := by rw [E0.out, if_pos (.inl x0)]
      obtain rfl : VV = 0 := by rw [E9.out, if_neg (by omega)]
      clear E0 E9
      go_enter Try.func18, Try.ntmps18
      go_wp2_with fail
      refine HBI.out.mono ?_
      rintro e w1 ⟨rfl, hb1⟩
      go_wp2
      go_ret2
      exact ⟨rfl, hb1⟩
    have d0 : decide (x < 0) = false := decN x0
    by_cases x1 : (p : Int) ≤ x
    · have d1 : decide ((p : Int) ≤ x) = true := decY x1
      obtain rfl : EE = 2 := by rw [E0.out, if_pos (.inr x1)]
      obtain rfl : VV = 0 := by rw [E9.out, if_neg (by omega)]
      clear E0 E9
      go_enter Try.func18, Try.ntmps18
      go_wp2_with fail
      refine HBI.out.mono ?_
      rintro e w1 ⟨rfl, hb1⟩
      go_wp2_with (go_at_call 30; refine (HPW.out _).mono ?_; rintro e w' ⟨rfl, rfl⟩)
      go_ret2
      exact ⟨rfl, hb1⟩
    have d1 : decide ((p : Int) ≤ x) = false := decN x1
    have e2 := E0.out
    rw [if_neg (by omega)] at e2
    have E2 := Lib.hid e2
    clear e2 E0
    by_cases s4 : s = 284
    · by_cases x31 : x = 31
      · obtain rfl : EE = 90 := by rw [E2.out, if_pos ⟨s4, x31⟩]
        obtain rfl : VV = 0 := by rw [E9.out, if_neg (by omega)]
        have g1 : (s == 284) = true := by simp [s4]
        have g2 : (x == 31) = true := by simp [x31]
        clear E2 E9 s4 x31
        go_enter Try.func18, Try.ntmps18
        go_wp2_with fail
        refine HBI.out.mono ?_
        rintro e w1 ⟨rfl, hb1⟩
        go_wp2_with (go_at_call 30; refine (HPW.out _).mono ?_; rintro e w' ⟨rfl, rfl⟩)
        go_ret2
        exact ⟨rfl, hb1⟩
      · obtain rfl : EE = 0 := by rw [E2.out, if_neg (fun q => x31 q.2)]
        have g1 : (s == 284) = true := by simp [s4]
        have g2 : (x == 31) = false := by simp [x31]
        clear s4 x31
        obtain rfl : VV = (tI : Int) + x := by rw [E9.out, if_pos rfl]
        clear E2 E9
        obtain ⟨y, rfl⟩ := Int.eq_ofNat_of_zero_le (show 0 ≤ x by omega)
        have hyb : y ≤ 1048576 := by omega
        go_enter Try.func18, Try.ntmps18
        go_wp2_with fail
        refine HBI.out.mono ?_
        rintro e w0 ⟨rfl, hb0⟩
        have HB0 := Lib.hid hb0
        clear hb0
        go_wp2_with (go_at_call 30; refine (HPW.out _).mono ?_; rintro e w' ⟨rfl, rfl⟩)
        refine (HLO.out w0).mono ?_
        rintro e w1 ⟨rfl, hb1⟩
        obtain ⟨t1, t2, t3, t4, t5⟩ := two_rows w1 (tblA (fun _ => 0) 29) (tblA (fun i => (longT i : Int)) 29) (tblA (fun i => (longX i : Int)) 29) 43
        obtain ⟨V, hV⟩ : ∃ V, V = twoV w1 (tblA (fun _ => 0) 29) (tblA (fun i => (longT i : Int)) 29) (tblA (fun i => (longX i : Int)) 29) 43 := ⟨_, rfl⟩
        rw [← hV] at t3 t4 t5
        have TA := Lib.hid t1; have TB := Lib.hid t2; have TC := Lib.hid t3; have TD := Lib.hid t4; have HBV := Lib.hid (HB0.out.trans ((hb1.trans (t5.mono hb1.size)).mono HB0.out.size)); have HV := Lib.hid hV
        obtain ⟨b, hb⟩ : ∃ b, b = w1.heap.size := ⟨_, rfl⟩
        have HB := Lib.hid hb
        clear t1 t2 t3 t4 t5 hb1 hV hb
        have c4 : V.cell? ⟨w1.heap.size, I, none⟩ = some (.int .i64 (tI : Int)) := by rw [HTI.out]; exact tbl_cell TC.out hin
        have ha1 : (I : Int) < 29 := by omega
        have ha0 : ¬ (I : Int) < 0 := by omega
        have ha2 : ¬ (29 : Int) ≤ (I : Int) := by omega
        go_wp2_with (first
          | (refine wpList_store_rowTo rfl _ _ _ rfl rfl w1.heap.size (tblA (fun i => (longT i : Int)) 29) rfl rfl 43 (tblA (fun _ => 0) 29) TA.out (szA29 _) (by rw [tblA_size, tblA_size]) (tblA_one _ _) ?_)
          | (refine wpList_store_rowTo rfl _ _ _ rfl rfl (w1.heap.size + 1) (tblA (fun i => (longX i : Int)) 29) rfl rfl 43 (tblA (fun _ => 0) 29) TB.out (szA29 _) (by rw [tblA_size, tblA_size]) (tblA_one _ _) ?_; change wpList _ _ _ _ _ (twoV w1 (tblA (fun _ => 0) 29) (tblA (fun i => (longT i : Int)) 29) (tblA (fun i => (longX i : Int)) 29) 43); rw [← HV.out]))
        go_ret2
        exact ⟨rfl, HBV.out⟩
    obtain rfl : EE = 0 := by rw [E2.out, if_neg (fun q => s4 q.1)]
    have g1 : (s == 284) = false := by simp [s4]
    clear s4
    obtain rfl : VV = (tI : Int) + x := by rw [E9.out, if_pos rfl]
    clear E2 E9
    obtain ⟨y, rfl⟩ := Int.eq_ofNat_of_zero_le (show 0 ≤ x by omega)
    have hyb : y ≤ 1048576 := by omega
    go_enter Try.func18, Try.ntmps18
    go_wp2_with fail
    refine HBI.out.mono ?_
    rintro e w0 ⟨rfl, hb0⟩
    have HB0 := Lib.hid hb0
    clear hb0
    go_wp2_with (go_at_call 30; refine (HPW.out _).mono ?_; rintro e w' ⟨rfl, rfl⟩)
    refine (HLO.out w0).mono ?_
    rintro e w1 ⟨rfl, hb1⟩
    obtain ⟨t1, t2, t3, t4, t5⟩ := two_rows w1 (tblA (fun _ => 0) 29) (tblA (fun i => (longT i : Int)) 29) (tblA (fun i => (longX i : Int)) 29) 43
    obtain ⟨V, hV⟩ : ∃ V, V = twoV w1 (tblA (fun _ => 0) 29) (tblA (fun i => (longT i : Int)) 29) (tblA (fun i => (longX i : Int)) 29) 43 := ⟨_, rfl⟩
    rw [← hV] at t3 t4 t5
    have TA := Lib.hid t1; have TB := Lib.hid t2; have TC := Lib.hid t3; have TD := Lib.hid t4; have HBV := Lib.hid (HB0.out.trans ((hb1.trans (t5.mono hb1.size)).mono HB0.out.size)); have HV := Lib.hid hV
    obtain ⟨b, hb⟩ : ∃ b, b = w1.heap.size := ⟨_, rfl⟩
    have HB := Lib.hid hb
    clear t1 t2 t3 t4 t5 hb1 hV hb
    have c4 : V.cell? ⟨w1.heap.size, I, none⟩ = some (.int .i64 (tI : Int)) := by rw [HTI.out]; exact tbl_cell TC.out hin
    have ha1 : (I : Int) < 29 := by omega
    have ha0 : ¬ (I : Int) < 0 := by omega
    have ha2 : ¬ (29 : Int) ≤ (I : Int) := by omega
    go_wp2_with (first
      | (refine wpList_store_rowTo rfl _ _ _ rfl rfl w1.heap.size (tblA (fun i => (longT i : Int)) 29) rfl rfl 43 (tblA (fun _ => 0) 29) TA.out (szA29 _) (by rw [tblA_size, tblA_size]) (tblA_one _ _) ?_)
      | (refine wpList_store_rowTo rfl _ _ _ rfl rfl (w1.heap.size + 1) (tblA (fun i => (longX i : Int)) 29) rfl rfl 43 (tblA (fun _ => 0) 29) TB.out (szA29 _) (by rw [tblA_size, tblA_size]) (tblA_one _ _) ?_; change wpList _ _ _ _ _ (twoV w1 (tblA (fun _ => 0) 29) (tblA (fun i => (longT i : Int)) 29) (tblA (fun i => (longX i : Int)) 29) 43); rw [← HV.out]))
    go_ret2
    exact ⟨rfl, HBV.out⟩
  · have b1 : lbE s = 90 := if_neg y0
    have b2 : lbV s = 0 := if_neg y0
    have e1 : loE s x = 90 := if_neg y0
    have e2 : loV s x = 0 := if_neg (by rw [e1]; omega)
    rw [b1, b2] at hbi
    rw [e1, e2]
    have HBI := Lib.hid hbi
    clear hbi b1 b2 e1 e2
    go_enter Try.func18, Try.ntmps18
    go_wp2_with fail
    refine HBI.out.mono ?_
    rintro e w1 ⟨rfl, hb1⟩
    go_wp2
    go_ret2
    exact ⟨rfl, hb1⟩
set_option maxRecDepth 100000 in
set_option maxHeartbeats 4000000 in
theorem rfof9_any (w : World) (s x : Int) : Calls Try.prog 19 #[.int .i64 s, .int .i64 x] w fun e w' => e = .returned (.tuple #[.int .i64 (foV s x), .int .i64 (foE s x)]) ∧ Below w.heap.size w w' := by
  have hbi := rfbit9_any w s
  by_cases y0 : 0 ≤ s ∧ s ≤ 29
  · have b1 : fbE s = 0 := if_pos y0
    have b2 : fbV s = ((farX s.toNat : Nat) : Int) := if_pos y0
    rw [b1, b2] at hbi
    obtain ⟨I, hI⟩ : ∃ I, I = s.toNat := ⟨_, rfl⟩
    have e0 : foE s x = if x < 0 ∨ ((2 ^ farX s.toNat : Nat) : Int) ≤ x then 2 else 0 := if_pos y0
    have e9 : foV s x = if foE s x = 0 then ((farT s.toNat : Nat) : Int) + x else 0 := rfl
    rw [← hI] at hbi e0 e9
    have hin : I < 30 := by omega
    have hxl := farX_le I
    have hsub : s = (I : Int) := by omega
    clear hI; subst hsub
    have htl : farT I ≤ 32768 := all_lt (P := fun i => farT i ≤ 32768) (n := 30) (by decide +kernel) I hin
    obtain ⟨tI, htI⟩ : ∃ tI, tI = farT I := ⟨_, rfl⟩
    obtain ⟨xI, hxI⟩ : ∃ xI, xI = farX I := ⟨_, rfl⟩
    obtain ⟨EE, hEE⟩ : ∃ EE, EE = foE (I : Int) x := ⟨_, rfl⟩
    obtain ⟨VV, hVV⟩ : ∃ VV, VV = foV (I : Int) x := ⟨_, rfl⟩
    rw [← hxI] at hbi e0 hxl
    rw [← htI] at e9 htl
    rw [← hEE] at e0 e9 ⊢
    rw [← hVV] at e9 ⊢
    have hpw := rpower9_any
    obtain ⟨p, hp⟩ : ∃ p, p = p2N xI := ⟨_, rfl⟩
    have hp2 : ((2 ^ xI : Nat) : Int) = (p : Int) := by rw [hp]; rfl
    have hpl : p ≤ 1048576 := by rw [hp]; exact p2N_le (by omega)
    rw [hp2] at e0
    have HBI := Lib.hid hbi; have HTI := Lib.hid htI; have HP := Lib.hid hp; have E0 := Lib.hid e0; have E9 := Lib.hid e9; have HLO := Lib.hid (fun w => rfars_any w)
    have HPW : Hid (∀ w, Calls Try.prog 30 #[.int .i64 (xI : Int)] w fun e w' => e = .returned (.int .i64 (p : Int)) ∧ w = w') := Lib.hid fun w => by rw [hp]; exact rpower9_any w xI (by omega)
    have hz := (zero_of_info inforfars).1
    clear hbi hxI htI hEE hVV hp hp2 e0 e9 hpw b1 b2
    try clear hI
    by_cases x0 : x < 0
    · have d0 : decide (x < 0) = true := decY x0
      obtain rfl : EE = 2 := by rw [E0.out, if_pos (.inl x0)]
      obtain rfl : VV = 0 := by rw [E9.out, if_neg (by omega)]
      clear E0 E9
      go_enter Try.func19, Try.ntmps19
      go_wp2_with fail
      refine HBI.out.mono ?_
      rintro e w1 ⟨rfl, hb1⟩
      go_wp2
      go_ret2
      exact ⟨rfl, hb1⟩
    have d0 : decide (x < 0) = false := decN x0
    by_cases x1 : (p : Int) ≤ x
    · have d1 : decide ((p : Int) ≤ x) = true := decY x1
      obtain rfl : EE = 2 := by rw [E0.out, if_pos (.inr x1)]
      obtain rfl : VV = 0 := by rw [E9.out, if_neg (by omega)]
      clear E0 E9
      go_enter Try.func19, Try.ntmps19
      go_wp2_with fail
      refine HBI.out.mono ?_
      rintro e w1 ⟨rfl, hb1⟩
      go_wp2_with (go_at_call 30; refine (HPW.out _).mono ?_; rintro e w' ⟨rfl, rfl⟩)
      go_ret2
      exact ⟨rfl, hb1⟩
    have d1 : decide ((p : Int) ≤ x) = false := decN x1
    have e2 := E0.out
    rw [if_neg (by omega)] at e2
    have E2 := Lib.hid e2
    clear e2 E0
    obtain rfl : EE = 0 := E2.out
    obtain rfl : VV = (tI : Int) + x := by rw [E9.out, if_pos rfl]
    clear E2 E9
    obtain ⟨y, rfl⟩ := Int.eq_ofNat_of_zero_le (show 0 ≤ x by omega)
    have hyb : y ≤ 1048576 := by omega
    go_enter Try.func19, Try.ntmps19
    go_wp2_with fail
    refine HBI.out.mono ?_
    rintro e w0 ⟨rfl, hb0⟩
    have HB0 := Lib.hid hb0
    clear hb0
    go_wp2_with (go_at_call 30; refine (HPW.out _).mono ?_; rintro e w' ⟨rfl, rfl⟩)
    refine (HLO.out w0).mono ?_
    rintro e w1 ⟨rfl, hb1⟩
    obtain ⟨t1, t2, t3, t4, t5⟩ := two_rows w1 (tblA (fun _ => 0) 30) (tblA (fun i => (farT i : Int)) 30) (tblA (fun i => (farX i : Int)) 30) 46
    obtain ⟨V, hV⟩ : ∃ V, V = twoV w1 (tblA (fun _ => 0) 30) (tblA (fun i => (farT i : Int)) 30) (tblA (fun i => (farX i : Int)) 30) 46 := ⟨_, rfl⟩
    rw [← hV] at t3 t4 t5
    have TA := Lib.hid t1; have TB := Lib.hid t2; have TC := Lib.hid t3; have TD := Lib.hid t4; have HBV := Lib.hid (HB0.out.trans ((hb1.trans (t5.mono hb1.size)).mono HB0.out.size)); have HV := Lib.hid hV
    obtain ⟨b, hb⟩ : ∃ b, b = w1.heap.size := ⟨_, rfl⟩
    have HB := Lib.hid hb
    clear t1 t2 t3 t4 t5 hb1 hV hb
    have c4 : V.cell? ⟨w1.heap.size, I, none⟩ = some (.int .i64 (tI : Int)) := by rw [HTI.out]; exact tbl_cell TC.out hin
    have ha1 : (I : Int) < 30 := by omega
    have ha0 : ¬ (I : Int) < 0 := by omega
    have ha2 : ¬ (30 : Int) ≤ (I : Int) := by omega
    go_wp2_with (first
      | (refine wpList_store_rowTo rfl _ _ _ rfl rfl w1.heap.size (tblA (fun i => (farT i : Int)) 30) rfl rfl 46 (tblA (fun _ => 0) 30) TA.out (szA30 _) (by rw [tblA_size, tblA_size]) (tblA_one _ _) ?_)
      | (refine wpList_store_rowTo rfl _ _ _ rfl rfl (w1.heap.size + 1) (tblA (fun i => (farX i : Int)) 30) rfl rfl 46 (tblA (fun _ => 0) 30) TB.out (szA30 _) (by rw [tblA_size, tblA_size]) (tblA_one _ _) ?_; change wpList _ _ _ _ _ (twoV w1 (tblA (fun _ => 0) 30) (tblA (fun i => (farT i : Int)) 30) (tblA (fun i => (farX i : Int)) 30) 46); rw [← HV.out]))
    go_ret2
    exact ⟨rfl, HBV.out⟩
  · have b1 : fbE s = 90 := if_neg y0
    have b2 : fbV s = 0 := if_neg y0
    have e1 : foE s x = 90 := if_neg y0
    have e2 : foV s x = 0 := if_neg (by rw [e1]; omega)
    rw [b1, b2] at hbi
    rw [e1, e2]
    have HBI := Lib.hid hbi
    clear hbi b1 b2 e1 e2
    go_enter Try.func19, Try.ntmps19
    go_wp2_with fail
    refine HBI.out.mono ?_
    rintro e w1 ⟨rfl, hb1⟩
    go_wp2
    go_ret2
    exact ⟨rfl, hb1⟩
end Go.Proofs.Ytdecacajignkoaa
