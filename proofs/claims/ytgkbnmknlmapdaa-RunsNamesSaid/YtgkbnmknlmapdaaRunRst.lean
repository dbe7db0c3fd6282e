/-
  Layer 10 (runs): the document's own: the runs of lengths, whole; a run's bits and times.
-/
import Derived.Test.YtgkbnmknlmapdaaRunRef
namespace Go.Proofs.Ytgkbnmknlmapdaa
open Go.RowKit Go.ChangeShapes Go.WideShapes Go.ChangeAt Go.Joins
theorem own_keepU {w w' : World} {base sz n : Nat} {e : TypeId} {v : Value} {xs : List Value} (h : w.ownsRow base e sz v n xs) (hb : Below w.heap.size w w') : w'.ownsRow base e sz v n xs := by
  obtain ⟨h1, h2⟩ := h
  refine ⟨h1, ?_⟩
  rcases h2 with h2 | ⟨g, cap, cur, hv, hg, hh, r⟩
  · exact .inl h2
  · exact .inr ⟨g, cap, cur, hv, hg, (hb.block g (Array.getElem?_eq_some_iff.1 hh).1).trans hh, r⟩
set_option maxRecDepth 100000 in
set_option maxHeartbeats 2000000 in
theorem rofs10_any (w : World) (A : Option Addr) (n c : Nat) (f : Nat → Nat) (hr : RdB w w.heap.size A n f) (hn : n ≤ 1000000) (h15 : ∀ i, i < n → f i ≤ 15) :
    Calls Try.prog 21 #[.slice A n c] w fun e w' => ∃ A' n' c', e = .returned (.slice A' n' c') ∧ RuR w' w'.heap.size A' n' c' (ofU f n 0) ∧ Below w.heap.size w w' := by
  have HR := Lib.hid hr; have H15 := Lib.hid h15
  clear hr h15
  go_enter Try.func21, Try.ntmps21
  go_wp2
  go_loopw [3, 4] (fun ov av wr => ∃ (p a : Nat) (At : Option Addr) (ct : Nat) (pre : List (Int × Int)), a ≤ n ∧ p ≤ a ∧ ov = .slice At p ct ∧ av = .int .i64 (a : Int) ∧ Hid (pre ++ ofU f n a = ofU f n 0) ∧ Hid (wr.ownsRow w.heap.size 25 2 (.slice At p ct) p (runsL pre)) ∧ Hid (Below w.heap.size w wr)) (fun _ av _ => n - (intOf av).toNat)
  case atStart => exact ⟨0, 0, none, 0, [], Nat.zero_le _, Nat.le_refl _, rfl, rfl, Lib.hid rfl, Lib.hid (World.ownsRow_nil _ _ _ _), Lib.hid (Below.refl _ _)⟩
  case round =>
    obtain ⟨p, a, At, ct, pre, ha, hpa, rfl, rfl, HK, HO, HB⟩ := hrel
    by_cases hlt : a < n
    · have hlti : (a : Int) < (n : Int) := by omega
      have hfi := rfirst10_any wr A n c f a ((HR.out.below HB.out (Nat.le_refl _)).more HB.out.size) hlt hn
      obtain ⟨g1, g2, g3⟩ := ofU_cons (f := f) hlt H15.out
      obtain ⟨R, hR⟩ : ∃ R, R = fstU f n a := ⟨_, rfl⟩
      rw [← hR] at hfi g1 g2 g3
      obtain ⟨⟨s, x⟩, k⟩ := R
      dsimp only at hfi g1 g2 g3
      have HFI := Lib.hid hfi; have HG1 := Lib.hid g1
      clear hfi g1 hR
      go_wp2_with fail
      refine HFI.out.mono ?_
      rintro e w2 ⟨rfl, hb2⟩
      have HB2 := Lib.hid (HB.out.trans (hb2.mono HB.out.size))
      have HO2 := own_keepU HO.out hb2
      obtain ⟨W3, hW3⟩ : ∃ W3, W3 = w2.alloc (.cells #[.int .i64 s, .int .i64 x] 25) := ⟨_, rfl⟩
      have hb3 : Below w2.heap.size w2 W3 := by rw [hW3]; exact (Below.refl _ _).alloc (Nat.le_refl _) _
      have hb03 : Below w.heap.size w W3 := HB2.out.trans (hb3.mono HB2.out.size)
      obtain ⟨A', c', w', hrun, hown, hb'⟩ := run_oneU W3 w.heap.size At p ct pre (own_keepU HO2 hb3) (s, x) (by omega) hb03.size
      have hst := HK.out
      rw [HG1.out] at hst
      have HST := Lib.hid (show (pre ++ [(s, x)]) ++ ofU f n (a + k) = ofU f n 0 by rw [List.append_assoc]; exact hst)
      have hrow : W3.heap[w2.heap.size]? = some (.cells #[.int .i64 s, .int .i64 x] 25 (0, 0)) := by rw [hW3]; exact heap_alloc_new w2 _
      have y0 : W3.cell? ⟨w2.heap.size, 0, none⟩ = some (.int .i64 s) := (cell_of_row W3 _ 0 _ _ (0, 0) hrow).trans rfl
      have y1 : W3.cell? ⟨w2.heap.size, 1, none⟩ = some (.int .i64 x) := (cell_of_row W3 _ 1 _ _ (0, 0) hrow).trans rfl
      have HRUN := Lib.hid hrun; have HOWN := Lib.hid hown; have HB' := Lib.hid (hb03.trans hb'); have HROW := Lib.hid hrow; have HW3 := Lib.hid hW3
      have hq : p + 1 ≤ a + k := by omega
      clear hrun hown hb' hst hb2 HO2 hb3 hb03 hrow hW3 y0 y1
      obtain ⟨q, hqe⟩ : ∃ q, q = a + k := ⟨_, rfl⟩
      have eq : (a : Int) + (k : Int) = (q : Int) := by omega
      rw [← hqe] at g3 hq HST
      clear hqe
      go_wp2_with (first
        | (rw [← HW3.out]; refine wpList_load_row rfl _ _ rfl w2.heap.size rfl _ #[.int .i64 s, .int .i64 x] (0, 0) _ HROW.out Try.underlying25 rfl szRun ?_)
        | (at_builtin; refine wpList_append_run rfl (.tmp 17) (.tmp 19) 26 rfl (.slice At p ct) (.slice (some ⟨W3.heap.size, 0, none⟩) 1 1) (.slice A' (p + 1) c') w' rfl rfl HRUN.out ?_))
      go_roundw
      case rel => exact ⟨p + 1, q, A', c', pre ++ [(s, x)], g3, hq, rfl, by go_num, HST, HOWN, HB'⟩
      case measure => simp [intOf]; omega
    · obtain rfl : a = n := by omega
      have hlti : ¬ (a : Int) < (a : Int) := by omega
      have hk := HK.out
      rw [ofU_end (Nat.le_refl _), List.append_nil] at hk
      have hout := RuR.of_own HO.out
      rw [hk] at hout
      have HOUT := Lib.hid hout
      clear hout hk
      go_wp2
      go_ret
      exact ⟨At, p, ct, rfl, HOUT.out, HB.out⟩
set_option maxRecDepth 100000 in
set_option maxHeartbeats 2000000 in
theorem rsq10_any (w : World) (A : Option Addr) (n c : Nat) (f : Nat → Nat) (hr : RdB w w.heap.size A n f) :
    Calls Try.prog 13 #[.slice A n c] w fun e w' => ∃ A' n' c', e = .returned (.tuple #[.slice A' n' c', .int .i64 (sqE f n)]) ∧ RuR w' w'.heap.size A' n' c' (sqV f n) ∧ Below w.heap.size w w' := by
  obtain ⟨E, hE⟩ : ∃ E, E = sqE f n := ⟨_, rfl⟩
  obtain ⟨V, hV⟩ : ∃ V, V = sqV f n := ⟨_, rfl⟩
  have hV2 : V = if E = 0 then ofU f n 0 else [] := by rw [hV, hE]; rfl
  rw [← hE, ← hV]
  unfold sqE at hE
  have HR := Lib.hid hr; have HE := Lib.hid hE; have HV := Lib.hid hV2
  clear hr hE hV hV2
  by_cases hbig : 320 < n
  · have hni : (320 : Int) < (n : Int) := by omega
    obtain rfl : E = 4 := by rw [HE.out, if_pos hbig]
    obtain rfl : V = [] := by rw [HV.out, if_neg (by omega)]
    clear HE HV
    go_enter Try.func13, Try.ntmps13
    go_wp2
    go_ret2
    exact ⟨none, 0, 0, rfl, RuR.nil _ _, Below.refl _ _⟩
  have hni : ¬ (320 : Int) < (n : Int) := by omega
  have he := HE.out
  rw [if_neg hbig] at he
  have HE2 := Lib.hid he
  clear he HE
  go_enter Try.func13, Try.ntmps13
  go_wp2
  go_loopw [4] (fun iv wr => ∃ i : Nat, i ≤ n ∧ iv = .int .i64 (i : Int) ∧ Hid (∀ j, j < i → f j ≤ 15) ∧ w = wr) (fun iv _ => n - (intOf iv).toNat)
  case atStart => exact ⟨0, Nat.zero_le _, rfl, Lib.hid (fun j hj => by omega), rfl⟩
  case round =>
    obtain ⟨i, hi, rfl, HK, rfl⟩ := hrel
    by_cases hlt : i < n
    · have hlti : (i : Int) < (n : Int) := by omega
      obtain ⟨b, o, rfl, _, hc⟩ := HR.out.2 (by omega)
      have c1 := hc i hlt
      have hf8 := HR.out.1 i
      by_cases h15 : 15 < f i
      · obtain rfl : E = 2 := by rw [HE2.out, if_neg (fun q => by have := q i hlt; omega)]
        obtain rfl : V = [] := by rw [HV.out, if_neg (by omega)]
        obtain ⟨x, hx⟩ : ∃ x, x = f i := ⟨_, rfl⟩
        rw [← hx] at c1 h15 hf8
        have hxi : (15 : Int) < (x : Int) := by omega
        clear hc hx
        go_wp2
        go_ret2
        exact ⟨none, 0, 0, rfl, RuR.nil _ _, Below.refl _ _⟩
      · have HK2 : Hid (∀ j, j < i + 1 → f j ≤ 15) := Lib.hid fun j hj => by
          rcases Nat.lt_or_ge j i with g | g
          · exact HK.out j g
          · have e : j = i := by omega
            subst e; omega
        obtain ⟨x, hx⟩ : ∃ x, x = f i := ⟨_, rfl⟩
        rw [← hx] at c1 h15 hf8
        have hxi : ¬ (15 : Int) < (x : Int) := by omega
        clear hc hx
        go_wp2
        go_roundw
        case rel => exact ⟨i + 1, by omega, by go_num, HK2, trivial⟩
        case measure => simp [intOf]; omega
    · obtain rfl : i = n := by omega
      have hlti : ¬ (i : Int) < (i : Int) := by omega
      obtain rfl : E = 0 := by rw [HE2.out, if_pos HK.out]
      have hv : V = ofU f i 0 := by rw [HV.out, if_pos rfl]
      have HOF := Lib.hid (rofs10_any w A i c f HR.out (by omega) HK.out)
      rw [← hv] at HOF
      clear hv
      go_wp2_with fail
      refine HOF.out.mono ?_
      rintro e w2 ⟨A', n', c', rfl, hru, hb2⟩
      have HRU := Lib.hid hru
      have HB2 := Lib.hid hb2
      clear hru hb2
      go_wp2
      go_ret2
      exact ⟨A', n', c', rfl, HRU.out, HB2.out⟩
set_option maxRecDepth 100000 in
set_option maxHeartbeats 1000000 in
theorem rbits10_any (w : World) (s : Int) : Calls Try.prog 14 #[.int .i64 s] w fun e w' => e = .returned (.tuple #[.int .i64 (bitV s), .int .i64 (bitE s)]) ∧ w = w' := by
  by_cases y0 : s < 0
  · have e1 : bitV s = 0 := by unfold bitV; rw [if_neg (by omega)]
    have e2 : bitE s = 2 := by unfold bitE; rw [if_neg (by omega)]
    rw [e1, e2]
    have d0 : decide (s < 0) = true := decY0 y0
    clear e1 e2
    go_enter Try.func14, Try.ntmps14
    go_wp2
    go_ret2
    exact ⟨rfl, rfl⟩
  have d0 : decide (s < 0) = false := decN0 y0
  by_cases y1 : 18 < s
  · have e1 : bitV s = 0 := by unfold bitV; rw [if_neg (by omega)]
    have e2 : bitE s = 2 := by unfold bitE; rw [if_neg (by omega)]
    rw [e1, e2]
    have d1 : decide (18 < s) = true := decY0 y1
    clear e1 e2
    go_enter Try.func14, Try.ntmps14
    go_wp2
    go_ret2
    exact ⟨rfl, rfl⟩
  have d1 : decide (18 < s) = false := decN0 y1
  by_cases y2 : s = 16
  · have e1 : bitV s = 2 := by unfold bitV bitsR; rw [if_pos (by omega), if_pos y2]; rfl
    have e2 : bitE s = 0 := by unfold bitE; rw [if_pos (by omega)]
    rw [e1, e2]
    have d2 : (s == 16) = true := by simp [y2]
    clear y2 y0 y1
    clear e1 e2
    go_enter Try.func14, Try.ntmps14
    go_wp2
    go_ret2
    exact ⟨rfl, rfl⟩
  have d2 : (s == 16) = false := by simp [y2]
  by_cases y3 : s = 17
  · have e1 : bitV s = 3 := by unfold bitV bitsR; rw [if_pos (by omega), if_neg y2, if_pos y3]; rfl
    have e2 : bitE s = 0 := by unfold bitE; rw [if_pos (by omega)]
    rw [e1, e2]
    have d3 : (s == 17) = true := by simp [y3]
    clear y3 y2
    clear e1 e2
    go_enter Try.func14, Try.ntmps14
    go_wp2
    go_ret2
    exact ⟨rfl, rfl⟩
  have d3 : (s == 17) = false := by simp [y3]
  by_cases y4 : s = 18
  · have e1 : bitV s = 7 := by unfold bitV bitsR; rw [if_pos (by omega), if_neg y2, if_neg y3, if_pos y4]; rfl
    have e2 : bitE s = 0 := by unfold bitE; rw [if_pos (by omega)]
    rw [e1, e2]
    have d4 : (s == 18) = true := by simp [y4]
    clear y4 y3 y2
    clear e1 e2
    go_enter Try.func14, Try.ntmps14
    go_wp2
    go_ret2
    exact ⟨rfl, rfl⟩
  have d4 : (s == 18) = false := by simp [y4]
  have e1 : bitV s = 0 := by unfold bitV bitsR; rw [if_pos (by omega), if_neg y2, if_neg y3, if_neg y4]; rfl
  have e2 : bitE s = 0 := by unfold bitE; rw [if_pos (by omega)]
  rw [e1, e2]
  clear e1 e2
  go_enter Try.func14, Try.ntmps14
  go_wp2
  go_ret2
  exact ⟨rfl, rfl⟩
set_option maxRecDepth 100000 in
set_option maxHeartbeats 1000000 in
theorem rtimes10_any (w : World) (s : Int) (x : Nat) (hx : x ≤ 1000) : Calls Try.prog 23 #[.agg #[.int .i64 s, .int .i64 (x : Int)]] w fun e w' => e = .returned (.tuple #[.int .i64 ((timesR s (x : Int) : Nat) : Int), .bool (s == 16)]) ∧ Below w.heap.size w w' := by
  have HB := Lib.hid ((Below.refl w.heap.size w).alloc (Nat.le_refl _) (.cells #[.int .i64 s, .int .i64 (x : Int)] 25))
  by_cases y16 : s = 16
  · have e1 : timesR s (x : Int) = x + 3 := by unfold timesR; rw [if_pos (.inl y16), Int.toNat_natCast]
    rw [e1]
    have d16 : (s == 16) = true := by simp [y16]
    skip
    
    rw [d16]
    have ex : (x : Int) + 3 = ((x + 3 : Nat) : Int) := by omega
    obtain ⟨u, hu⟩ : ∃ u, u = x + 3 := ⟨_, rfl⟩
    rw [← hu] at ex ⊢
    clear e1 hu y16
    go_enter Try.func23, Try.ntmps23
    go_wp2
    go_ret2
    exact ⟨rfl, HB.out⟩
  have d16 : (s == 16) = false := by simp [y16]
  by_cases y17 : s = 17
  · have e1 : timesR s (x : Int) = x + 3 := by unfold timesR; rw [if_pos (.inr y17), Int.toNat_natCast]
    rw [e1]
    have d17 : (s == 17) = true := by simp [y17]
    have d16' : (s == 16) = false := d16
    rw [d16]
    
    have ex : (x : Int) + 3 = ((x + 3 : Nat) : Int) := by omega
    obtain ⟨u, hu⟩ : ∃ u, u = x + 3 := ⟨_, rfl⟩
    rw [← hu] at ex ⊢
    clear e1 hu y16 y17
    go_enter Try.func23, Try.ntmps23
    go_wp2
    go_ret2
    exact ⟨rfl, HB.out⟩
  have d17 : (s == 17) = false := by simp [y17]
  by_cases y18 : s = 18
  · have e1 : timesR s (x : Int) = x + 11 := by unfold timesR; rw [if_neg (by omega), if_pos y18, Int.toNat_natCast]
    rw [e1]
    have d18 : (s == 18) = true := by simp [y18]
    have d16' : (s == 16) = false := d16
    rw [d16]
    
    have ex : (x : Int) + 11 = ((x + 11 : Nat) : Int) := by omega
    obtain ⟨u, hu⟩ : ∃ u, u = x + 11 := ⟨_, rfl⟩
    rw [← hu] at ex ⊢
    clear e1 hu y16 y17 y18
    go_enter Try.func23, Try.ntmps23
    go_wp2
    go_ret2
    exact ⟨rfl, HB.out⟩
  have d18 : (s == 18) = false := by simp [y18]
  have e1 : timesR s (x : Int) = 1 := by unfold timesR; rw [if_neg (by omega), if_neg y18]
  rw [e1, d16]
  clear e1 y16 y17 y18
  go_enter Try.func23, Try.ntmps23
  go_wp2
  go_ret2
  exact ⟨rfl, HB.out⟩
def p2U (k : Nat) : Nat := 2 ^ k
theorem p2U_le {k : Nat} (h : k ≤ 7) : p2U k ≤ 128 := by
  have := Nat.pow_le_pow_right (n := 2) (by omega) h
  exact this
set_option maxRecDepth 100000 in
set_option maxHeartbeats 1000000 in
theorem rpower10_any (w : World) (n : Nat) (hn : n ≤ 7) : Calls Try.prog 22 #[.int .i64 (n : Int)] w fun e w' => e = .returned (.int .i64 (p2U n : Int)) ∧ w = w' := by
  go_enter Try.func22, Try.ntmps22
  go_wp2
  go_loopw [3, 4] (fun pv iv wr => ∃ i q : Nat, i ≤ n ∧ q ≤ 128 ∧ iv = .int .i64 (i : Int) ∧ pv = .int .i64 (q : Int) ∧ Hid (q = p2U i) ∧ w = wr) (fun _ iv _ => n - (intOf iv).toNat)
  case atStart => exact ⟨0, 1, Nat.zero_le _, by omega, rfl, rfl, Lib.hid rfl, rfl⟩
  case round =>
    obtain ⟨i, q, hi, hq, rfl, rfl, HQ, rfl⟩ := hrel
    by_cases hlt : i < n
    · have hlti : (i : Int) < (n : Int) := by omega
      have hq2 : 2 * q = p2U (i + 1) := by rw [HQ.out]; unfold p2U; rw [Nat.pow_succ]; omega
      have hq3 : 2 * q ≤ 128 := by rw [hq2]; exact p2U_le (by omega)
      obtain ⟨r, hr⟩ : ∃ r, r = 2 * q := ⟨_, rfl⟩
      have er : (2 : Int) * (q : Int) = (r : Int) := by omega
      rw [← hr] at hq2 hq3
      have HQ2 := Lib.hid hq2
      clear hr hq2
      go_wp2
      go_roundw
      case rel => exact ⟨i + 1, r, by omega, hq3, by go_num, by go_num, HQ2, trivial⟩
      case measure => simp [intOf]; omega
    · obtain rfl : i = n := by omega
      have hlti : ¬ (i : Int) < (i : Int) := by omega
      have hq := HQ.out
      subst hq
      go_wp2
      go_ret
      exact ⟨rfl, rfl⟩
end Go.Proofs.Ytgkbnmknlmapdaa
