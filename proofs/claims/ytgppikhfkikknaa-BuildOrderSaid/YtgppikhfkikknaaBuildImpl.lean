/-
  Layer 4 (build): what build.Lengths answers, for every frequencies and limit.
-/
import Derived.Test.YtgppikhfkikknaaImpCnt
import Derived.Test.YtgppikhfkikknaaBuildAsk
namespace Go.Proofs.Ytgppikhfkikknaa
open Go.RowKit
def chk4 (l : List Int) (most : Int) : Int := if most < 1 ∨ 15 < most then 2 else if 320 < l.length then 4 else if badL l l.length = true then 2 else 0
set_option maxRecDepth 100000 in
set_option maxHeartbeats 2000000 in
theorem check4_any (w : World) (A : Option Addr) (c : Nat) (l : List Int) (most : Int) (hr : RdI w w.heap.size A l) (hn : l.length ≤ 1000) (hm1 : -9223372036854775808 ≤ most) (hm2 : most ≤ 9223372036854775807) (hb : ∀ j, j < l.length → -9223372036854775808 ≤ l.getD j 0 ∧ l.getD j 0 ≤ 9223372036854775807) :
    Calls Try.prog 16 #[.slice A l.length c, .int .i64 most] w fun e w' => e = .returned (.int .i64 (chk4 l most)) ∧ w' = w := by
  have HR := Lib.hid hr; have HBD := Lib.hid hb
  clear hr hb
  obtain ⟨n, hn0⟩ : ∃ n, n = l.length := ⟨_, rfl⟩
  obtain ⟨E, hE⟩ : ∃ E, E = chk4 l most := ⟨_, rfl⟩
  rw [← hn0] at hn ⊢
  rw [← hE]
  unfold chk4 at hE
  rw [← hn0] at hE
  have HN := Lib.hid hn0
  clear hn0
  by_cases h1 : most < 1
  · rw [if_pos (.inl h1)] at hE
    subst hE
    have hd : decide (most < 1) = true := by simpa using h1
    go_enter Try.func16, Try.ntmps16
    go_wp2
    go_ret
    exact ⟨rfl, rfl⟩
  · have hd : decide (most < 1) = false := by simpa using h1
    by_cases h2 : 15 < most
    · rw [if_pos (.inr h2)] at hE
      subst hE
      go_enter Try.func16, Try.ntmps16
      go_wp2
      go_ret
      exact ⟨rfl, rfl⟩
    · rw [if_neg (by omega)] at hE
      have hd2 : decide (15 < most) = false := by simpa using h2
      by_cases h3 : 320 < n
      · rw [if_pos h3] at hE
        subst hE
        have hd3 : decide ((320 : Int) < (n : Int)) = true := by simp; omega
        have h3i : (320 : Int) < (n : Int) := by omega
        go_enter Try.func16, Try.ntmps16
        go_wp2
        go_ret
        exact ⟨rfl, rfl⟩
      · rw [if_neg h3] at hE
        have hd3 : decide ((320 : Int) < (n : Int)) = false := by simp; omega
        have h3i : ¬ (320 : Int) < (n : Int) := by omega
        have HE := Lib.hid hE
        clear hE
        go_enter Try.func16, Try.ntmps16
        go_wp2
        go_loopw [18] (fun i wr => ∃ k : Nat, k ≤ n ∧ i = .int .i64 (k : Int) ∧ wr = w ∧ Hid (∀ j, j < k → badI (l.getD j 0) = false)) (fun i _ => n - (intOf i).toNat)
        case atStart => exact ⟨0, Nat.zero_le _, rfl, rfl, Lib.hid (fun j hj => absurd hj (by omega))⟩
        case round =>
          obtain ⟨k, hk, rfl, rfl, HALL⟩ := hrel
          by_cases hlt : k < n
          · have hlti : (k : Int) < (n : Int) := by omega
            obtain ⟨b, o, rfl, hbl, hc⟩ := HR.out.at (k := k) (by rw [← HN.out]; exact hlt)
            have c1 := hc k (by rw [← HN.out]; exact hlt)
            have hxb := HBD.out k (by rw [← HN.out]; exact hlt)
            obtain ⟨x, hx⟩ : ∃ x, x = l.getD k 0 := ⟨_, rfl⟩
            rw [← hx] at c1 hxb
            have HX := Lib.hid hx
            clear hx hc
            by_cases g1 : x < 0
            · have hg1 : decide (x < 0) = true := by simpa using g1
              go_wp2
              go_ret
              have hbad : badL l l.length = true := badL_yes (k := k) (by rw [← HN.out]; exact hlt) (by rw [← HX.out]; exact decide_eq_true (.inl g1))
              have h := HE.out
              rw [HN.out, if_pos hbad] at h
              exact ⟨ret_int h.symm, rfl⟩
            · have hg1 : decide (x < 0) = false := by simpa using g1
              by_cases g2 : 1073741824 < x
              · have hg2 : decide (1073741824 < x) = true := by simpa using g2
                go_wp2
                go_ret
                have hbad : badL l l.length = true := badL_yes (k := k) (by rw [← HN.out]; exact hlt) (by rw [← HX.out]; exact decide_eq_true (.inr g2))
                have h := HE.out
                rw [HN.out, if_pos hbad] at h
                exact ⟨ret_int h.symm, rfl⟩
              · have hg2 : decide (1073741824 < x) = false := by simpa using g2
                go_wp2
                go_roundw
                case rel => exact ⟨k + 1, by omega, by go_num, trivial, Lib.hid (fun j hj => by
                  by_cases e : j = k
                  · rw [e, ← HX.out]; exact badI_no (by omega) (by omega)
                  · exact HALL.out j (by omega))⟩
                case measure => simp [intOf]; omega
          · obtain rfl : k = n := by omega
            have hlti : ¬ (k : Int) < (k : Int) := by omega
            go_wp2
            go_ret
            have hbad : badL l l.length = false := badL_no (fun j hj => HALL.out j (by rw [HN.out]; exact hj))
            have h := HE.out
            rw [HN.out, if_neg (by rw [hbad]; exact Bool.false_ne_true)] at h
            exact ⟨ret_int h.symm, rfl⟩
theorem ask_of_chk {l : List Int} {most : Int} (h : chk4 l most ≠ 0) : askE l most = chk4 l most := by
  unfold chk4 at h ⊢
  unfold askE
  split
  · rfl
  · rename_i h1
    rw [if_neg h1] at h
    split
    · rfl
    · rename_i h2
      rw [if_neg h2] at h
      split
      · rfl
      · rename_i h3
        rw [if_neg h3] at h
        exact absurd rfl h
theorem chk_right {l : List Int} {most : Int} (h : chk4 l most = 0) : 1 ≤ most ∧ most ≤ 15 ∧ l.length ≤ 320 ∧ (∀ j, j < l.length → 0 ≤ l.getD j 0 ∧ l.getD j 0 ≤ 1073741824) ∧ askE l most = if 2 ^ most.toNat < nI (freqN l) l.length then 4 else 0 := by
  unfold chk4 at h
  unfold askE
  split at h
  · cases h
  · rename_i h1
    rw [if_neg h1]
    split at h
    · cases h
    · rename_i h2
      rw [if_neg h2]
      split at h
      · cases h
      · rename_i h3
        rw [if_neg h3]
        refine ⟨by omega, by omega, by omega, fun j hj => ?_, rfl⟩
        have h4 : ¬ badI (l.getD j 0) = true := fun hb => h3 (badL_yes hj hb)
        have h5 := of_decide_eq_false (Bool.not_eq_true _ ▸ h4)
        omega
theorem lengths_any (w : World) (A : Option Addr) (c : Nat) (l : List Int) (most : Int) (hr : RdI w w.heap.size A l) (hc : A = none → c = 0) (hn : l.length ≤ 1000) (hb : ∀ j, j < l.length → -9223372036854775808 ≤ l.getD j 0 ∧ l.getD j 0 ≤ 9223372036854775807)
    (hm1 : -9223372036854775808 ≤ most) (hm2 : most ≤ 9223372036854775807) :
    Calls Try.prog 9 #[.slice A l.length c, .int .i64 most] w fun e w' => ∃ A' c', e = .returned (.tuple #[.slice A' (lenO l most) c', .int .i64 (askE l most)]) ∧ Below w.heap.size w w' ∧ RdB w' w'.heap.size A' (lenO l most) (outL l most) := by
  have HCK := Lib.hid (check4_any w A c l most hr hn hm1 hm2 hb)
  have HR := Lib.hid hr; have HBD := Lib.hid hb
  by_cases hz : chk4 l most = 0
  · obtain ⟨k1, k2, k3, k4, k5⟩ := chk_right hz
    have HORD := order_any w A c l hr ⟨by omega, fun j hj => (k4 j hj).1⟩ hb
    obtain ⟨N, hN⟩ : ∃ N, N = l.length := ⟨_, rfl⟩
    obtain ⟨n, hnn⟩ : ∃ n, n = nI (freqN l) l.length := ⟨_, rfl⟩
    obtain ⟨L, hL⟩ : ∃ L : Nat, most = (L : Int) := ⟨most.toNat, by omega⟩
    subst hL
    rw [Int.toNat_natCast, ← hnn] at k5
    rw [hz] at HCK
    rw [← hnn, ← hN] at HORD
    rw [← hN] at HCK k3 ⊢
    obtain ⟨E, hE⟩ : ∃ E, E = askE l (L : Int) := ⟨_, rfl⟩
    obtain ⟨lo, hlo⟩ : ∃ lo, lo = lenO l (L : Int) := ⟨_, rfl⟩
    obtain ⟨ol, hol⟩ : ∃ ol, ol = outL l (L : Int) := ⟨_, rfl⟩
    rw [← hE, ← hlo, ← hol]
    have HEE := Lib.hid hE; have HLO := Lib.hid hlo; have HOL := Lib.hid hol; have HN := Lib.hid hN; have HNN := Lib.hid hnn; have HK4 := Lib.hid k4; have HK5 := Lib.hid k5
    have HOR := Lib.hid HORD
    have hL1 : 1 ≤ L := by omega
    have hL2 : L ≤ 15 := by omega
    have hnN : n ≤ N := by rw [hnn, hN]; exact nI_le _ _
    obtain ⟨Q, hQ⟩ : ∃ Q, Q = 2 ^ L := ⟨_, rfl⟩
    have hQ15 : Q ≤ 2 ^ 15 := by rw [hQ]; exact Nat.pow_le_pow_right (by decide) hL2
    have hQ32 : Q ≤ 32768 := hQ15
    have hcast : ((2 : Int) ^ L) = (Q : Int) := by rw [hQ, Int.natCast_pow]; rfl
    have hsh : wrap64 ((2 : Int) ^ L) = (Q : Int) := by rw [hcast]; unfold wrap64; omega
    have HQ := Lib.hid hQ
    clear hr hb hz hE hlo hol hN hnn k4 k5 HORD hc hn hQ hQ15 hcast
    by_cases hmany : Q < n
    · have hmi : (Q : Int) < (n : Int) := by omega
      have hmd : decide ((Q : Int) < (n : Int)) = true := decide_eq_true hmi
      go_enter Try.func9, Try.ntmps9
      go_wp2_with (first
        | (go_at_call 16; refine HCK.out.mono ?_; rintro e w1 ⟨rfl, rfl⟩)
        | (go_at_call 17; refine HOR.out.mono ?_; rintro e w2 ⟨A1, c1, rfl, hb1, hr1⟩; have HB1 := Lib.hid hb1; have HR1 := Lib.hid hr1; clear hb1 hr1))
      go_ret2
      have he : E = 4 := by rw [HEE.out, HK5.out, if_pos (by rw [← HQ.out]; exact hmany)]
      have hl0 : lo = 0 := by rw [HLO.out]; unfold lenO; rw [← HEE.out, he, if_neg (by decide)]
      rw [he, hl0, HOL.out]
      exact ⟨none, 0, rfl, HB1.out, fun j => outL_lt l _ j, fun h => absurd h (by omega)⟩
    · have hmi : ¬ (Q : Int) < (n : Int) := by omega
      have hmd : decide ((Q : Int) < (n : Int)) = false := decide_eq_false hmi
      have hnQ : n ≤ 2 ^ L := by rw [← HQ.out]; omega
      have he : E = 0 := by rw [HEE.out, HK5.out, if_neg (by omega)]
      have hl0 : lo = N := by rw [HLO.out]; unfold lenO; rw [← HEE.out, he, if_pos rfl, ← HN.out]
      have hol0 : ∀ j, ol j = lenB (freqN l) N L j := fun j => by rw [HOL.out]; unfold outL; rw [← HEE.out, he, if_pos rfl, ← HN.out, Int.toNat_natCast]
      have HOE := Lib.hid hol0; have HNQ := Lib.hid hnQ
      subst he; subst hl0
      have hmk := make_u8 lo (by omega)
      clear hmany hol0 hnQ
      by_cases h2 : 2 ≤ n
      · have hn1 : ((n : Int) == 1) = false := by simp; omega
        have hn2 : (1 : Int) < (n : Int) := by omega
        have hn2d : decide ((1 : Int) < (n : Int)) = true := decide_eq_true hn2
        have HNL := Lib.hid (show n = nI (freqN l) lo by rw [HN.out]; exact HNN.out)
        go_enter Try.func9, Try.ntmps9
        go_wp2_with (first
          | (go_at_call 16; refine HCK.out.mono ?_; rintro e w1 ⟨rfl, rfl⟩)
          | (go_at_call 17; refine HOR.out.mono ?_; rintro e w2 ⟨A1, c1, rfl, hb1, hr1⟩; have HBU := Lib.hid (show Below w1.heap.size w1 (w2.alloc (.cells (madeCells #[.int .u8 0] lo) 5)) from hb1.alloc hb1.size _); have HRU := Lib.hid (((HR.out.below HBU.out (Nat.le_refl _)).more HBU.out.size)); have HR1 := Lib.hid ((hr1.below ((Below.refl w2.heap.size w2).alloc (Nat.le_refl _) (.cells (madeCells #[.int .u8 0] lo) 5)) (Nat.le_refl _)).more (by simp : w2.heap.size ≤ (w2.alloc (.cells (madeCells #[.int .u8 0] lo) 5)).heap.size)); have HROW := Lib.hid (rowW_made w2 lo); have hsz1 := hb1.size; clear hb1 hr1; have HPRC := Lib.hid (parcels_any _ A c l HRU.out A1 c1 (itemsL (freqN l) lo) HR1.out (fun j hj => by have h := rank_of (F := freqN l) (n := lo) (r := j) (by rw [← items_length]; exact hj); have h2 := h.2.1; rw [HN.out] at h2 ⊢; exact h2) lo n HN.out (by rw [items_length]; exact HNL.out) (by omega) HK4.out))
          | (go_at_call 20; refine HPRC.out.mono ?_; rintro e w3 ⟨A3, c3, rfl, hb3, hc3, hA3, hr3⟩; have HB3 := Lib.hid hb3; have HC3 := Lib.hid hc3; have HA3 := Lib.hid hA3; have HR3 := Lib.hid hr3; clear hb3 hc3 hA3 hr3; have HRWS := Lib.hid (rows_any w3 _ A3 c3 n (itemW (freqN l) lo) (fun t => (((itemsL (freqN l) lo).getD t 0 : Nat) : Int)) HR3.out HB3.out.size HC3.out HA3.out L hL1 hL2 h2 (by omega) (fun i hi => by have h := rank_of (F := freqN l) (n := lo) (r := i) (by rw [← HNL.out]; exact hi); have h2 := HK4.out _ (by rw [← HN.out]; exact h.2.1); show (l.getD ((itemsL (freqN l) lo).getD i 0) 0).toNat ≤ _; omega)))
          | (go_at_call 19; refine HRWS.out.mono ?_; rintro e w4 ⟨A4, c4, rfl, hb4, hr4⟩; have HB4 := Lib.hid hb4; have HR4 := Lib.hid hr4; clear hb4 hr4))
        have hT : (2 * (n : Int) - 2) = ((2 * n - 2 : Nat) : Int) := by omega
        rw [hT]
        have hs3 := HB3.out.size
        have hs4 := HB4.out.size
        have hu1 : (w2.alloc (.cells (madeCells #[.int .u8 0] lo) 5)).heap.size = w2.heap.size + 1 := by simp
        have b4 : Below (w2.alloc (.cells (madeCells #[.int .u8 0] lo) 5)).heap.size (w2.alloc (.cells (madeCells #[.int .u8 0] lo) 5)) w4 := HB3.out.trans (HB4.out.mono hs3)
        have hrow4 : RowW w4 w2.heap.size lo (cntY (freqN l) lo (fun _ => 0)) := (HROW.out.below b4 (by omega)).ext (fun s _ => by unfold cntY; split <;> rfl)
        have hcnt := count4_any w4 w2.heap.size lo lo (freqN l) hrow4 (w2.alloc (.cells (madeCells #[.int .u8 0] lo) 5)).heap.size A4 c4 n L HNL.out h2 hL1 hL2 HNQ.out (by omega) (by omega) HR4.out (2 * n - 2) rfl
        have HCNT := Lib.hid hcnt
        clear hcnt hrow4 hT
        refine HCNT.out.mono ?_
        rintro e w5 ⟨rfl, hb5, hr5⟩
        have HB5 := Lib.hid hb5; have HR5 := Lib.hid hr5
        clear hb5 hr5
        go_wp2
        go_ret2
        have hr := HR5.out.ext (f' := ol) (fun j _ => (HOE.out j).symm)
        exact ⟨_, _, rfl, (HBU.out.trans (b4.mono HBU.out.size)).trans (HB5.out.mono hsz1), hr.rd (fun j => by rw [HOL.out]; exact outL_lt l _ j)⟩
      · have HNL := Lib.hid (show n = nI (freqN l) lo by rw [HN.out]; exact HNN.out)
        by_cases h1 : n = 1
        · have H1 := Lib.hid h1
          have hn1 : ((n : Int) == 1) = true := by simp; omega
          have hn2 : ¬ (1 : Int) < (n : Int) := by omega
          have hn2d : decide ((1 : Int) < (n : Int)) = false := decide_eq_false hn2
          have hn0 : 0 < n := by omega
          have hlt := rank_of (F := freqN l) (n := lo) (r := 0) (by have := HNL.out; omega)
          obtain ⟨s, hs⟩ : ∃ s, s = (itemsL (freqN l) lo).getD 0 0 := ⟨_, rfl⟩
          have hsN : s < lo := by rw [hs]; exact hlt.2.1
          have HS := Lib.hid hs
          clear hs hlt h2 h1
          go_enter Try.func9, Try.ntmps9
          go_wp2_with (first
            | (go_at_call 16; refine HCK.out.mono ?_; rintro e w1 ⟨rfl, rfl⟩)
            | (go_at_call 17; refine HOR.out.mono ?_; rintro e w2 ⟨A1, c1, rfl, hb1, hr1⟩; have hj1 := hr1; obtain ⟨b, o, rfl, hbl, hcc⟩ := hj1.at (k := 0) (by have h := HNL.out; rw [natsI_length, items_length, ← h]; exact hn0); have c0 := hcc 0 (by have h := HNL.out; rw [natsI_length, items_length, ← h]; exact hn0); rw [natsI_get, ← HS.out, Nat.add_zero] at c0; have HB1 := Lib.hid hb1; have hsz1 := hb1.size; have hmade := (rowW_made w2 lo).cell hsN; have hfz := (rowW_made w2 lo).frozen s; clear hj1 hcc hb1 hr1))
          go_ret2
          have hr := (rowW_one w2 lo s).ext (f' := ol) (fun j hj => by rw [HOE.out j, HS.out]; exact (len_one (HNL.out.symm.trans H1.out) hj).symm)
          exact ⟨_, _, rfl, HB1.out.alloc hsz1 _, hr.rd (fun j => by rw [HOL.out]; exact outL_lt l _ j)⟩
        · have h0 : n = 0 := by omega
          have H0 := Lib.hid h0
          have hn1 : ((n : Int) == 1) = false := by simp; omega
          have hn2 : ¬ (1 : Int) < (n : Int) := by omega
          have hn2d : decide ((1 : Int) < (n : Int)) = false := decide_eq_false hn2
          clear h0 h1 h2
          go_enter Try.func9, Try.ntmps9
          go_wp2_with (first
            | (go_at_call 16; refine HCK.out.mono ?_; rintro e w1 ⟨rfl, rfl⟩)
            | (go_at_call 17; refine HOR.out.mono ?_; rintro e w2 ⟨A1, c1, rfl, hb1, hr1⟩; have HB1 := Lib.hid hb1; have hsz1 := hb1.size; clear hb1 hr1))
          go_ret2
          have hr := (rowW_made w2 lo).ext (f' := ol) (fun j hj => by rw [HOE.out j]; exact (len_none (HNL.out.symm.trans H0.out) hj).symm)
          exact ⟨_, _, rfl, HB1.out.alloc hsz1 _, hr.rd (fun j => by rw [HOL.out]; exact outL_lt l _ j)⟩
  · have hck := HCK.out
    have hae := ask_of_chk hz
    have hE0 : askE l most ≠ 0 := by rw [hae]; exact hz
    obtain ⟨N, hN⟩ : ∃ N, N = l.length := ⟨_, rfl⟩
    obtain ⟨E, hE⟩ : ∃ E, E = askE l most := ⟨_, rfl⟩
    rw [← hae, ← hE, ← hN] at hck
    have hl0 : lenO l most = 0 := by unfold lenO; rw [if_neg hE0]
    rw [hl0, ← hE, ← hN]
    have HOL := Lib.hid (outL_lt l most)
    obtain ⟨ol, hol⟩ : ∃ ol, ol = outL l most := ⟨_, rfl⟩
    rw [← hol] at HOL ⊢
    have hEb : E ≠ 0 := by rw [hE]; exact hE0
    have hEd : (E == 0) = false := by simpa using hEb
    have HC := Lib.hid hck
    clear hck hr hb hz hE hN hol hae hE0 hl0 HCK HR HBD hc hn hEb
    go_enter Try.func9, Try.ntmps9
    go_wp2_with (go_at_call 16; refine HC.out.mono ?_; rintro e w1 ⟨rfl, rfl⟩)
    go_ret2
    exact ⟨none, 0, rfl, Below.refl _ _, HOL.out, fun h => absurd h (by omega)⟩
end Go.Proofs.Ytgppikhfkikknaa
