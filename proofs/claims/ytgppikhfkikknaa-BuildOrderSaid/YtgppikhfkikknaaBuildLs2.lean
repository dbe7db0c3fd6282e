/-
  Layer 4 (build): the document's own least lengths: the walk.
-/
import Derived.Test.YtgppikhfkikknaaBuildLst
namespace Go.Proofs.Ytgppikhfkikknaa
open Go.RowKit
set_option maxRecDepth 100000 in
set_option maxHeartbeats 8000000 in
theorem least_any (w : World) (A : Option Addr) (c : Nat) (l : List Int) (hr : RdI w w.heap.size A l) (A2 : Option Addr) (c2 : Nat) (hr2 : RdI w w.heap.size A2 (natsI (itemsL (freqN l) l.length))) (L : Nat) (hL1 : 1 ≤ L) (hL2 : L ≤ 15)
    (N n : Nat) (hN : N = l.length) (hnn : n = nI (freqN l) l.length) (h2 : 2 ≤ n) (hn : n ≤ 2 ^ L) (hl : N ≤ 400) (hb : ∀ j, j < l.length → 0 ≤ l.getD j 0 ∧ l.getD j 0 ≤ 1073741824) :
    Calls Try.prog 31 #[.slice A N c, .slice A2 n c2, .int .i64 (L : Int)] w fun e w' => ∃ g, e = .returned (.slice (some ⟨g, 0, none⟩) N N) ∧ w.heap.size ≤ g ∧ Below w.heap.size w w' ∧ RowW w' g N (lenB (freqN l) N L) := by
  have hnle := nI_le (freqN l) l.length
  rw [← hnn, ← hN] at hnle
  have hmk := make_u8 N (by omega)
  have hLB : ∀ j, j < n → rankN (freqN l) N ((itemsL (freqN l) N).getD j 0) = j ∧ (itemsL (freqN l) N).getD j 0 < N ∧ 0 < freqN l ((itemsL (freqN l) N).getD j 0) := fun j hj => by
    rw [hN]; exact rank_of (by omega)
  have hil : (natsI (itemsL (freqN l) l.length)).length = n := by rw [natsI_length, items_length, hnn]
  have hWM : ∀ i, i < n → itemW (freqN l) N i ≤ 1073741824 := fun i hi => by
    have h := (hLB i hi).2.1
    have hb2 := hb ((itemsL (freqN l) N).getD i 0) (by omega)
    show (l.getD ((itemsL (freqN l) N).getD i 0) 0).toNat ≤ _
    omega
  have hrow := rowLen_enough (n := n) hL1 hn
  have hfew := rowLen_few h2 (by omega : n ≤ 400) (L - 1)
  have HR := Lib.hid hr; have HR2 := Lib.hid hr2; have HBD := Lib.hid hb; have HP := Lib.hid hn; have HN := Lib.hid hN; have HNN := Lib.hid hnn; have HLB := Lib.hid hLB; have HIL := Lib.hid hil; have HWM := Lib.hid hWM; have HROW := Lib.hid hrow; have HFEW := Lib.hid hfew
  clear hr hr2 hb hn hN hnn hLB hil hWM hrow hfew
  go_enter Try.func31, Try.ntmps31
  go_wp2_with (go_at_call 36; refine (first_it _ A c l HR.out A2 c2 HR2.out N n HN.out HNN.out hl HBD.out).mono ?_; rintro e w1 ⟨Ao, co, rfl, hb1, hone⟩; have HB1 := Lib.hid hb1; have HONE := Lib.hid hone; clear hb1 hone)
  go_loopw [8, 9] (fun r k wr => ∃ (K : Nat) (Ar : Option Addr) (cr : Nat), K + 1 ≤ L ∧ k = .int .i64 (K + 1 : Nat) ∧ r = .slice Ar (rowLen n K) cr ∧ RdP wr wr.heap.size Ar n (rowLen n K) (rowW n (itemW (freqN l) N) K) (conN n (itemW (freqN l) N) K) ∧ Below w1.heap.size w1 wr ∧ Below w.heap.size w wr) (fun _ k _ => L - (intOf k).toNat)
  case atStart => exact ⟨0, Ao, co, hL1, rfl, rfl, HONE.out, Below.refl _ _, HB1.out⟩
  case round =>
    obtain ⟨K, Ar, cr, hK, rfl, rfl, hrd, hb1, hb⟩ := hrel
    obtain ⟨wo, rfl⟩ : ∃ wo : World, wo = wr := ⟨_, rfl⟩
    have HRD := Lib.hid hrd; have HB2 := Lib.hid hb1; have HB := Lib.hid hb
    clear hrd hb1 hb
    by_cases hlt : K + 1 < L
    · have hlt2 : ((K + 1 : Nat) : Int) < (L : Int) := by omega
      obtain ⟨K1, hK1⟩ : ∃ K1, K1 = K + 1 := ⟨_, rfl⟩
      rw [← hK1] at hlt2 hlt hK ⊢
      go_wp2_with (first
        | (go_at_call 38; refine (pairs_it _ Ar cr n K _ HRD.out h2 (by omega) (by omega) HWM.out).mono ?_; rintro e w3 ⟨Ap, cp, rfl, hb3, hpr⟩; have HB3 := Lib.hid hb3; have HPR := Lib.hid hpr; clear hb3 hpr)
        | (go_at_call 37; refine (merged_it _ Ao co n K _ ((HONE.out.below (HB2.out.trans (HB3.out.mono HB2.out.size)) (Nat.le_refl _)).more (HB2.out.trans (HB3.out.mono HB2.out.size)).size) Ap cp HPR.out h2 (by omega)).mono ?_; rintro e w4 ⟨Am, cm, rfl, hb4, hmr⟩; have HB4 := Lib.hid hb4; have HMR := Lib.hid hmr; clear hb4 hmr))
      go_roundw
      case rel =>
        have b3 := HB2.out.trans (HB3.out.mono HB2.out.size)
        have b4 := b3.trans (HB4.out.mono b3.size)
        have b5 := HB.out.trans (HB3.out.mono HB.out.size)
        exact ⟨K + 1, Am, cm, by omega, val_int (by omega), rfl, HMR.out, b4, b5.trans (HB4.out.mono b5.size)⟩
      case measure => simp [intOf]; omega
    · obtain rfl : L = K + 1 := by omega
      have hsz := HB.out.size
      obtain ⟨ar, orr, rfl, har, hcc⟩ := HRD.out.at (by have := HROW.out; rw [Nat.add_sub_cancel] at this; omega)
      have HCC := Lib.hid hcc
      have HMADE := Lib.hid (rowW_made wo N)
      have HBA := Lib.hid ((Below.refl wo.heap.size wo).alloc (Nat.le_refl _) (.cells (madeCells #[.int .u8 0] N) 5))
      have hRL : 2 * n - 2 ≤ rowLen n K := by have := HROW.out; rwa [Nat.add_sub_cancel] at this
      have HFW := HFEW.out.1
      rw [Nat.add_sub_cancel] at HFW
      clear hcc HROW HFEW
      obtain ⟨m, hm⟩ : ∃ m, m = rowLen n K := ⟨_, rfl⟩
      rw [← hm] at hRL HFW HCC ⊢
      have HM := Lib.hid hm
      clear hm
      go_wp2
      go_loopw [11, 12] (fun i _ wr => ∃ t : Nat, t ≤ 2 * n - 2 ∧ i = .int .i64 t ∧ RowW wr wo.heap.size N (outB (freqN l) N K t 0) ∧ Below wo.heap.size wo wr ∧ wo.heap.size < wr.heap.size) (fun i _ _ => 2 * n - (intOf i).toNat)
      case atStart => exact ⟨0, Nat.zero_le _, rfl, HMADE.out.ext (fun j _ => (outB_start _ _ _ _).symm), HBA.out, by simp⟩
      case round =>
        obtain ⟨t, ht, rfl, hrow, hbi, hszi⟩ := hrel
        by_cases htn : t < 2 * n - 2
        · have htni : (t : Int) < 2 * (n : Int) - 2 := by omega
          have HROW := Lib.hid hrow; have HBI := Lib.hid hbi
          clear hrow hbi
          go_wp2
          go_loopw [12] (fun k wi => ∃ j : Nat, j ≤ n ∧ k = .int .i64 j ∧ RowW wi wo.heap.size N (outB (freqN l) N K t j) ∧ Below wo.heap.size wo wi ∧ wo.heap.size < wi.heap.size) (fun k _ => n - (intOf k).toNat)
          case atStart => exact ⟨0, Nat.zero_le _, rfl, HROW.out, HBI.out, hszi⟩
          case round =>
            obtain ⟨j, hj, rfl, hrow, hbi, hszi⟩ := hrel
            obtain ⟨wi, rfl⟩ : ∃ wi : World, wi = wr := ⟨_, rfl⟩
            by_cases hjn : j < n
            · have hbw := HB.out.trans (hbi.mono hsz)
              obtain ⟨b2, o2, rfl, hb2, hc2⟩ := (HR2.out.below hbw (Nat.le_refl _)).at (k := j) (by rw [HIL.out]; exact hjn)
              have c1 := hc2 j (by rw [HIL.out]; exact hjn)
              rw [natsI_get, ← HN.out] at c1
              obtain ⟨b, _, g2, hbb, g3⟩ := HCC.out t (by omega)
              have c2 : wi.cell? ⟨ar, orr + t * 2 + 1, none⟩ = some (.slice (some ⟨b, 0, none⟩) n n) := by rw [hbi.cell (p := ⟨ar, orr + t * 2 + 1, none⟩) har]; exact g2
              have c3 : wi.cell? ⟨b, j, none⟩ = some (.int .i64 (conN n (itemW (freqN l) N) K t j : Int)) := by rw [hbi.cell (p := ⟨b, j, none⟩) hbb]; exact g3 j hjn
              obtain ⟨hs1, hs2, hs3⟩ := HLB.out j hjn
              have hoa := outB_at (F := freqN l) (N := N) (k := j) (by rw [HN.out, ← HNN.out]; exact hjn) K t
              have hos := outB_step (F := freqN l) (N := N) (k := j) (by rw [HN.out, ← HNN.out]; exact hjn) K t
              have hnn2 : nI (freqN l) N = n := by rw [HN.out]; exact HNN.out.symm
              rw [hnn2] at hoa hos
              have hsm := sm_con_le (n := n) (w := itemW (freqN l) N) (K := K) (t := t) (k := j) (by rw [← HM.out]; omega)
              obtain ⟨s, hs⟩ : ∃ s, s = (itemsL (freqN l) N).getD j 0 := ⟨_, rfl⟩
              obtain ⟨x, hx⟩ : ∃ x, x = conN n (itemW (freqN l) N) K t j := ⟨_, rfl⟩
              obtain ⟨y, hy⟩ : ∃ y, y = sm (fun s => conN n (itemW (freqN l) N) K s j) t := ⟨_, rfl⟩
              rw [← hs] at c1 hs1 hs2 hs3 hoa hos
              rw [← hx] at c3 hos hsm
              rw [← hy] at hoa hos hsm
              have c4 := hrow.cell hs2
              rw [hoa] at c4
              have hfz := hrow.frozen s
              have HROW2 := Lib.hid hrow; have HBI2 := Lib.hid hbi; have HOS := Lib.hid hos
              have hx2 : x ≤ 15 := by omega
              have hxy : x + y ≤ 15 := by omega
              have hbsz : b2 < wo.heap.size := by omega
              clear hrow hbi hos hoa hs hx hy hs1 hs3 hsm hc2 g2 g3 hnn2 hbw
              go_wp2
              go_region
              go_wp2
              go_roundw
              case rel =>
                have hset := HROW2.out.set s (y + x)
                rw [HOS.out, Int.natCast_add] at hset
                refine ⟨j + 1, by omega, by go_num, hset, (HBI2.out.setCell (Nat.le_refl _) _).drew, ?_⟩
                show wo.heap.size < (wi.setCell _ _).heap.size
                simpa [World.setCell] using hszi
              case measure => simp [intOf]; omega
            · obtain rfl : j = n := by omega
              have HROW2 := Lib.hid hrow; have HBI2 := Lib.hid hbi
              clear hrow hbi hjn hj
              go_wp2
              go_roundw
              case rel => exact ⟨t + 1, by omega, by go_num, HROW2.out.ext (fun i _ => by rw [← outB_next, HN.out, ← HNN.out]), HBI2.out, hszi⟩
              case measure => simp [intOf]; omega
        · obtain rfl : t = 2 * n - 2 := by omega
          have hte : decide (((2 * n - 2 : Nat) : Int) < 2 * (n : Int) - 2) = false := by simp; omega
          have HROW := Lib.hid hrow; have HBI := Lib.hid hbi
          clear hrow hbi
          go_wp2
          go_ret
          refine ⟨_, rfl, hsz, HB.out.trans (HBI.out.mono hsz), HROW.out.ext fun i hi => ?_⟩
          have h := outB_end (F := freqN l) (N := N) (L := K + 1) (i := i) (by rw [HN.out, ← HNN.out]; exact h2) (by omega) (by rw [HN.out, ← HNN.out]; exact HP.out) hi
          rw [← h, HN.out, ← HNN.out, Nat.add_sub_cancel]
end Go.Proofs.Ytgppikhfkikknaa
