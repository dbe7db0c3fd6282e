/-
  The law TreeBack, for every lengths, limit, symbol and pen, returns true: what is written by a code is read. No condition.
-/
import Derived.Test.YtedjapamimhglaaTreeBkn
import Derived.Test.YtedjapamimhglaaTreeNam
import Derived.Test.YtedjapamimhglaaCanonImpl
import Derived.Test.YtedjapamimhglaaBitPut
import Derived.Test.YtedjapamimhglaaBitWhole
import Derived.Test.YtedjapamimhglaaBitMem
import Derived.StillTailTactics
import Derived.Deep.RegionWith
import Derived.BigRegion
import Derived.Deep.DeepCutAuto
import Derived.Test.YtedjapamimhglaaStepC
namespace Go.Proofs.Ytedjapamimhglaa
open Go.RowKit Go.ChangeShapes Go.WideShapes Go.ChangeAt
set_option maxRecDepth 100000 in
set_option maxHeartbeats 8000000 in
theorem back5_law (A : Option Addr) (n c : Nat) (f : Nat → Nat) (most sym : Int) (Ap : Option Addr) (lp cp : Nat) (g : Nat → Nat) (pk : Int) (w : World) (hg : RdB w w.heap.size A n f) (_hA : A = none → c = 0) (_h1 : -9223372036854775808 ≤ most) (_h2 : most ≤ 9223372036854775807) (hs1 : -9223372036854775808 ≤ sym) (hs2 : sym ≤ 9223372036854775807)
    (hp : RdB w w.heap.size Ap lp g) (_hAp : Ap = none → cp = 0) (hk1 : -9223372036854775808 ≤ pk) (hk2 : pk ≤ 9223372036854775807) :
    Calls Try.prog 6 #[.slice A n c, .int .i64 most, .int .i64 sym, .agg #[.slice Ap lp cp, .int .i64 pk]] w fun e w' => e = .returned (.bool true) ∧ Below w.heap.size w w' := by
  have hz := (zero_of_info infoTree).1
  have hb0 := (Below.refl w.heap.size w).alloc (Nat.le_refl _) (.cells #[.slice Ap lp cp, .int .i64 pk] 47)
  have hpb : (w.alloc (.cells #[.slice Ap lp cp, .int .i64 pk] 47)).heap[w.heap.size]? = some (.cells #[.slice Ap lp cp, .int .i64 pk] 47 (0, 0)) := heap_alloc_new w _
  have hal := alive5_any (w.alloc (.cells #[.slice Ap lp cp, .int .i64 pk] 47))
  have HB0 := Lib.hid hb0; have HPB := Lib.hid hpb; have HAL := Lib.hid hal; have HG := Lib.hid hg; have HP := Lib.hid hp
  clear hb0 hpb hal hg hp
  go_enter Try.func6, Try.ntmps6
  go_wp2_with fail
  refine HAL.out.mono ?_
  rintro e w1 ⟨rfl, hb1⟩
  have hB1 := HB0.out.trans (hb1.mono HB0.out.size)
  have hp1 := (hb1.block w.heap.size (by simp)).trans HPB.out
  obtain ⟨a2, a3, a4, a5⟩ := pair_cells hp1
  have HB1 := Lib.hid hB1; have HP1 := Lib.hid hp1
  have hw1 : w.heap.size < w1.heap.size := (Array.getElem?_eq_some_iff.1 hp1).1
  clear hb1 hB1 hp1
  by_cases hn1 : 400 < n
  · have hd : decide (400 < (n : Int)) = true := by simp; omega
    go_wp2
    go_ret
    exact ⟨rfl, HB1.out⟩
  have hd : decide (400 < (n : Int)) = false := by simp; omega
  by_cases hl1 : 1000 < lp
  · have hd2 : decide (1000 < (lp : Int)) = true := by simp; omega
    go_wp2
    go_ret
    exact ⟨rfl, HB1.out⟩
  have hd2 : decide (1000 < (lp : Int)) = false := by simp; omega
  have hcd := codes_any w1 A n c f most ((HG.out.below HB1.out (Nat.le_refl _)).more HB1.out.size) (by omega)
  obtain ⟨E, hE⟩ : ∃ E, E = checkE f n most := ⟨_, rfl⟩
  rw [← hE] at hcd
  have HCD := Lib.hid hcd; have HE := Lib.hid hE
  clear hcd hE
  go_wp2_with fail
  refine HCD.out.mono ?_
  rintro e w2 ⟨A', c', rfl, hb2, hout⟩
  have hB2 := HB1.out.trans (hb2.mono HB1.out.size)
  have hp2 := (hb2.block w.heap.size hw1).trans HP1.out
  have hw2 : w.heap.size < w2.heap.size := (Array.getElem?_eq_some_iff.1 hp2).1
  have hgr := tgrow_any w2 A n c f most ((HG.out.below hB2 (Nat.le_refl _)).more hB2.size) (by omega)
  rw [← HE.out] at hgr
  have HGR := Lib.hid hgr; have HB2 := Lib.hid hB2; have HP2 := Lib.hid hp2; have HOUT := Lib.hid hout
  clear hb2 hB2 hp2 hgr hout a2 a3 a4 a5
  go_wp2_with fail
  refine HGR.out.mono ?_
  rintro e w3 ⟨v, rfl, hv, hb3⟩
  have hv1 := hv.one
  have hB3 := HB2.out.trans (hb3.mono HB2.out.size)
  have hp3 := (hb3.block w.heap.size hw2).trans HP2.out
  have hw3s : w.heap.size < w3.heap.size := (Array.getElem?_eq_some_iff.1 hp3).1
  obtain ⟨G, hG⟩ : ∃ G, G = grC f n most := ⟨_, rfl⟩
  rw [← hG]
  obtain ⟨w4, hw4⟩ : ∃ w4, w4 = layV w3 G v := ⟨_, rfl⟩
  have hT4 := layV_tre w3 G v
  have hB4x := layV_below w3 G v
  rw [← hw4] at hT4 hB4x
  have hB4 := hB3.trans (hB4x.mono hB3.size)
  have hv4 := (hv.below hB4x (Nat.le_refl _)).more hB4x.size
  have hp4 := (hB4x.block w.heap.size hw3s).trans hp3
  have hout4 := HOUT.out.below (hb3.trans (hB4x.mono hb3.size)) (Nat.le_refl _)
  have HW4 := Lib.hid hw4; have HV1 := Lib.hid hv1; have HT4 := Lib.hid hT4; have HB4 := Lib.hid hB4; have HV4 := Lib.hid hv4; have HP4 := Lib.hid hp4; have HO4 := Lib.hid hout4; have HGG := Lib.hid hG
  clear hv hv1 hB3 hp3 hG hw4 hT4 hB4x hB4 hv4 hp4 hout4 hb3
  have hZ := Lib.hid (box_tree w3 (fun _ => 0) (.slice none 0 0))
  have hstore := Lib.hid (fun (x : Unit) => trA_one G v HV1.out)
  by_cases hE0 : E = 0
  · subst hE0
    have h0 := HE.out.symm
    have hlen : lenC f n most = n := by unfold lenC; rw [if_pos h0]
    rw [hlen]
    have hO := HO4.out
    rw [hlen] at hO
    have hgt : ∃ F, IsTree G (grS f n most) F := ⟨_, HGG.out ▸ grown_tree h0⟩
    have hsl : (grS f n most).length ≤ 1000000 := by
      unfold grS; rw [if_pos h0, natsI_length, symL_length]
      have := sumC_le f n 15; omega
    have HCK := Lib.hid (fun V (hV : Below w4.heap.size w4 V) => ((tchk_any V G v (grS f n most) ((HV4.out.below hV (Nat.le_refl _)).more hV.size) hsl).mono fun _ _ ⟨h1, h2⟩ => ⟨chk_yes hgt h1, hV.trans (h2.mono hV.size)⟩ : Calls Try.prog 14 #[.agg (trA G v)] V fun e w' => e = .returned (.int .i64 0) ∧ Below w4.heap.size w4 w'))
    have hw34 : w3.heap.size < w4.heap.size := HT4.out.lt
    have hw4s : w.heap.size < w4.heap.size := Nat.lt_trans hw3s hw34
    have HO := Lib.hid hO; have H0 := Lib.hid h0
    clear hlen hO hgt hsl h0
    go_wp2_with (first
      | (refine wpList_store_rowT rfl _ _ _ rfl w3.heap.size (trA G v) rfl rfl _ (trA (fun _ => 0) (.slice none 0 0)) hZ.out (by rw [trA_size]; exact szTree) (by rw [trA_size, trA_size]) (trA_one _ _ HV1.out) ?_; change wpList _ _ _ _ _ (layV w3 G v); rw [← HW4.out])
      | (refine wpList_load_row_on (by rfl) _ _ rfl w3.heap.size rfl _ (trA G v) (0, 0) _ HT4.out Try.underlying25 rfl (by rw [trA_size]; exact szTree) ?_))
    refine (HCK.out _ (Below.refl _ _)).mono ?_
    rintro e w5 ⟨rfl, hb5⟩
    have hB5 := HB4.out.trans (hb5.mono HB4.out.size)
    have hT5 := HT4.out.below hb5 hw34
    have hp5 := (hb5.block w.heap.size hw4s).trans HP4.out
    have hO5 := HO.out.below hb5 (Nat.le_refl _)
    have HB45 := Lib.hid hb5; have HB5 := Lib.hid hB5; have HT5 := Lib.hid hT5; have HP5 := Lib.hid hp5; have HO5 := Lib.hid hO5
    clear hb5 hB5 hT5 hp5 hO5
    by_cases hs0 : sym < 0
    · have hd3 : decide (sym < 0) = true := by simpa using hs0
      go_wp2_with (refine wpList_load_row_on (by rfl) _ _ rfl w3.heap.size rfl _ (trA G v) (0, 0) _ HT5.out Try.underlying25 rfl (by rw [trA_size]; exact szTree) ?_)
      refine (HCK.out _ HB45.out).mono ?_
      rintro e w6 ⟨rfl, hb6⟩
      have HB6 := Lib.hid (HB4.out.trans (hb6.mono HB4.out.size))
      clear hb6
      go_wp2
      go_ret
      exact ⟨rfl, HB6.out⟩
    have hd3 : decide (sym < 0) = false := by simpa using hs0
    by_cases hsn : (n : Int) ≤ sym
    · have hd4 : decide ((n : Int) ≤ sym) = true := by simpa using hsn
      go_wp2_with (refine wpList_load_row_on (by rfl) _ _ rfl w3.heap.size rfl _ (trA G v) (0, 0) _ HT5.out Try.underlying25 rfl (by rw [trA_size]; exact szTree) ?_)
      refine (HCK.out _ HB45.out).mono ?_
      rintro e w6 ⟨rfl, hb6⟩
      have HB6 := Lib.hid (HB4.out.trans (hb6.mono HB4.out.size))
      clear hb6
      go_wp2
      go_ret
      exact ⟨rfl, HB6.out⟩
    have hd4 : decide ((n : Int) ≤ sym) = false := by simpa using hsn
    obtain ⟨i, rfl⟩ := Int.eq_ofNat_of_zero_le (show 0 ≤ sym by omega)
    have hi : i < n := by omega
    rcases HO5.out with hn0 | ⟨b, hA', hbg, hrow⟩
    · omega
    subst hA'
    have q1 := (hrow.cell hi).1
    have q2 := (hrow.cell hi).2
    rw [codeX_in H0.out i hi] at q1
    have hfi := HG.out.1 i
    by_cases hf0 : f i = 0
    · have hz1 : ((f i : Int) == 0) = true := by simpa using hf0
      have hz2 : (f i == 0) = true := by simpa using hf0
      clear hrow hf0
      go_wp2_with (refine wpList_load_row_on (by rfl) _ _ rfl w3.heap.size rfl _ (trA G v) (0, 0) _ HT5.out Try.underlying25 rfl (by rw [trA_size]; exact szTree) ?_)
      refine (HCK.out _ HB45.out).mono ?_
      rintro e w6 ⟨rfl, hb6⟩
      have HB6 := Lib.hid (HB4.out.trans (hb6.mono HB4.out.size))
      clear hb6
      go_wp2
      go_ret
      exact ⟨rfl, HB6.out⟩
    · have hz1 : ((f i : Int) == 0) = false := by simp; omega
      have hz2 : (f i == 0) = false := by simpa using hf0
      have hx32 := codeB_lt H0.out i hi
      obtain ⟨_, hm15, hn3, hbd, hall, _⟩ := check_ok H0.out
      have hm : f i ≤ 15 := by have := hbd i hi; omega
      have hcl := fits_code hi (fun j hj => by have := hbd j hj; omega) hall
      have hft : fitsB ((codeB f n i : Nat) : Int) ((f i : Nat) : Int) = true := fitsB_nat.2 ⟨by omega, hcl⟩
      have hv1 : turnV ((codeB f n i : Nat) : Int) ((f i : Nat) : Int) = turnN (codeB f n i) (f i) := by unfold turnV; rw [if_pos hft, Int.toNat_natCast, Int.toNat_natCast]
      have hv2 : turnE ((codeB f n i : Nat) : Int) ((f i : Nat) : Int) = 0 := by unfold turnE; rw [if_pos hft]
      have htn := fun V => turn_any (codeB f n i) ((f i : Nat) : Int) V hx32 (by omega) (by omega)
      rw [hv1, hv2] at htn
      have htl := turnN_lt (codeB f n i) (f i)
      have hp215 : (2 : Nat) ^ f i ≤ 2 ^ 15 := Nat.pow_le_pow_right (by omega) hm
      have h215 : (2 : Nat) ^ 15 = 32768 := rfl
      obtain ⟨x, hx⟩ : ∃ x, x = codeB f n i := ⟨_, rfl⟩
      obtain ⟨m, hmm⟩ : ∃ m, m = f i := ⟨_, rfl⟩
      obtain ⟨y, hy⟩ : ∃ y, y = turnN (codeB f n i) (f i) := ⟨_, rfl⟩
      rw [← hy] at htn htl
      rw [← hx] at q1 hx32 htn
      rw [← hmm] at q2 hfi hz1 hz2 hm htn htl hp215
      have HTN := Lib.hid htn; have HX := Lib.hid hx; have HM := Lib.hid hmm; have HY := Lib.hid hy; have HROW := Lib.hid hrow; have HFT := Lib.hid hft
      have hy32 : y < 32768 := by omega
      have HTL := Lib.hid htl
      clear htn hx hmm hy hrow hft hv1 hv2 hcl hall hbd htl hp215 h215 hf0
      go_wp2
      have hd5 : decide ((i : Int) < (n : Int)) = true := by simp; omega
      go_quiet ((go_at_call 23; exact Calls.quiet_of_same ((HTN.out _).mono fun _ _ ⟨h1, h2⟩ => ⟨h1, h2.symm⟩)))
      go_wp2
      obtain ⟨U, hU⟩ : ∃ U, U = w5.drewN nq := ⟨_, rfl⟩
      have hU45 : Below w4.heap.size w4 U := hU ▸ below_drawN HB45.out nq
      have hUB : Below w.heap.size w U := hU ▸ below_drawN HB5.out nq
      have hUT : TreA U w3.heap.size G v := hU ▸ HT5.out
      have hUP : U.heap[w.heap.size]? = some (.cells #[.slice Ap lp cp, .int .i64 pk] 47 (0, 0)) := hU ▸ HP5.out
      have u2 : U.cell? ⟨b, i * 2 + 1, none⟩ = some (.int .u8 (m : Int)) := hU ▸ q2
      rw [← hU]
      obtain ⟨a2, a3, a4, a5⟩ := pair_cells hUP
      have HU45 := Lib.hid hU45; have HUB := Lib.hid hUB; have HUT := Lib.hid hUT; have HUP := Lib.hid hUP
      have hwU : w.heap.size < U.heap.size := (Array.getElem?_eq_some_iff.1 hUP).1
      have hwU3 : w3.heap.size < U.heap.size := hUT.lt
      have hbU : b < U.heap.size := by have := World.block_lt_of_cell? U ⟨b, i * 2 + 1, none⟩ u2; exact this
      clear q1 q2 hU hU45 hUB hUT hUP
      have b1 : (i : Int) < (n : Int) := by omega
      have b2 : ¬ (i : Int) < 0 := by omega
      have b3 : ¬ (n : Int) ≤ (i : Int) := by omega
      have hb5d : Below U.heap.size U U.drew := (Below.refl _ _).drew
      have hpr := (HP.out.below HUB.out.drew (Nat.le_refl _)).more (B' := U.drew.heap.size) HUB.out.drew.size
      -- region 11: x, h := bits.Put(p, v, ..)
      by_cases hpe : penE g lp pk = 0
      · obtain ⟨K, rfl, hK2, hlp, hcl⟩ := check_clean HP.out.1 hpe
        have hK8 : K ≤ 8000 := by omega
        obtain ⟨L, hL⟩ : ∃ L, L = (K + m + 7) / 8 := ⟨_, rfl⟩
        have hwm : (m : Int) = IntKind.i64.wrap (m : Int) := by rw [IntKind.wrap_i64]; omega
        have HPUT0 := Lib.hid (fun V (hV : Below U.heap.size U V) => put_ok V Ap lp cp g K m L y ((HP.out.below (HUB.out.trans (hV.mono HUB.out.size)) (Nat.le_refl _)).more (HUB.out.trans (hV.mono HUB.out.size)).size) hpe hK2 (by omega) (by omega) (fitsB_nat.2 ⟨by omega, HTL.out⟩) (by omega) hL)
        have HPUT : Hid (∀ V, Below U.heap.size U V → Calls Try.prog 24 #[.agg #[.slice Ap lp cp, .int .i64 (K : Int)], .int .u32 (y : Int), .int .i64 (IntKind.i64.wrap (m : Int))] V fun e w' => ∃ g', e = .returned (.tuple #[.agg #[.slice (some ⟨g', 0, none⟩) L L, .int .i64 ((K + m : Nat) : Int)], .int .i64 0]) ∧ V.heap.size ≤ g' ∧ Below V.heap.size V w' ∧ Row w' g' L (putF (zext lp g) K y m)) := Lib.hid (fun V hV => by rw [← hwm]; exact HPUT0.out V hV)
        clear hwm HPUT0
        have HCLN := Lib.hid hcl; have HLL := Lib.hid hL; have HLP := Lib.hid hlp
        clear hpr hcl hL hlp
        go_cut [16, 17] (fun v16 v17 wx => v17 = .int .i64 0 ∧ ∃ X g', v16 = .pointer (some ⟨X, 0, none⟩) ∧ wx.cell? ⟨X, 0, none⟩ = some (.slice (some ⟨g', 0, none⟩) L L) ∧ wx.cell? ⟨X, 1, none⟩ = some (.int .i64 ((K + m : Nat) : Int)) ∧ X < wx.heap.size ∧ g' < wx.heap.size ∧ Row wx g' L (putF (zext lp g) K y m) ∧ Below U.heap.size U wx)
        case first =>
          go_region_law ((refine step_call rfl 24 _ _ rfl (enters_of Try.func24 (by kernel_rfl) rfl) (#[.agg #[.slice Ap lp cp, .int .i64 (K : Int)], .int .u32 (y : Int), .int .i64 (IntKind.i64.wrap (m : Int))]) (by simp [Act.put, Act.eval, List.setIfInBounds_toArray, List.set_cons_zero, List.set_cons_succ]) (HPUT.out _ (by first | assumption | exact hb5d.alloc (Nat.le_refl _) _)) ?_; rintro e w6 ⟨g', rfl, hg', hb6, hrow6⟩; (first | (have hzz := box_kept2 hb6; obtain ⟨z1, z2, z3, z4⟩ := hzz) | skip); refine ⟨_, rfl, ?_⟩))
          all_goals (
            go_wp2_with fail
            go_meet
            first
              | exact ⟨rfl, w6.heap.size, g', rfl, by simp, by simp, by simp, by have h := hrow6.lt; simp; omega, hrow6.alloc _, (hb5d.trans hb6).alloc (by have h := hb6.size; exact h) _⟩
              | exact ⟨rfl, U.heap.size, g', rfl, (box_set2 z1 z2).1, by rw [(box_set2 z1 z2).2]; simp, by have h := hb6.size; simp [World.setCell] at h ⊢; omega, by have h := hrow6.lt; simp [World.setCell]; omega, (hrow6.other (by show g' ≠ U.heap.size; have h := hg'; simp at h; omega) _).other (by show g' ≠ U.heap.size; have h := hg'; simp at h; omega) _, ((((Below.refl U.heap.size U).alloc (Nat.le_refl _) _).drew.trans (hb6.mono (by simp))).setCell (p := ⟨U.heap.size, 0, none⟩) (Nat.le_refl _) _).setCell (p := ⟨U.heap.size, 1, none⟩) (Nat.le_refl _) _⟩)
        case rest =>
          obtain ⟨rfl, X, g', rfl, k1, k2, k3, k4, k5, k6⟩ := hcut
          obtain ⟨wx, rfl⟩ : ∃ wx : World, wx = wc := ⟨_, rfl⟩
          have hB6 := HUB.out.trans (k6.mono HUB.out.size)
          have hT6 := HUT.out.below k6 hwU3
          have hp6 := (k6.block w.heap.size hwU).trans HUP.out
          obtain ⟨d2, d3, d4, d5⟩ := pair_cells hp6
          have hB46 := HU45.out.trans (k6.mono HU45.out.size)
          have hsl : (grS f n most).length ≤ 1000000 := by
            unfold grS; rw [if_pos H0.out, natsI_length, symL_length]
            have := sumC_le f n 15; omega
          have hnx := tnext_any wx G v (grS f n most) ((HV4.out.below hB46 (Nat.le_refl _)).more hB46.size) hsl (some ⟨g', 0, none⟩) L L (putF (zext lp g) K y m) (k5.rd (HCLN.out.put y m).1) (by have := HLL.out; omega) (K : Int) (by omega) (by omega)
          have HNX := Lib.hid hnx; have HT6 := Lib.hid hT6; have HB6 := Lib.hid hB6; have HWX := Lib.hid k3
          clear hB6 hT6 hp6 hB46 hsl hnx k4 k5 k6 d4 d5
          go_wp2_with (first
            | (refine wpList_load_row_on (by rfl) _ _ rfl w3.heap.size rfl _ (trA G v) (0, 0) _ HT6.out Try.underlying25 rfl (by rw [trA_size]; exact szTree) ?_)
            | (refine wpList_load_row rfl _ _ rfl w3.heap.size rfl _ (trA G v) (0, 0) _ HT6.out Try.underlying25 rfl (by rw [trA_size]; exact szTree) ?_))
          refine HNX.out.mono ?_
          rintro e w7 ⟨ho, hb7⟩
          have k2' : w7.cell? ⟨X, 1, none⟩ = some (.int .i64 ((K + m : Nat) : Int)) := (hb7.cell (p := ⟨X, 1, none⟩) HWX.out).trans k2
          have ho2 := ho
          rw [HGG.out] at ho2
          have hrd := grown_read H0.out ho2
          have hbr := back_read H0.out hi (by have := HM.out; simp at hz1; omega) (G := putF (zext lp g) K y m) (L := L) (K := K) (fun j hj => by rw [putF_there HCLN.out y j m (by rw [HM.out]; exact hj), HY.out]) (by have := HLL.out; have := HM.out; omega)
          rw [if_neg (by omega), Int.toNat_natCast, hbr, ← HM.out] at hrd
          subst hrd
          have HB7 := Lib.hid (HB6.out.trans (hb7.mono HB6.out.size))
          have hee : (((K + m : Nat) : Int) == ((K + m : Nat) : Int)) = true := by simp
          have hee2 : ((i : Int) == (i : Int)) = true := by simp
          clear hbr ho ho2 hb7 k1 k2 d2 d3
          simp only [RdOut]
          go_wp2
          go_ret
          exact ⟨rfl, HB7.out⟩
      · have hpe8 : penE g lp pk = 8 := by
          unfold penE at hpe ⊢
          split
          · rename_i h; rw [if_pos h] at hpe; exact absurd rfl hpe
          · rfl
        have hwm : (m : Int) = IntKind.i64.wrap (m : Int) := by rw [IntKind.wrap_i64]; omega
        have HPUT : Hid (∀ V, Below U.heap.size U V → Calls Try.prog 24 #[.agg #[.slice Ap lp cp, .int .i64 pk], .int .u32 (y : Int), .int .i64 (IntKind.i64.wrap (m : Int))] V fun e w' => e = .returned (.tuple #[.agg #[.slice none 0 0, .int .i64 0], .int .i64 8]) ∧ Below V.heap.size V w') := Lib.hid (fun V hV => put_bad V Ap lp cp g pk _ y ((HP.out.below (HUB.out.trans (hV.mono HUB.out.size)) (Nat.le_refl _)).more (HUB.out.trans (hV.mono HUB.out.size)).size) hpe8)
        have HPE := Lib.hid hpe8
        clear hpr hwm hpe hpe8
        go_cut [16, 17] (fun v16 v17 wx => v17 = .int .i64 8 ∧ (∃ X, v16 = .pointer (some ⟨X, 0, none⟩)) ∧ Below U.heap.size U wx)
        case first =>
          go_region_law ((refine step_call rfl 24 _ _ rfl (enters_of Try.func24 (by kernel_rfl) rfl) (#[.agg #[.slice Ap lp cp, .int .i64 pk], .int .u32 (y : Int), .int .i64 (IntKind.i64.wrap (m : Int))]) (by simp [Act.put, Act.eval, List.setIfInBounds_toArray, List.set_cons_zero, List.set_cons_succ]) (HPUT.out _ (by first | assumption | exact hb5d.alloc (Nat.le_refl _) _)) ?_; rintro e w6 ⟨rfl, hb6⟩; (first | (have hzz := box_kept2 hb6; obtain ⟨z1, z2, z3, z4⟩ := hzz) | skip); refine ⟨_, rfl, ?_⟩))
          all_goals (
            go_wp2_with fail
            go_meet
            first
              | exact ⟨rfl, ⟨_, rfl⟩, (hb5d.trans hb6).alloc (by have h := hb6.size; exact h) _⟩
              | exact ⟨rfl, ⟨_, rfl⟩, ((((Below.refl U.heap.size U).alloc (Nat.le_refl _) _).drew.trans (hb6.mono (by simp))).setCell (p := ⟨U.heap.size, 0, none⟩) (Nat.le_refl _) _).setCell (p := ⟨U.heap.size, 1, none⟩) (Nat.le_refl _) _⟩)
        case rest =>
          obtain ⟨rfl, ⟨X, rfl⟩, k6⟩ := hcut
          obtain ⟨wx, rfl⟩ : ∃ wx : World, wx = wc := ⟨_, rfl⟩
          have hB6 := HUB.out.trans (k6.mono HUB.out.size)
          have hp6 := (k6.block w.heap.size hwU).trans HUP.out
          obtain ⟨d2, d3, d4, d5⟩ := pair_cells hp6
          have hck := pcheck_any wx Ap lp cp g pk ((HP.out.below hB6 (Nat.le_refl _)).more hB6.size)
          rw [HPE.out] at hck
          have HCK2 := Lib.hid hck; have HB6 := Lib.hid hB6
          clear hB6 hp6 hck k6
          go_wp2_with (go_at_call 25; refine HCK2.out.mono ?_; rintro e w7 ⟨rfl, hb7⟩; have HB7 := Lib.hid hb7; clear hb7)
          go_ret
          exact ⟨rfl, HB6.out.trans (HB7.out.mono HB6.out.size)⟩
  · have hne : (E != 0) = true := by simpa using hE0
    have hee : (E == E) = true := by simp
    clear hE0
    go_wp2_with (refine wpList_store_rowT rfl _ _ _ rfl w3.heap.size (trA G v) rfl rfl _ (trA (fun _ => 0) (.slice none 0 0)) hZ.out (by rw [trA_size]; exact szTree) (by rw [trA_size, trA_size]) (trA_one _ _ HV1.out) ?_; change wpList _ _ _ _ _ (layV w3 G v); rw [← HW4.out])
    go_ret
    exact ⟨rfl, HB4.out⟩
end Go.Proofs.Ytedjapamimhglaa
