/-
  Layer 5 (tree): what the program's Next answers, for every tree, bytes and place.
-/
import Derived.Test.YtedjapamimhglaaImpTNx
import Derived.Great.BuildSlice
namespace Go.Proofs.Ytedjapamimhglaa
open Go.RowKit
theorem numN_one (g : Nat → Nat) (k : Nat) : numN g k 1 = bitAt g k := by simp [numN]
/-- The reading goes on: what is told is told from here. -/
def Gone (f : Nat → Nat) (g : Nat → Nat) (l at_ n : Nat) : Prop := readR f 320 g l at_ 17 0 = readR f 320 g l at_ (17 - n) n ∧ fndN f 320 (bvN g at_ n) n 320 = none
theorem gone_none (f g : Nat → Nat) (l at_ : Nat) : Gone f g l at_ 0 := ⟨rfl, fndN_none.2 fun i _ => decide_eq_false fun h => by omega⟩
theorem gone_code {f g : Nat → Nat} {l at_ n : Nat} (h : Gone f g l at_ n) (hn : n ≤ 15) (hm : morN f 320 (bvN g at_ n) n 320 = false) : readR f 320 g l at_ 17 0 = (0, 0, 50) := by
  rw [h.1, show 17 - n = (16 - n) + 1 by omega]
  simp only [readR]
  rw [h.2]
  simp only
  rw [if_pos hm]
theorem gone_end {f g : Nat → Nat} {l at_ n : Nat} (h : Gone f g l at_ n) (hn : n ≤ 15) (hm : morN f 320 (bvN g at_ n) n 320 = true) (hl : 8 * l ≤ at_ + n) : readR f 320 g l at_ 17 0 = (0, 0, 10) := by
  rw [h.1, show 17 - n = (16 - n) + 1 by omega]
  simp only [readR]
  rw [h.2]
  simp only
  rw [if_neg (by rw [hm]; decide), if_pos hl]
theorem gone_on {f g : Nat → Nat} {l at_ n : Nat} (h : Gone f g l at_ n) (hn : n ≤ 15) (hm : morN f 320 (bvN g at_ n) n 320 = true) (hl : at_ + n < 8 * l) : readR f 320 g l at_ 17 0 = readR f 320 g l at_ (17 - (n + 1)) (n + 1) := by
  rw [h.1, show 17 - n = (17 - (n + 1)) + 1 by omega]
  simp only [readR]
  rw [h.2]
  simp only
  rw [if_neg (by rw [hm]; decide), if_neg (by omega)]
theorem gone_found {f g : Nat → Nat} {l at_ n i : Nat} (h : Gone f g l at_ n) (hn : n < 15) (hm : morN f 320 (bvN g at_ n) n 320 = true) (hl : at_ + n < 8 * l) (hf : fndN f 320 (bvN g at_ (n + 1)) (n + 1) 320 = some i) : readR f 320 g l at_ 17 0 = (i, at_ + (n + 1), 0) := by
  rw [gone_on h (by omega) hm hl, show 17 - (n + 1) = (15 - n) + 1 by omega]
  simp only [readR]
  rw [hf]
set_option maxRecDepth 100000 in
theorem built_rdg (c : Nat → Int) (A : Option Addr) (m cap : Nat) : Try.prog.built 73 [(0, .agg (cntV c).toArray), (1, .slice A m cap)] = some (rdgA c (.slice A m cap) 0 0) := by
  kernel_rfl
theorem rdgA_one (c : Nat → Int) (v : Value) (n a : Int) (hv : v.oneCell' = true) : (rdgA c v n a).all (·.oneCell') = true :=
  all_oneCell_toArray fun u hu => by
    unfold rdgL cntV at hu
    rcases List.mem_append.1 hu with h | h
    · obtain ⟨i, _, rfl⟩ := List.mem_map.1 h; rfl
    · simp at h
      rcases h with rfl | rfl | rfl
      · exact hv
      · rfl
      · rfl
set_option maxRecDepth 100000 in
set_option maxHeartbeats 2000000 in
theorem tnext_any (w : World) (c : Nat → Int) (v : Value) (s : List Int) (hv : RdS w w.heap.size v s) (hs : s.length ≤ 1000000) (Ab : Option Addr) (l cb : Nat) (g : Nat → Nat) (hg : RdB w w.heap.size Ab l g) (hl : l ≤ 1000000) (a : Int) (ha0 : -9223372036854775808 ≤ a) (ha : a ≤ 9223372036854775807) :
    Calls Try.prog 20 #[.agg (trA c v), .slice Ab l cb, .int .i64 a] w fun e w' => NxtOut c s g l a e ∧ Below w.heap.size w w' := by
  have hz := (zero_of_info infoRdg).1
  have hb := (Below.refl w.heap.size w).alloc (Nat.le_refl _) (.cells (trA c v) 25)
  have hcl := tchk_any (w.alloc (.cells (trA c v) 25)) c v s ((hv.below hb (Nat.le_refl _)).more hb.size) hs
  have HCL := Lib.hid hcl; have HB := Lib.hid hb; have HT := Lib.hid (box_tree w c v); have HG := Lib.hid hg; have HV := Lib.hid hv
  have hT0 := box_tree w c v
  clear hcl hb hg hv
  go_enter Try.func20, Try.ntmps20
  go_wp2_with (refine wpList_load_row rfl _ _ rfl w.heap.size rfl _ (trA c v) (0, 0) _ HT.out Try.underlying25 rfl (by rw [trA_size]; exact szTree) ?_)
  refine HCL.out.mono ?_
  rintro e w2 ⟨hout, hb2⟩
  have hT2 := hT0.below hb2 (by simp)
  have HT2 := Lib.hid hT2
  have HB2 := Lib.hid (HB.out.trans (hb2.mono HB.out.size))
  have hsz2 : w.heap.size < w2.heap.size := by have := hb2.size; simp at this; omega
  clear hb2 hT2 hT0
  rcases hout with ⟨⟨f, hf⟩, rfl⟩ | ⟨hno, rfl⟩
  · by_cases ha1 : a < 0
    · have hd : decide (a < 0) = true := by simpa using ha1
      have HF := Lib.hid hf
      have hx : nxtP f g l a = (0, 0, 2) := by unfold nxtP; rw [if_pos ha1]
      have HX := Lib.hid hx
      clear hf hx
      go_wp2
      go_ret3
      exact ⟨.inl ⟨f, HF.out, by rw [HX.out]; rfl⟩, HB2.out⟩
    · have hd : decide (a < 0) = false := by simpa using ha1
      obtain ⟨at_, rfl⟩ := Int.eq_ofNat_of_zero_le (show 0 ≤ a by omega)
      have hx : nxtP f g l (at_ : Int) = readR f 320 g l at_ 17 0 := by unfold nxtP; rw [if_neg ha1, Int.toNat_natCast]
      have HF := Lib.hid hf; have HX := Lib.hid hx
      have k1 := HT2.out.syms
      have hnew : Rdg (w2.alloc (.cells (rdgA (fun _ => 0) (.slice none 0 0) 0 0) 73)) w2.heap.size (fun _ => 0) (.slice none 0 0) 0 0 := heap_alloc_new w2 _
      have HNEW := Lib.hid hnew
      obtain ⟨A, cap, rfl, hra, hna⟩ := HV.out
      have HRA := Lib.hid hra; have HNA := Lib.hid hna
      clear hf hx hnew hra hna
      obtain ⟨m, hm⟩ : ∃ m, m = s.length := ⟨_, rfl⟩
      rw [← hm] at k1
      have HM := Lib.hid hm
      clear hm
      clear ha0 HCL HB HT HV ha1
      go_wp2_with (first
        | (refine wpList_load_mid rfl _ _ rfl w.heap.size 0 rfl (cntV c) _ HT2.out.range Try.underlying22 rfl (by rw [cntV_length]; exact szCnt) ?_)
        | (refine wpList_buildTo rfl 73 #[(0, .tmp 23), (1, .tmp 25)] rfl (some 26) rfl (rdgA c (.slice A m cap) 0 0) ?_ ?_; focus (simpa [Act.eval] using built_rdg c A m cap))
        | (refine wpList_store_rowT rfl _ _ _ rfl w2.heap.size (rdgA c (.slice A m cap) 0 0) rfl rfl _ (rdgA (fun _ => 0) (.slice none 0 0) 0 0) HNEW.out (by rw [rdgA_size]; exact szRdg) (by rw [rdgA_size, rdgA_size]) (rdgA_one _ _ _ _ rfl) ?_))
      have hB3 : Below w.heap.size w ((w2.alloc (.cells (rdgA (fun _ => 0) (.slice none 0 0) 0 0) 73)).setRow w2.heap.size (rdgA c (.slice A m cap) 0 0)) := below_setRowT (HB2.out.alloc (by omega) _) (by omega) _
      have hR3 : Rdg ((w2.alloc (.cells (rdgA (fun _ => 0) (.slice none 0 0) 0 0) 73)).setRow w2.heap.size (rdgA c (.slice A m cap) 0 0)) w2.heap.size c (.slice A m cap) ((0 : Nat) : Int) ((0 : Nat) : Int) := setRow_heap _ _ _ _ _ _ HNEW.out
      have HB3 := Lib.hid hB3; have HR3 := Lib.hid hR3
      clear hB3 hR3 HNEW k1
      simp only [Act.put]
      go_loopw [2] (fun av wr => ∃ (n ah k cp : Nat) (A2 : Option Addr), n ≤ 15 ∧ ah ≤ 1000000 ∧ k ≤ cp ∧ cp ≤ maxLen ∧ k ≤ 1000000 ∧ av = .int .i64 ((at_ + n : Nat) : Int) ∧ Hid (Rdg wr w2.heap.size c (.slice A2 k cp) (n : Int) (ah : Int)) ∧ Hid (k = (s.drop (sumC f 320 n)).length) ∧ Hid (RdI wr w2.heap.size A2 (s.drop (sumC f 320 n))) ∧ Hid (A2 = none → cp = 0) ∧ Hid (ah * pt n + sumTo f 320 n = bvN g at_ n * pt n) ∧ Hid (Gone f g l at_ n) ∧ (n = 0 ∨ at_ + n ≤ 8 * l) ∧ Hid (Below w.heap.size w wr)) (fun av _ => 8 * l + 1 - (intOf av).toNat)
      case atStart =>
        refine ⟨0, 0, m, cap, A, by omega, by omega, by rw [HM.out]; exact HNA.out.2.1, HNA.out.2.2, by rw [HM.out]; exact hs, rfl, HR3, Lib.hid (by rw [HM.out]; rfl), Lib.hid ?_, Lib.hid HNA.out.1, Lib.hid ?_, Lib.hid (gone_none f g l at_), .inl rfl, HB3⟩
        · exact ((HRA.out.below HB3.out (Nat.le_refl _)).more (by omega))
        · simp [sumTo, bvN]
      case round =>
        obtain ⟨n, ah, k, cp, A2, hn, hah, hkc, hcp, hk6, rfl, HRG, HK, HRI, HNC, HE, HGO, hal, HBW⟩ := hrel
        have hf := HF.out
        have h15 := isTree_lens hf
        obtain ⟨_, _, _, _, hall, hcomp⟩ := check_ok hf.1
        have hsl := (isTree_length hf).1
        have hv := bvN_lt g at_ n
        have hmo := cnt_more (v := bvN g at_ n) h15 hall hcomp hn hv (by rw [← HE.out]; omega)
        have hkk : k = sumC f 320 15 - sumC f 320 n := by rw [HK.out, List.length_drop, hsl]
        by_cases hk0 : k = 0
        · have hmf : morN f 320 (bvN g at_ n) n 320 = false := by rw [hmo]; exact decide_eq_false (by omega)
          have hres := Lib.hid (gone_code HGO.out hn hmf)
          subst hk0
          have hop := open_any wr w2.heap.size c A2 0 cp (n : Int) (ah : Int) HRG.out
          rw [show decide (0 < 0) = false from rfl] at hop
          have HOP := Lib.hid hop
          clear hf h15 hall hcomp hsl hv hmo hkk hmf hop
          go_wp2_with (go_at_call 33; refine HOP.out.mono ?_; rintro e w' ⟨rfl, rfl⟩)
          go_ret3
          exact ⟨.inl ⟨f, HF.out, by rw [HX.out, hres.out]; rfl⟩, HBW.out⟩
        · have hlt : sumC f 320 n < sumC f 320 15 := by omega
          have hmt : morN f 320 (bvN g at_ n) n 320 = true := by rw [hmo]; exact decide_eq_true hlt
          have hn15 : n < 15 := by
            rcases Nat.lt_or_ge n 15 with h | h
            · exact h
            · obtain rfl : n = 15 := by omega
              omega
          have hop := open_any wr w2.heap.size c A2 k cp (n : Int) (ah : Int) HRG.out
          rw [decide_eq_true (show 0 < k by omega)] at hop
          have HOP := Lib.hid hop
          have hgb := (HG.out.below HBW.out (Nat.le_refl _)).more HBW.out.size
          by_cases hend : 8 * l < at_ + n + 1
          · have hres := Lib.hid (gone_end HGO.out hn hmt (by omega))
            have htk := take_end wr Ab l cb (at_ + n) 1 (by omega) (by omega) (by omega) hend
            have HTK := Lib.hid htk
            clear hf h15 hall hcomp hsl hv hmo hkk hmt hop htk hgb hlt
            go_wp2_with (first
              | (go_at_call 33; refine HOP.out.mono ?_; rintro e w' ⟨rfl, rfl⟩)
              | (go_at_call 34; refine HTK.out.mono ?_; rintro e w' ⟨rfl, rfl⟩))
            go_ret3
            exact ⟨.inl ⟨f, HF.out, by rw [HX.out, hres.out]; rfl⟩, HBW.out⟩
          · have htk := take_ok wr w.heap.size Ab l cb g (at_ + n) 1 (HG.out.below HBW.out (Nat.le_refl _)) (by omega) (by omega) (by omega)
            rw [numN_one] at htk
            have hb2 := bitAt_lt g (at_ + n)
            have hbv : bvN g at_ (n + 1) = 2 * bvN g at_ n + bitAt g (at_ + n) := rfl
            obtain ⟨bit, hbit⟩ : ∃ bit, bit = bitAt g (at_ + n) := ⟨_, rfl⟩
            rw [← hbit] at htk hb2 hbv
            have hx := cnt_bit (b := bit) (show n + 1 ≤ 15 by omega) HE.out
            rw [← hbv] at hx
            have hcq := hf.2.2.1 (n + 1) (by omega)
            have hs1 : sumC f 320 (n + 1) = sumC f 320 n + tcN f (n + 1) 320 := rfl
            have hs2 := sumC_mono f 320 (show n + 1 ≤ 15 by omega)
            have hfnd := cnt_found (f := f) (N := 320) (v := bvN g at_ (n + 1)) (show n + 1 ≤ 15 by omega) hx
            have hnon := cnt_none (f := f) (N := 320) (v := bvN g at_ (n + 1)) (show n + 1 ≤ 15 by omega) hx
            have hpst := cnt_past (f := f) (N := 320) (v := bvN g at_ (n + 1)) hx
            have hsym := fun (x : Nat) (h : x < tcN f (n + 1) 320) => (sym_at hf (show 0 < n + 1 by omega) (by omega) h).1
            have hon := gone_on HGO.out hn hmt (by omega)
            have hgf := fun (i : Nat) => gone_found (i := i) HGO.out hn15 hmt (by omega)
            obtain ⟨q, hq⟩ : ∃ q, q = tcN f (n + 1) 320 := ⟨_, rfl⟩
            rw [← hq] at hcq hs1 hfnd hnon hpst hsym
            have htak := take1_any wr w2.heap.size c A2 k cp n ah bit q (s.drop (sumC f 320 n)) HRG.out HK.out HRI.out hkc hcp hn15 hah hb2 hcq (by omega)
            have hat1 : at_ + n + 1 ≤ 8 * l := by omega
            have hdrop : (s.drop (sumC f 320 n)).drop q = s.drop (sumC f 320 (n + 1)) := by rw [List.drop_drop, hs1]
            have hgetd := fun (x : Nat) => (show (s.drop (sumC f 320 n)).getD x 0 = s.getD (sumC f 320 (n + 1 - 1) + x) 0 from by rw [List.getD_eq_getElem?_getD, List.getElem?_drop, ← List.getD_eq_getElem?_getD]; rfl)
            have HTK := Lib.hid htk; have HTAK := Lib.hid htak; have HCQ := Lib.hid hcq; have HDROP := Lib.hid hdrop; have HGETD := Lib.hid hgetd
            have HFND := Lib.hid hfnd; have HNON := Lib.hid hnon; have HPST := Lib.hid hpst; have HSYM := Lib.hid hsym; have HON := Lib.hid hon; have HGF := Lib.hid hgf
            have hqk : q ≤ k := by omega
            have hav : ah ≤ 32767 := by
              have h1 : ah * pt n ≤ bvN g at_ n * pt n := by rw [← HE.out]; omega
              have h2 := Nat.le_of_mul_le_mul_right h1 (pt_pos hn)
              have h3 := Nat.pow_le_pow_right (n := 2) (by omega) hn
              have h4 : (2 : Nat) ^ 15 = 32768 := rfl
              omega
            clear hf h15 hall hcomp hsl hv hmo hkk hmt hop htk hgb hlt htak hcq hs1 hs2 hfnd hnon hpst hsym hon hgf hbit hbv hx hq hdrop hgetd
            go_wp2_with (first
              | (go_at_call 33; refine HOP.out.mono ?_; rintro e w' ⟨rfl, rfl⟩)
              | (go_at_call 34; refine HTK.out.mono ?_; rintro e w' ⟨rfl, rfl⟩))
            refine HTAK.out.mono ?_
            rintro e w4 ⟨hb4, q', hq', hcase⟩
            obtain rfl : q' = q := by have := hq'.symm.trans HCQ.out; omega
            clear hq'
            have HB4 := Lib.hid (HBW.out.trans (hb4.mono (by omega)))
            have HRI4 := Lib.hid (HRI.out.below hb4 (Nat.le_refl _))
            clear hb4
            rcases hcase with ⟨hxq, rfl⟩ | ⟨hxq, rfl, A3, ha3, ha4, hrg⟩
            · have hff := HFND.out hxq
              have hres := Lib.hid (HGF.out _ hff)
              have hsy := HSYM.out _ hxq
              rw [← HGETD.out] at hsy
              rw [hsy]
              obtain ⟨S, hS⟩ : ∃ S, S = (rowM f (n + 1) 320).getD (2 * ah + bit) 0 := ⟨_, rfl⟩
              rw [← hS] at hres ⊢
              clear hff hsy hS
              go_wp2
              go_ret3
              exact ⟨.inl ⟨f, HF.out, by rw [HX.out, hres.out]; simp [RdOut]; omega⟩, HB4.out⟩
            · have hgn := Lib.hid (show Gone f g l at_ (n + 1) from ⟨HON.out, HNON.out hxq⟩)
              have hps := Lib.hid (HPST.out hxq)
              have hrd3 := Lib.hid (show RdI w4 w2.heap.size A3 (s.drop (sumC f 320 (n + 1))) from by
                rw [← HDROP.out]
                rcases A2 with _ | x
                · have := HNC.out rfl
                  exact absurd hkc (by omega)
                · exact rdI_drop HRI4.out q' cp (by rw [← HK.out]; exact hkc) (ha4 x rfl).symm)
              have hnc3 := Lib.hid (show A3 = none → cp - q' = 0 from fun h => by
                rcases A2 with _ | x
                · rw [HNC.out rfl]; omega
                · have := ha4 x rfl
                  rw [h] at this
                  split at this
                  · exact absurd this (by simp)
                  · exact absurd this (by simp))
              have HRG4 := Lib.hid hrg
              have hlen := Lib.hid (show k - q' = (s.drop (sumC f 320 (n + 1))).length from by rw [← HDROP.out, List.length_drop, ← HK.out])
              clear ha3 ha4 hrg
              go_wp2
              go_roundw
              case rel => exact ⟨n + 1, 2 * ah + bit - q', k - q', cp - q', A3, by omega, by omega, by omega, by unfold maxLen at hcp ⊢; omega, by omega, by go_num, HRG4, hlen, hrd3, hnc3, hps, hgn, .inr (by omega), HB4⟩
              case measure => simp [intOf]; omega
  · have HF := Lib.hid hno
    clear hno
    go_wp2
    go_ret3
    exact ⟨.inr ⟨HF.out, rfl⟩, HB2.out⟩
end Go.Proofs.Ytedjapamimhglaa
