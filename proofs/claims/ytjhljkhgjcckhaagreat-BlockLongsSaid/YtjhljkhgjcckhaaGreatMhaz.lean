/-
  Layer 11 (block), the program's row of bits: tokens put by codes.
-/
import Derived.Test.YtjhljkhgjcckhaaGreatMhay
namespace Go.Proofs.YtjhljkhgjcckhaaGreat
open Go.RowKit Go.ChangeShapes Go.WideShapes Go.ChangeAt Go.Joins
theorem RdT.rangeS {S : Nat → Prop} {w w' : World} {B : Nat} {A : Option Addr} {l : List Tok} (h : RdT w B A l) (hk : KpB S w w') {b o : Nat} (hA : A = some ⟨b, o, none⟩) (hS : S b) {j : Nat} (hj : j < l.length) : w'.rangeAt b (o + j * 3) (tokC (l.getD j tok0)) :=
  fun i v hv => (hk.cell (p := ⟨b, o + j * 3 + i, none⟩) hS).trans (h.range hA hj i v hv)
/-- What is asked of a code's book. -/
structure BookAt (w : World) (S : Nat → Prop) (g n : Nat) (F : Nat → Nat) : Prop where
  row : RowC w g n (codeB F n) F
  ins : S g
  chk : checkE F n 15 = 0
theorem BookAt.kept {S : Nat → Prop} {w w' : World} {g n : Nat} {F : Nat → Nat} (h : BookAt w S g n F) (hk : KpB S w w') : BookAt w' S g n F := ⟨h.row.kept hk h.ins, h.ins, h.chk⟩
theorem BookAt.of {S : Nat → Prop} {w : World} {g n : Nat} {F : Nat → Nat} (h : BookAt w S g n F) (c i : Nat) (hi : i < n) (hn : n ≤ 1000000) (Z Y : Nat) (hZ : codP F n i = (Z, Y)) :
    Calls Tryz.prog 26 #[.slice (some ⟨g, 0, none⟩) n c, .int .i64 (i : Int)] w fun e w' => e = .returned (.agg #[.int .u32 (Z : Int), .int .i64 (Y : Int)]) ∧ Below w.heap.size w w' := by
  have h1 := of11_any w g n c F i h.row h.chk hi hn
  rw [hZ] at h1
  exact h1
theorem BookAt.fit {S : Nat → Prop} {w : World} {g n : Nat} {F : Nat → Nat} (h : BookAt w S g n F) {i : Nat} (hi : i < n) : FitN (codP F n i) := by
  obtain ⟨_, h2⟩ := code_fits h.chk hi
  exact ⟨turnN_lt _ _, by show F i ≤ 16; omega⟩
theorem toksP_take {F G : Nat → Nat} {n k : Nat} {l : List Tok} {i : Nat} (h : i < l.length) : (l.take (i + 1)).flatMap (tokP F n G k) = (l.take i).flatMap (tokP F n G k) ++ tokP F n G k (l.getD i tok0) := by
  rw [take_one h, List.flatMap_append]; simp
theorem bitsT_flat_le {F G : Nat → Nat} {n k : Nat} (l : List Tok) (i : Nat) : bitsT ((l.take i).flatMap (tokP F n G k)) ≤ bitsT (toksP F n G k l) := by
  have e : l.flatMap (tokP F n G k) = (l.take i).flatMap (tokP F n G k) ++ (l.drop i).flatMap (tokP F n G k) := by rw [← List.flatMap_append, List.take_append_drop]
  unfold toksP
  rw [e, bitsT_app, bitsT_app]; omega
set_option maxRecDepth 100000 in
set_option maxHeartbeats 8000000 in
theorem tokens11_any (w : World) (S : Nat → Prop) (B g : Nat) (f : Nat → Nat) (K : Nat) (A2 : Option Addr) (m c2 : Nat) (l : List Tok) (F : Nat → Nat) (ga n ca : Nat) (G : Nat → Nat) (gb k cb : Nat) (h : RowAt w S B g f K) (hm : m = l.length) (hr : RdT w w.heap.size A2 l) (hS : InS S A2 m) (hm2 : m ≤ 1000000)
    (ha : BookAt w S ga n F) (hb : BookAt w S gb k G) (hn : n ≤ 1000) (hkk : k ≤ 1000) (h256 : 256 < n) (hok : ∀ t ∈ l, mayT t = true ∧ t.x < 256) (hin : ∀ t ∈ l, symA t < n ∧ (t.n ≠ 0 → symB t < k)) (hk : K + bitsT (toksP F n G k l) ≤ 16000000) :
    Calls Tryz.prog 24 #[.pointer (some ⟨g, 0, none⟩), .slice A2 m c2, .func (.func 26) #[.slice (some ⟨ga, 0, none⟩) n ca] #[], .func (.func 26) #[.slice (some ⟨gb, 0, none⟩) k cb] #[]] w fun e w' => e = .returned (.tuple #[]) ∧ RowAt w' S B g (putsF f K (toksP F n G k l)) (K + bitsT (toksP F n G k l)) ∧ KpB S w w' ∧ Below B w w' := by
  have H := Lib.hid h; have HM := Lib.hid hm; have HR := Lib.hid hr; have HS := Lib.hid hS; have HA := Lib.hid ha; have HBB := Lib.hid hb; have HOK := Lib.hid hok; have HIN := Lib.hid hin; have HK := Lib.hid hk
  clear h hm hr hS ha hb hok hin hk
  go_enter Tryz.func24, Tryz.ntmps24
  go_wp2_with fail
  go_loopw [16] (fun iv wr => ∃ i : Nat, i ≤ m ∧ iv = .int .i64 (i : Int) ∧ Hid (RowAt wr S B g (putsF f K ((l.take i).flatMap (tokP F n G k))) (K + bitsT ((l.take i).flatMap (tokP F n G k)))) ∧ Hid (KpB S w wr) ∧ Hid (Below B w wr)) (fun iv _ => m - (intOf iv).toNat)
  case atStart => exact ⟨0, Nat.zero_le _, rfl, Lib.hid H.out, Lib.hid (KpB.refl _ _), Lib.hid (Below.refl _ _)⟩
  case round =>
    obtain ⟨i, hi, rfl, HRA, HKP, HB⟩ := hrel
    by_cases hlt : i < m
    · have hlti : (i : Int) < (m : Int) := by omega
      have hil : i < l.length := by rw [← HM.out]; exact hlt
      obtain ⟨b, o, rfl, hbl, hc⟩ := HR.out.at hil
      have hSb : S b := HS.out b o (by omega) rfl
      have hrg := HR.out.rangeS HKP.out rfl hSb hil
      have hmem : l.getD i tok0 ∈ l := by rw [List.getD_eq_getElem?_getD, List.getElem?_eq_getElem hil]; exact List.getElem_mem hil
      obtain ⟨hmy, hx8⟩ := HOK.out _ hmem
      obtain ⟨hsa, hsb⟩ := HIN.out _ hmem
      have hstep := toksP_take (F := F) (G := G) (n := n) (k := k) hil
      have hle := bitsT_flat_le (F := F) (G := G) (n := n) (k := k) l (i + 1)
      obtain ⟨t, ht⟩ : ∃ t, t = l.getD i tok0 := ⟨_, rfl⟩
      rw [← ht] at hrg hmy hx8 hsa hsb hstep
      obtain ⟨Q, hQ⟩ : ∃ Q, Q = putsF f K ((l.take i).flatMap (tokP F n G k)) := ⟨_, rfl⟩
      obtain ⟨q, hq⟩ : ∃ q, q = K + bitsT ((l.take i).flatMap (tokP F n G k)) := ⟨_, rfl⟩
      have hra := HRA.out
      rw [← hQ, ← hq] at hra
      have hbe : q + bitsT (tokP F n G k t) = K + bitsT ((l.take (i + 1)).flatMap (tokP F n G k)) := by rw [hstep, bitsT_app, hq]; omega
      have hfe : putsF Q q (tokP F n G k t) = putsF f K ((l.take (i + 1)).flatMap (tokP F n G k)) := by rw [hstep, putsF_app, hQ, hq]
      have hqb : q + bitsT (tokP F n G k t) ≤ 16000000 := by have := HK.out; omega
      obtain ⟨W3, hW3⟩ : ∃ W3, W3 = mkV wr #[.int .u8 0, .int .i64 0, .int .i64 0] (tokC t).toArray 72 := ⟨_, rfl⟩
      have hb3 : Below wr.heap.size wr W3 := by rw [hW3]; exact mkV_below _ _ _ _
      have hrow : W3.heap[wr.heap.size]? = some (.cells (tokC t).toArray 72 (0, 0)) := by rw [hW3]; exact mkV_row wr _ _ _
      have hs3 : wr.heap.size < W3.heap.size := (Array.getElem?_eq_some_iff.1 hrow).1
      obtain ⟨S', hS'⟩ : ∃ S' : Nat → Prop, S' = fun j => S j ∨ (wr.heap.size ≤ j ∧ j < W3.heap.size) := ⟨_, rfl⟩
      have hSS : ∀ j, S j → S' j := fun j hj => by rw [hS']; exact .inl hj
      have hSv : S' wr.heap.size := by rw [hS']; exact .inr ⟨Nat.le_refl _, hs3⟩
      have hra3 : RowAt W3 S' B g Q q := by rw [hS']; exact hra.grow hb3
      have y0 : W3.cell? ⟨wr.heap.size, 0, none⟩ = some (.int .u8 (t.x : Int)) := (cell_of_row W3 _ 0 _ _ (0, 0) hrow).trans rfl
      have y1 : W3.cell? ⟨wr.heap.size, 1, none⟩ = some (.int .i64 t.d) := (cell_of_row W3 _ 1 _ _ (0, 0) hrow).trans rfl
      have y2 : W3.cell? ⟨wr.heap.size, 2, none⟩ = some (.int .i64 t.n) := (cell_of_row W3 _ 2 _ _ (0, 0) hrow).trans rfl
      have hk3 : KpB S w W3 := HKP.out.tr (KpB.below hra.top hb3)
      have HRA3 := Lib.hid hra3; have HSS := Lib.hid hSS; have HSV := Lib.hid hSv; have HK3 := Lib.hid hk3; have HB3 := Lib.hid (HB.out.trans (hb3.mono hra.size)); have HW3 := Lib.hid hW3; have HRG := Lib.hid hrg
      have HBE := Lib.hid hbe; have HFE := Lib.hid hfe; have HMY := Lib.hid hmy; have HSB := Lib.hid hsb
      clear hra3 hSS hSv hk3 hb3 hrow hW3 hS' hra hrg hbe hfe hQ hq hstep hle ht hmem hc hbl hSb HRA
      by_cases h0 : t.n = 0
      · have hn0 : (t.n == 0) = true := by rw [h0]; rfl
        have hsx : symA t = t.x := by unfold symA; rw [if_pos h0]
        have htp : tokP F n G k t = [codP F n t.x] := by unfold tokP; rw [if_pos h0]
        rw [hsx] at hsa
        rw [htp] at hqb
        have hbe := HBE.out
        have hfe := HFE.out
        rw [htp] at hbe hfe
        obtain ⟨x, hx⟩ : ∃ x, x = t.x := ⟨_, rfl⟩
        rw [← hx] at hsa hqb hbe hfe y0 hx8
        have hft := HA.out.fit (i := x) hsa
        obtain ⟨⟨Z, Y⟩, hZ⟩ : ∃ t, t = codP F n x := ⟨_, rfl⟩
        rw [← hZ] at hqb hbe hfe hft
        have hof := (HA.out.kept HK3.out).of ca x hsa (by omega) Z Y hZ.symm
        have HOF := Lib.hid hof; have HBE := Lib.hid hbe; have HFE := Lib.hid hfe; have HFT := Lib.hid hft
        clear hof hbe hfe hft hZ hx hsx htp HMY HSB hmy hsb
        go_wp2_with (first | refine wpList_load_mid rfl _ _ rfl b (o + i * 3) rfl (tokC t) _ HRG.out Tryz.underlying72 rfl szTok ?_ | refine wpList_store_rowTo rfl _ _ _ rfl rfl wr.heap.size (tokC t).toArray rfl rfl 72 #[.int .u8 0, .int .i64 0, .int .i64 0] (heap_alloc_new wr _) (szTokA _) rfl (tokA_one _) ?_; change wpList _ _ _ _ _ (mkV wr #[.int .u8 0, .int .i64 0, .int .i64 0] (tokC t).toArray 72); rw [← HW3.out] | fail)
        refine HOF.out.mono ?_
        rintro e w4 ⟨rfl, hb4⟩
        have hput := put_lit w4 S' B g Q q [(Z, Y)] 1 rfl #[.int .u32 (Z : Int), .int .i64 (Y : Int)] rfl (HRA3.out.after hb4) (by omega) (fun z hz => by
          simp only [List.mem_singleton] at hz; rw [hz]; exact HFT.out) hqb
        rw [HBE.out, HFE.out] at hput
        have HPUT := Lib.hid hput; have HK4 := Lib.hid (HK3.out.tr ((KpB.below HRA3.out.top hb4).less HSS.out)); have HB4 := Lib.hid (HB3.out.trans (hb4.mono HRA3.out.size))
        clear hput hb4 y0 y1 y2
        go_wp2_with fail
        refine HPUT.out.mono ?_
        rintro e w5 ⟨rfl, h1, h2, h3⟩
        have H1 := Lib.hid (h1.less HSS.out); have H2 := Lib.hid (HK4.out.tr (h2.less HSS.out)); have H3 := Lib.hid (HB4.out.trans h3)
        clear h1 h2 h3
        go_wp2
        go_roundw
        case rel => exact ⟨i + 1, by omega, by go_num, H1, H2, H3⟩
        case measure => simp [intOf]; omega
      · have hn0 : (t.n == 0) = false := by rw [beq_eq_false_iff_ne]; exact h0
        obtain ⟨hE1, hE2, _, _⟩ := (sym_lt hmy hx8).2.2 h0
        obtain ⟨hf1, hf2⟩ := ext_fit hmy hx8 h0
        obtain ⟨_, _, _, _, p1, _, p3, p4⟩ := long_there hE1
        obtain ⟨_, _, _, _, q1, _, q3, q4⟩ := far_there hE2
        have hsD := hsb h0
        have eS : lgS t.n = ((symA t : Nat) : Int) := by
          have h5 : 3 ≤ t.n ∧ t.n ≤ 258 := lg_ok hE1
          have : 0 ≤ lgS t.n := by unfold lgS; rw [if_pos h5]; omega
          unfold symA; rw [if_neg h0]; omega
        have eD : frS t.d = ((symB t : Nat) : Int) := by
          have h5 : 1 ≤ t.d ∧ t.d ≤ 32768 := fr_ok hE2
          have : 0 ≤ frS t.d := by unfold frS; rw [if_pos h5]; omega
          unfold symB; omega
        have htp : tokP F n G k t = [codP F n (lgS t.n).toNat, ((lgX t.n).toNat, (lgB t.n).toNat), codP G k (frS t.d).toNat, ((frX t.d).toNat, (frB t.d).toNat)] := by unfold tokP; rw [if_neg h0]
        rw [eS, eD, Int.toNat_natCast, Int.toNat_natCast] at htp
        obtain ⟨u, eu⟩ := Int.eq_ofNat_of_zero_le p3
        obtain ⟨v, ev⟩ := Int.eq_ofNat_of_zero_le q3
        obtain ⟨x1, ex1⟩ := Int.eq_ofNat_of_zero_le p1
        obtain ⟨x2, ex2⟩ := Int.eq_ofNat_of_zero_le q1
        have hlg := fun V : World => long9_any V t.n
        have hfr := fun V : World => far9_any V t.d
        rw [eS, eu, ex1, hE1] at hlg
        rw [eD, ev, ex2, hE2] at hfr
        rw [ex1, eu, Int.toNat_natCast, Int.toNat_natCast] at hf1
        rw [ex2, ev, Int.toNat_natCast, Int.toNat_natCast] at hf2
        rw [ex1, eu, ex2, ev, Int.toNat_natCast, Int.toNat_natCast, Int.toNat_natCast, Int.toNat_natCast] at htp
        have hx1 : x1 < 65536 := by
          have h1 : x1 < 2 ^ u := hf1.1
          have e : (2 : Nat) ^ u ≤ 2 ^ 16 := Nat.pow_le_pow_right (by omega) hf1.2
          have e2 : (2 : Nat) ^ 16 = 65536 := rfl
          omega
        have hx2 : x2 < 65536 := by
          have h1 : x2 < 2 ^ v := hf2.1
          have e : (2 : Nat) ^ v ≤ 2 ^ 16 := Nat.pow_le_pow_right (by omega) hf2.2
          have e2 : (2 : Nat) ^ 16 = 65536 := rfl
          omega
        have hu5 : u ≤ 16 := hf1.2
        have hv5 : v ≤ 16 := hf2.2
        obtain ⟨sA, hsA⟩ : ∃ s, s = symA t := ⟨_, rfl⟩
        obtain ⟨sD, hsDe⟩ : ∃ s, s = symB t := ⟨_, rfl⟩
        rw [← hsA] at hlg htp hsa
        rw [← hsDe] at hfr htp hsD
        have hft1 := HA.out.fit (i := sA) hsa
        have hft2 := HBB.out.fit (i := sD) hsD
        obtain ⟨⟨Z1, Y1⟩, hZ1⟩ : ∃ t, t = codP F n sA := ⟨_, rfl⟩
        obtain ⟨⟨Z2, Y2⟩, hZ2⟩ : ∃ t, t = codP G k sD := ⟨_, rfl⟩
        rw [← hZ1, ← hZ2] at htp
        rw [← hZ1] at hft1
        rw [← hZ2] at hft2
        have hsp : ([(Z1, Y1), (x1, u), (Z2, Y2), (x2, v)] : List (Nat × Nat)) = [(Z1, Y1), (x1, u)] ++ [(Z2, Y2), (x2, v)] := rfl
        have hbe := HBE.out
        have hfe := HFE.out
        rw [htp, hsp, bitsT_app] at hqb hbe
        rw [htp, hsp, putsF_app] at hfe
        obtain ⟨q2, hq2⟩ : ∃ q2, q2 = q + bitsT [(Z1, Y1), (x1, u)] := ⟨_, rfl⟩
        obtain ⟨Q2, hQ2⟩ : ∃ Q2, Q2 = putsF Q q [(Z1, Y1), (x1, u)] := ⟨_, rfl⟩
        rw [← Nat.add_assoc, ← hq2] at hqb hbe
        rw [← hQ2, ← hq2] at hfe
        have hqb1 : q + bitsT [(Z1, Y1), (x1, u)] ≤ 16000000 := by omega
        have HLG := Lib.hid hlg; have HFR := Lib.hid hfr; have HBE2 := Lib.hid hbe; have HFE2 := Lib.hid hfe; have HQB := Lib.hid hqb; have HQB1 := Lib.hid hqb1; have HQ2 := Lib.hid hq2; have HQ2F := Lib.hid hQ2
        have HFT1 := Lib.hid hft1; have HFT2 := Lib.hid hft2; have HF1 := Lib.hid hf1; have HF2 := Lib.hid hf2; have HZ1 := Lib.hid hZ1; have HZ2 := Lib.hid hZ2; have HY1 := Lib.hid y1
        clear hlg hfr hbe hfe hqb hqb1 hq2 hQ2 hft1 hft2 hf1 hf2 hZ1 hZ2 htp hsp hsA hsDe eS eD eu ev ex1 ex2 hE1 hE2 p1 p3 p4 q1 q3 q4 hsb hmy hx8 HMY HSB HBE HFE y0 y1
        go_wp2_with (first | refine wpList_load_mid rfl _ _ rfl b (o + i * 3) rfl (tokC t) _ HRG.out Tryz.underlying72 rfl szTok ?_ | refine wpList_store_rowTo rfl _ _ _ rfl rfl wr.heap.size (tokC t).toArray rfl rfl 72 #[.int .u8 0, .int .i64 0, .int .i64 0] (heap_alloc_new wr _) (szTokA _) rfl (tokA_one _) ?_; change wpList _ _ _ _ _ (mkV wr #[.int .u8 0, .int .i64 0, .int .i64 0] (tokC t).toArray 72); rw [← HW3.out] | fail)
        refine (HLG.out W3).mono ?_
        rintro e w4 ⟨rfl, hb4⟩
        have HRA4 := Lib.hid (HRA3.out.after hb4); have HK4 := Lib.hid (HK3.out.tr ((KpB.below HRA3.out.top hb4).less HSS.out)); have HB4 := Lib.hid (HB3.out.trans (hb4.mono HRA3.out.size))
        have HY4 := Lib.hid ((hb4.cell (p := ⟨wr.heap.size, 1, none⟩) hs3).trans HY1.out)
        have hs4 : wr.heap.size < w4.heap.size := by have := hb4.size; omega
        have HOF1 := Lib.hid ((HA.out.kept HK4.out).of ca sA hsa (by omega) Z1 Y1 HZ1.out.symm)
        clear hb4 y2 HRA3 HK3 HB3 HY1 hs3
        go_wp2_with fail
        refine HOF1.out.mono ?_
        rintro e w5 ⟨rfl, hb5⟩
        have hput := put_lit w5 S' B g Q q [(Z1, Y1), (x1, u)] 2 rfl #[.int .u32 (Z1 : Int), .int .i64 (Y1 : Int), .int .u32 (x1 : Int), .int .i64 (u : Int)] rfl (HRA4.out.after hb5) (by omega) (fun z hz => by
          simp only [List.mem_cons, List.not_mem_nil, or_false] at hz
          rcases hz with rfl | rfl
          · exact HFT1.out
          · exact HF1.out) HQB1.out
        rw [← HQ2.out, ← HQ2F.out] at hput
        have HPUT := Lib.hid hput; have HK5 := Lib.hid (HK4.out.tr ((KpB.below HRA4.out.top hb5).less HSS.out)); have HB5 := Lib.hid (HB4.out.trans (hb5.mono HRA4.out.size))
        have HY5 := Lib.hid ((hb5.cell (p := ⟨wr.heap.size, 1, none⟩) hs4).trans HY4.out)
        clear hput hb5 HRA4 HK4 HB4 HY4 HOF1 hs4
        go_wp2_with (first
          | (refine wpList_buildTo rfl 84 #[(0, .tmp 44), (1, .tmp 45)] rfl (some 46) rfl #[.int .u32 (x1 : Int), .int .i64 (u : Int)] ?_ ?_; focus (simpa [Act.eval] using built_numP (x1 : Int) (u : Int)))
          | fail)
        refine HPUT.out.mono ?_
        rintro e w6 ⟨rfl, h1, h2, h3⟩
        have y6 := (h2.cell (p := ⟨wr.heap.size, 1, none⟩) HSV.out).trans HY5.out
        have HRA6 := Lib.hid h1; have HK6 := Lib.hid (HK5.out.tr (h2.less HSS.out)); have HB6 := Lib.hid (HB5.out.trans h3)
        clear h1 h2 h3 HPUT HK5 HB5 HY5
        go_wp2_with fail
        refine (HFR.out w6).mono ?_
        rintro e w7 ⟨rfl, hb7⟩
        have HRA7 := Lib.hid (HRA6.out.after hb7); have HK7 := Lib.hid (HK6.out.tr ((KpB.below HRA6.out.top hb7).less HSS.out)); have HB7 := Lib.hid (HB6.out.trans (hb7.mono HRA6.out.size))
        have HOF2 := Lib.hid ((HBB.out.kept HK7.out).of cb sD hsD (by omega) Z2 Y2 HZ2.out.symm)
        clear hb7 y6 HRA6 HK6 HB6
        go_wp2_with fail
        refine HOF2.out.mono ?_
        rintro e w8 ⟨rfl, hb8⟩
        have hput := put_lit w8 S' B g Q2 q2 [(Z2, Y2), (x2, v)] 2 rfl #[.int .u32 (Z2 : Int), .int .i64 (Y2 : Int), .int .u32 (x2 : Int), .int .i64 (v : Int)] rfl (HRA7.out.after hb8) (by omega) (fun z hz => by
          simp only [List.mem_cons, List.not_mem_nil, or_false] at hz
          rcases hz with rfl | rfl
          · exact HFT2.out
          · exact HF2.out) HQB.out
        rw [HBE2.out, HFE2.out] at hput
        have HPUT := Lib.hid hput; have HK8 := Lib.hid (HK7.out.tr ((KpB.below HRA7.out.top hb8).less HSS.out)); have HB8 := Lib.hid (HB7.out.trans (hb8.mono HRA7.out.size))
        clear hput hb8 HRA7 HK7 HB7 HOF2
        go_wp2_with (first
          | (refine wpList_buildTo rfl 84 #[(0, .tmp 62), (1, .tmp 63)] rfl (some 64) rfl #[.int .u32 (x2 : Int), .int .i64 (v : Int)] ?_ ?_; focus (simpa [Act.eval] using built_numP (x2 : Int) (v : Int)))
          | fail)
        refine HPUT.out.mono ?_
        rintro e w9 ⟨rfl, h1, h2, h3⟩
        have H1 := Lib.hid (h1.less HSS.out); have H2 := Lib.hid (HK8.out.tr (h2.less HSS.out)); have H3 := Lib.hid (HB8.out.trans h3)
        clear h1 h2 h3
        go_wp2
        go_roundw
        case rel => exact ⟨i + 1, by omega, by go_num, H1, H2, H3⟩
        case measure => simp [intOf]; omega
    · obtain rfl : i = m := by omega
      have hlti : ¬ (i : Int) < (i : Int) := by omega
      have hr := HRA.out
      rw [HM.out, List.take_length] at hr
      obtain ⟨Q, hQ⟩ : ∃ Q, Q = putsF f K (l.flatMap (tokP F n G k)) := ⟨_, rfl⟩
      obtain ⟨q, hq⟩ : ∃ q, q = K + bitsT (l.flatMap (tokP F n G k)) := ⟨_, rfl⟩
      rw [← hQ, ← hq] at hr
      obtain ⟨⟨Z, Y⟩, hZ⟩ : ∃ t, t = codP F n 256 := ⟨_, rfl⟩
      have hbe : q + bitsT [(Z, Y)] = K + bitsT (toksP F n G k l) := by unfold toksP; rw [bitsT_app, hq, hZ]; omega
      have hfe : putsF Q q [(Z, Y)] = putsF f K (toksP F n G k l) := by unfold toksP; rw [putsF_app, hQ, hq, hZ]
      have hft := HA.out.fit (i := 256) h256
      rw [← hZ] at hft
      have hof := (HA.out.kept HKP.out).of ca 256 h256 (by omega) Z Y hZ.symm
      have hqb : q + bitsT [(Z, Y)] ≤ 16000000 := by rw [hbe]; exact HK.out
      have HRR := Lib.hid hr; have HOF := Lib.hid hof; have HBE := Lib.hid hbe; have HFE := Lib.hid hfe; have HFT := Lib.hid hft
      clear hr hof hbe hfe hft hZ hQ hq HRA
      go_wp2_with fail
      refine HOF.out.mono ?_
      rintro e w4 ⟨rfl, hb4⟩
      have hput := put_lit w4 S B g Q q [(Z, Y)] 1 rfl #[.int .u32 (Z : Int), .int .i64 (Y : Int)] rfl (HRR.out.after hb4) (by omega) (fun z hz => by
        simp only [List.mem_singleton] at hz; rw [hz]; exact HFT.out) hqb
      rw [HBE.out, HFE.out] at hput
      have HPUT := Lib.hid hput; have HK4 := Lib.hid (HKP.out.tr (KpB.below HRR.out.top hb4)); have HB4 := Lib.hid (HB.out.trans (hb4.mono HRR.out.size))
      clear hput hb4
      go_wp2_with fail
      refine HPUT.out.mono ?_
      rintro e w5 ⟨rfl, h1, h2, h3⟩
      have H1 := Lib.hid h1; have H2 := Lib.hid (HK4.out.tr h2); have H3 := Lib.hid (HB4.out.trans h3)
      clear h1 h2 h3
      go_wp2
      go_end0
      exact ⟨rfl, H1.out, H2.out, H3.out⟩
end Go.Proofs.YtjhljkhgjcckhaaGreat

