/-
  The law BlockLeast over what the program's functions are asked to answer, where it has something to compare.
-/
import Derived.Test.YtjhljkhgjcckhaaMgbb
namespace Go.Proofs.Ytjhljkhgjcckhaa
open Go.RowKit Go.ChangeShapes Go.WideShapes Go.ChangeAt Go.Joins
set_option maxRecDepth 100000 in
set_option maxHeartbeats 8000000 in
theorem least11_main (HW : WriteCon) (HL : LongCon) (HBC : BestCon) (A : Option Addr) (n c : Nat) (f : Nat → Nat) (k : Int) (kind : Nat) (A1 : Option Addr) (rn rc : Nat) (r : Nat → Nat) (A2 : Option Addr) (m c2 : Nat) (l : List Tok) (last : Bool) (w : World)
    (hr : ByR w w.heap.size A n c f) (hkd : kind < 256) (hrr : ByR w w.heap.size A1 rn rc r) (hrt : TkR w w.heap.size A2 m c2 l) (hin : ∀ t ∈ l, TokIn t) (g1 : n ≤ 500) (g2 : rn ≤ 500) (g3 : m ≤ 200) (hc : penE f n k = 0) :
    Calls Try.prog 4 #[.agg #[.slice A n c, .int .i64 k], .int .u8 (kind : Int), .slice A1 rn rc, .slice A2 m c2, .bool last] w fun e w' => e = .returned (.bool true) ∧ Below w.heap.size w w' := by
  obtain ⟨K, rfl, hK8, hnK, hcl⟩ := check_clean hr.1.1 hc
  have hpb : penB f n (K : Int) = true := by
    cases hb : penB f n (K : Int) with
    | true => rfl
    | false => unfold penE at hc; rw [hb] at hc; simp at hc
  have hK4 : K ≤ 4000 := by omega
  have hx : ∀ t ∈ l, t.x < 256 := fun t ht => (hin t ht).1
  obtain ⟨hEq, hEz⟩ := wrt_ask (r := r) (rn := rn) (kind := kind) (last := last) (l := l) hpb (by omega) hrr.1.1 hx
  obtain ⟨a, ha⟩ : ∃ a, a = K % 8 := ⟨_, rfl⟩
  have ha7 : a ≤ 7 := by omega
  have ea : (K : Int) % 8 = (a : Int) := by omega
  have d1 : decide (500 < (n : Int)) = false := by simp; omega
  have d2 : decide (500 < (rn : Int)) = false := by simp; omega
  have d3 : decide (200 < (m : Int)) = false := by simp; omega
  obtain ⟨h, hh⟩ : ∃ h, h = w.heap.size := ⟨_, rfl⟩
  obtain ⟨W1, hW1⟩ : ∃ W, W = w.alloc (.cells #[.slice A n c, .int .i64 (K : Int)] 32) := ⟨_, rfl⟩
  have h0 : W1.heap[h]? = some (.cells #[.slice A n c, .int .i64 (K : Int)] 32 (0, 0)) := by rw [hW1, hh]; exact heap_alloc_new w _
  have hb1 : Below w.heap.size w W1 := by rw [hW1]; exact (Below.refl _ _).alloc (Nat.le_refl _) _
  have HAL := Lib.hid (alive11_any HW W1)
  have HR1 := Lib.hid ((hr.below hb1 (Nat.le_refl _)).more hb1.size); have HRR1 := Lib.hid ((hrr.below hb1 (Nat.le_refl _)).more hb1.size); have HRT1 := Lib.hid ((hrt.below hb1 (Nat.le_refl _)).more hb1.size)
  have HW1 := Lib.hid hW1; have HH := Lib.hid hh; have H0 := Lib.hid h0; have HB1 := Lib.hid hb1; have HIN := Lib.hid hin
  have HWC := Lib.hid HW; have HLC := Lib.hid HL; have HBCC := Lib.hid HBC; have HC0 := Lib.hid hc; have HCL := Lib.hid hcl; have HNK := Lib.hid hnK; have HEQ := Lib.hid hEq; have HEZ := Lib.hid hEz; have HAE := Lib.hid ha; have HX := Lib.hid hx; have HML := Lib.hid hrt.1
  clear hW1 hh h0 hb1 hr hrr hrt hin HW HL HBC hc hcl hnK hEq hEz ha hx hpb
  go_enter Try.func4, Try.ntmps4
  go_wp2_with fail
  rw [← HW1.out, ← HH.out]
  refine HAL.out.mono ?_
  rintro e w2 ⟨rfl, hb2⟩
  have h02 := (hb2.block h (Array.getElem?_eq_some_iff.1 H0.out).1).trans H0.out
  have k0 : w2.cell? ⟨h, 0, none⟩ = some (.slice A n c) := (cell_of_row w2 h 0 _ _ (0, 0) h02).trans rfl
  have hck := pcheck_any w2 A n c f (K : Int) ((HR1.out.below hb2 (Nat.le_refl _)).more hb2.size).1
  rw [HC0.out] at hck
  have HCK := Lib.hid hck; have H02 := Lib.hid h02; have HB2 := Lib.hid hb2
  clear hb2 hck h02
  go_wp2_with (first
    | (refine wpList_load_row_on (by rfl) _ _ rfl h rfl _ #[.slice A n c, .int .i64 (K : Int)] (0, 0) _ H02.out Try.underlying32 rfl szPen2 ?_)
    | fail)
  refine HCK.out.mono ?_
  rintro e w3 ⟨rfl, hb3⟩
  have hb13 := HB2.out.trans (hb3.mono HB2.out.size)
  have h03 := (hb13.block h (Array.getElem?_eq_some_iff.1 H0.out).1).trans H0.out
  have hwr := HWC.out w3 A n c f (K : Int) kind A1 rn rc r A2 m c2 l last ((HR1.out.below hb13 (Nat.le_refl _)).more hb13.size) (by omega) (by omega) (by omega) hkd ((HRR1.out.below hb13 (Nat.le_refl _)).more hb13.size) (by omega) ((HRT1.out.below hb13 (Nat.le_refl _)).more hb13.size) (by omega) HIN.out
  rw [HEQ.out] at hwr
  obtain ⟨E, hE⟩ : ∃ E, E = askW kind rn l := ⟨_, rfl⟩
  obtain ⟨X, hX⟩ : ∃ X, X = wrtK f n (K : Int) kind rn r l last := ⟨_, rfl⟩
  obtain ⟨F, hF⟩ : ∃ F, F = wrtF f n (K : Int) kind rn r l last := ⟨_, rfl⟩
  rw [← hE, ← hX, ← hF] at hwr
  have HWR := Lib.hid hwr; have H03 := Lib.hid h03; have HB13 := Lib.hid hb13; have HE := Lib.hid hE; have HXX := Lib.hid hX; have HF := Lib.hid hF
  clear hwr h03 hb13 hb3 hE hX hF HCK k0 HAL
  go_wp2_with (first
    | (refine wpList_load_row rfl _ _ rfl h rfl _ #[.slice A n c, .int .i64 (K : Int)] (0, 0) _ H03.out Try.underlying32 rfl szPen2 ?_)
    | fail)
  refine HWR.out.mono ?_
  rintro e w4 ⟨A4, c4, L, hL, rfl, hby4, hb4, -⟩
  obtain ⟨h5, hh5⟩ : ∃ h, h = w4.heap.size := ⟨_, rfl⟩
  obtain ⟨W5, hW5⟩ : ∃ W, W = w4.alloc (.cells #[.slice A4 L c4, .int .i64 (X : Int)] 32) := ⟨_, rfl⟩
  have h55 : W5.heap[h5]? = some (.cells #[.slice A4 L c4, .int .i64 (X : Int)] 32 (0, 0)) := by rw [hW5, hh5]; exact heap_alloc_new w4 _
  have hb45 : Below w4.heap.size w4 W5 := by rw [hW5]; exact (Below.refl _ _).alloc (Nat.le_refl _) _
  have hb15 := HB13.out.trans ((hb4.trans (hb45.mono hb4.size)).mono HB13.out.size)
  have h05 := (hb15.block h (Array.getElem?_eq_some_iff.1 H0.out).1).trans H0.out
  have k5 : W5.cell? ⟨h, 1, none⟩ = some (.int .i64 (K : Int)) := (cell_of_row W5 h 1 _ _ (0, 0) h05).trans rfl
  have hx5 := (hby4.below hb45 (Nat.le_refl _)).more hb45.size
  have hlg := HLC.out W5 (a : Int) kind A1 rn rc r A2 m c2 l (by omega) (by omega) hkd ((HRR1.out.below hb15 (Nat.le_refl _)).more hb15.size) (by omega) ((HRT1.out.below hb15 (Nat.le_refl _)).more hb15.size) (by omega) HIN.out
  have hle : lngE (a : Int) kind rn l = E := by unfold lngE; rw [if_neg (by omega)]; exact HE.out.symm
  rw [hle] at hlg
  obtain ⟨V, hV⟩ : ∃ V, V = lngV (a : Int) kind rn r l := ⟨_, rfl⟩
  rw [← hV] at hlg
  have HLG := Lib.hid hlg; have H55 := Lib.hid h55; have H05 := Lib.hid h05; have HB15 := Lib.hid hb15; have HX5 := Lib.hid hx5; have HV := Lib.hid hV; have HL := Lib.hid hL; have HW5 := Lib.hid hW5; have HH5 := Lib.hid hh5; have HLE := Lib.hid hle
  clear hlg h55 h05 hb15 hx5 hV hL hW5 hh5 hb45 hb4 hby4 hle HWR
  go_wp2_with (rw [← HW5.out, ← HH5.out])
  refine HLG.out.mono ?_
  rintro e w6 ⟨rfl, hb6⟩
  have hb16 := HB15.out.trans (hb6.mono HB15.out.size)
  have h06 := (hb16.block h (Array.getElem?_eq_some_iff.1 H0.out).1).trans H0.out
  have k6 : w6.cell? ⟨h, 1, none⟩ = some (.int .i64 (K : Int)) := (cell_of_row w6 h 1 _ _ (0, 0) h06).trans rfl
  have hbs := HBCC.out w6 (a : Int) A1 rn rc r A2 m c2 l (by omega) (by omega) ((HRR1.out.below hb16 (Nat.le_refl _)).more hb16.size) (by omega) ((HRT1.out.below hb16 (Nat.le_refl _)).more hb16.size) (by omega) HIN.out
  obtain ⟨S, hS⟩ : ∃ S, S = bestV (a : Int) rn r l := ⟨_, rfl⟩
  obtain ⟨G, hG⟩ : ∃ G, G = bestE (a : Int) rn l := ⟨_, rfl⟩
  rw [← hS, ← hG] at hbs
  have HBS := Lib.hid hbs; have HB56 := Lib.hid hb6; have HS := Lib.hid hS; have HG := Lib.hid hG
  clear hbs hb16 h06 hb6 hS hG k5
  go_wp2_with fail
  refine HBS.out.mono ?_
  rintro e w7 ⟨rfl, hb7⟩
  have hb57 := HB56.out.trans (hb7.mono HB56.out.size)
  have hb17 := HB15.out.trans (hb57.mono HB15.out.size)
  have h07 := (hb17.block h (Array.getElem?_eq_some_iff.1 H0.out).1).trans H0.out
  have h57 := (hb57.block h5 (Array.getElem?_eq_some_iff.1 H55.out).1).trans H55.out
  have k7 : w7.cell? ⟨h, 1, none⟩ = some (.int .i64 (K : Int)) := (cell_of_row w7 h 1 _ _ (0, 0) h07).trans rfl
  have x70 : w7.cell? ⟨h5, 0, none⟩ = some (.slice A4 L c4) := (cell_of_row w7 h5 0 _ _ (0, 0) h57).trans rfl
  have HB17 := Lib.hid hb17; have HB57 := Lib.hid hb57; have H57 := Lib.hid h57
  clear hb57 hb17 h07 h57 hb7 k6 HBS HLG
  by_cases e0 : E = 0
  · subst e0
    have hask := HE.out.symm
    obtain ⟨k2, n2, l2, hmay⟩ := askW_ok hask
    obtain ⟨hXv, hFv⟩ := HEZ.out hask
    rw [← HAE.out] at hXv hFv
    rw [← HXX.out] at hXv
    rw [← HF.out] at hFv
    have hV1 : V = bitsT (blkP a kind rn r l false) := by rw [HV.out]; unfold lngV; rw [if_pos HLE.out, Int.toNat_natCast]
    have hXV : X = K + V := by rw [hXv, hV1, blkP_last]
    have hG0 : G = 0 := by rw [HG.out]; unfold bestE lngE; rw [if_neg (by omega)]; exact askW_all hask (by omega)
    have hok : ∀ t ∈ l, mayT t = true ∧ t.x < 256 := fun t ht => ⟨hmay t ht, HX.out t ht⟩
    have hS1 : S = bestK a rn r l := by rw [HS.out]; unfold bestV; rw [if_pos (by rw [← HG.out]; exact hG0), Int.toNat_natCast]
    have hS2 : S ≤ 2 := by rw [hS1]; exact shF_le _ 2
    obtain ⟨hmin, hminS⟩ := shF_min (fun k => bitsT (blkP a k rn r l false)) 2 kind k2
    have hSF : shF (fun k => bitsT (blkP a k rn r l false)) 2 = S := hS1.symm
    rw [hSF] at hmin hminS
    obtain ⟨M, hM⟩ : ∃ M, M = lngV (a : Int) S rn r l := ⟨_, rfl⟩
    have hMe : lngE (a : Int) S rn l = 0 := by unfold lngE; rw [if_neg (by omega)]; exact askW_all hask hS2
    have hM1 : M = bitsT (blkP a S rn r l false) := by rw [hM]; unfold lngV; rw [if_pos hMe, Int.toNat_natCast]
    have hMV : M ≤ V := by rw [hM1, hV1]; exact hmin
    have hMS : M = V → S ≤ kind := fun e => hminS (by rw [hM1, hV1] at e; exact e)
    have hVb : V ≤ 4320000 := by rw [hV1]; exact blkP_bits k2 n2 HRR1.out.1.1 l2 hok
    obtain ⟨hkb, hk3⟩ := blk_kind HCL.out a kind rn r l last k2
    rw [← hFv] at hkb
    rw [blkP_last, ← hV1] at hk3
    have hclF : Clean F X := by rw [hFv, hXv]; exact HCL.out.puts _
    have hah : ∀ j, j < K → bitAt F j = bitAt f j := fun j hj => by rw [hFv]; exact blk_ahead HCL.out HNK.out _ j hj
    have hpx : penE F L (X : Int) = 0 := check_of_clean hclF (by omega) HL.out
    have hlg2 := HLC.out w7 (a : Int) S A1 rn rc r A2 m c2 l (by omega) (by omega) (by omega) ((HRR1.out.below HB17.out (Nat.le_refl _)).more HB17.out.size) (by omega) ((HRT1.out.below HB17.out (Nat.le_refl _)).more HB17.out.size) (by omega) HIN.out
    rw [← hM, hMe] at hlg2
    subst hG0
    have HLG2 := Lib.hid hlg2; have HMV := Lib.hid hMV; have HMS := Lib.hid hMS; have HKB := Lib.hid hkb; have HAH := Lib.hid hah; have HPX := Lib.hid hpx; have HXV := Lib.hid hXV; have HK3 := Lib.hid hk3; have HLL := Lib.hid HL.out
    have hS255 : S ≤ 2 := hS2
    clear hask n2 l2 hmay hXv hFv hV1 hXV hok hS1 hS2 hmin hminS hSF hM hMe hM1 hMV hMS hkb hk3 hclF hah hpx hlg2
    have dg : decide ((V : Int) < (M : Int)) = false := by have := HMV.out; simp; omega
    have dg2 : decide (V < M) = false := by have := HMV.out; simp; omega
    obtain ⟨q, p1, p2, dmm, dmm2, dsk, dsk2⟩ : ∃ q p1 p2 : Bool, ((M : Int) == (V : Int)) = q ∧ (M == V) = q ∧ decide ((kind : Int) < (S : Int)) = p1 ∧ decide (kind < S) = p2 := ⟨_, _, _, by rw [Bool.eq_iff_iff]; simp; omega, rfl, rfl, rfl⟩
    have hqp : q = true → p1 = false ∧ p2 = false := fun hq => by
      have he : M = V := by rw [hq] at dmm2; simpa using dmm2
      have := HMS.out he
      rw [← dsk, ← dsk2]
      exact ⟨by simp; omega, by simp; omega⟩
    have hcase : (q = true ∧ p1 = false ∧ p2 = false) ∨ q = false := by
      cases q with
      | true => exact .inl ⟨rfl, hqp rfl⟩
      | false => exact .inr rfl
    clear hqp
    rcases hcase with ⟨rfl, rfl, rfl⟩ | rfl
    all_goals (
      go_wp2_with fail
      refine HLG2.out.mono ?_
      rintro e w8 ⟨rfl, hb8⟩
      have hb58 := HB57.out.trans (hb8.mono HB57.out.size)
      have hb18 := HB15.out.trans (hb58.mono HB15.out.size)
      have h58 := (hb58.block h5 (Array.getElem?_eq_some_iff.1 H55.out).1).trans H55.out
      have hck := pcheck_any w8 A4 L c4 F (X : Int) ((HX5.out.below hb58 (Nat.le_refl _)).more hb58.size).1
      rw [HPX.out] at hck
      have HCK := Lib.hid hck; have H58 := Lib.hid h58; have HB58 := Lib.hid hb58; have HB18 := Lib.hid hb18
      clear hck h58 hb58 hb18 hb8 k7 x70
      go_wp2_with (first
        | (refine wpList_load_row_on (by rfl) _ _ rfl h5 rfl _ #[.slice A4 L c4, .int .i64 (X : Int)] (0, 0) _ H58.out Try.underlying32 rfl szPen2 ?_)
        | fail)
      refine HCK.out.mono ?_
      rintro e w9 ⟨rfl, hb9⟩
      have hb59 := HB58.out.trans (hb9.mono HB58.out.size)
      have hb19 := HB15.out.trans (hb59.mono HB15.out.size)
      have h09 := (hb19.block h (Array.getElem?_eq_some_iff.1 H0.out).1).trans H0.out
      have h59 := (hb59.block h5 (Array.getElem?_eq_some_iff.1 H55.out).1).trans H55.out
      have k90 : w9.cell? ⟨h, 0, none⟩ = some (.slice A n c) := (cell_of_row w9 h 0 _ _ (0, 0) h09).trans rfl
      have k91 : w9.cell? ⟨h, 1, none⟩ = some (.int .i64 (K : Int)) := (cell_of_row w9 h 1 _ _ (0, 0) h09).trans rfl
      have x90 : w9.cell? ⟨h5, 0, none⟩ = some (.slice A4 L c4) := (cell_of_row w9 h5 0 _ _ (0, 0) h59).trans rfl
      have x91 : w9.cell? ⟨h5, 1, none⟩ = some (.int .i64 (X : Int)) := (cell_of_row w9 h5 1 _ _ (0, 0) h59).trans rfl
      have eKV : (K : Int) + (V : Int) = (X : Int) := by have := HXV.out; omega
      have dXX : ((X : Int) != (X : Int)) = false := by simp
      have hr9 := ((HR1.out.below hb19 (Nat.le_refl _)).more hb19.size).1
      have hx9 := ((HX5.out.below hb59 (Nat.le_refl _)).more hb59.size).1
      have HR9 := Lib.hid hr9; have HX9 := Lib.hid hx9; have HB19 := Lib.hid hb19
      clear hb59 hb19 h09 h59 hb9 hr9 hx9 HCK
      go_wp2
      clear eKV dXX dg dg2 dmm dmm2 dsk dsk2
      go_loopw [20] (fun jv wr => ∃ j : Nat, j ≤ K ∧ jv = .int .i64 (j : Int) ∧ w9 = wr) (fun jv _ => K - (intOf jv).toNat)
      case atStart => exact ⟨0, Nat.zero_le _, rfl, rfl⟩
      case round =>
        obtain ⟨j, hj, rfl, rfl⟩ := hrel
        by_cases hlt : j < K
        · have hltj : (j : Int) < (K : Int) := by omega
          have hnk := HNK.out
          have hll := HLL.out
          have hxv := HXV.out
          have t1 := take_any w9 w9.heap.size A n c f (j : Int) 1 HR9.out (by omega) (by omega)
          have t2 := take_any w9 w9.heap.size A4 L c4 F (j : Int) 1 HX9.out (by omega) (by omega)
          obtain ⟨u1, u2⟩ := take_1 f n j (by omega)
          obtain ⟨v1, v2⟩ := take_1 F L j (by omega)
          rw [u1, u2] at t1
          rw [v1, v2, HAH.out j hlt] at t2
          obtain ⟨u, hu⟩ : ∃ u, u = bitAt f j := ⟨_, rfl⟩
          rw [← hu] at t1 t2
          have duu : ((u : Int) != (u : Int)) = false := by simp
          have T1 := Lib.hid t1; have T2 := Lib.hid t2
          clear t1 t2 u1 u2 v1 v2 hu hnk hll hxv
          go_wp2_with fail
          refine T1.out.mono ?_
          rintro e w' ⟨rfl, rfl⟩
          go_wp2_with fail
          refine T2.out.mono ?_
          rintro e w' ⟨rfl, rfl⟩
          go_wp2
          go_roundw
          case rel => exact ⟨j + 1, by omega, by go_num, trivial⟩
          case measure => simp [intOf]; omega
        · obtain rfl : j = K := by omega
          have hltj : ¬ (j : Int) < (j : Int) := by omega
          have hnk := HNK.out
          have hll := HLL.out
          have hxv := HXV.out
          have hk3 := HK3.out
          have t3 := take_any w9 w9.heap.size A4 L c4 F (j : Int) 3 HX9.out (by omega) (by omega)
          obtain ⟨v1, v2⟩ := take_3 F L j (by omega)
          rw [v1, v2, HKB.out] at t3
          have T3 := Lib.hid t3
          have wk : IntKind.u32.wrap (kind : Int) = (kind : Int) := by rw [IntKind.wrap_u32]; omega
          have mk : (kind : Int) % 4294967296 = (kind : Int) := by omega
          obtain ⟨t, ht⟩ : ∃ t, t = 2 * kind := ⟨_, rfl⟩
          have et : (2 : Int) * (kind : Int) = (t : Int) := by omega
          have ht5 : t ≤ 4 := by omega
          have mt : (t : Int) % 4294967296 = (t : Int) := by omega
          have wt : IntKind.u32.wrap (t : Int) = (t : Int) := by rw [IntKind.wrap_u32]; omega
          rw [← ht] at T3
          have HFI := Lib.hid (HB1.out.trans (HB19.out.mono HB1.out.size))
          clear t3 v1 v2 hnk hll hxv hk3 hlt ht
          obtain rfl | rfl : last = true ∨ last = false := by cases last <;> simp
          · obtain ⟨t1, ht1⟩ : ∃ t1, t1 = t + 1 := ⟨_, rfl⟩
            have et1 : (t : Int) + 1 = (t1 : Int) := by omega
            have mt1 : (t1 : Int) % 4294967296 = (t1 : Int) := by omega
            have wt1 : IntKind.u32.wrap (t1 : Int) = (t1 : Int) := by rw [IntKind.wrap_u32]; omega
            have dtt : ((t1 : Int) == (t1 : Int)) = true := by simp
            rw [if_pos rfl, ← ht1] at T3
            clear ht1
            go_wp2_with fail
            refine T3.out.mono ?_
            rintro e w' ⟨rfl, rfl⟩
            go_wp2
            go_ret
            exact ⟨rfl, HFI.out⟩
          · have dtt : ((t : Int) == (t : Int)) = true := by simp
            rw [if_neg (by simp), Nat.add_zero] at T3
            go_wp2_with fail
            refine T3.out.mono ?_
            rintro e w' ⟨rfl, rfl⟩
            go_wp2
            go_ret
            exact ⟨rfl, HFI.out⟩)
  · have de : (E != 0) = true := by simpa using e0
    have dee : (E == E) = true := by simp
    have hX0 : X = 0 := by rw [HXX.out]; unfold wrtK; rw [if_neg (by rw [HEQ.out, ← HE.out]; exact e0)]
    obtain rfl : L = 0 := by rw [HL.out, hX0]
    have HF := Lib.hid (HB1.out.trans (HB17.out.mono HB1.out.size))
    clear hX0 e0
    go_wp2
    go_ret
    exact ⟨rfl, HF.out⟩
theorem least11_walk (HW : WriteCon) (HL : LongCon) (HBC : BestCon) (A : Option Addr) (n c : Nat) (f : Nat → Nat) (k : Int) (kind : Nat) (A1 : Option Addr) (rn rc : Nat) (r : Nat → Nat) (A2 : Option Addr) (m c2 : Nat) (l : List Tok) (last : Bool) (w : World)
    (hr : ByR w w.heap.size A n c f) (_ : -9223372036854775808 ≤ k) (_ : k ≤ 9223372036854775807) (hkd : kind < 256) (hrr : ByR w w.heap.size A1 rn rc r) (hrt : TkR w w.heap.size A2 m c2 l) (hin : ∀ t ∈ l, TokIn t) :
    Calls Try.prog 4 #[.agg #[.slice A n c, .int .i64 k], .int .u8 (kind : Int), .slice A1 rn rc, .slice A2 m c2, .bool last] w fun e w' => e = .returned (.bool true) ∧ Below w.heap.size w w' := by
  by_cases hg : 500 < n ∨ 500 < rn ∨ 200 < m ∨ penE f n k ≠ 0
  · exact least11_guard HW A n c f k kind A1 rn rc A2 m c2 last w hr.1 hg
  · exact least11_main HW HL HBC A n c f k kind A1 rn rc r A2 m c2 l last w hr hkd hrr hrt hin (by omega) (by omega) (by omega) (by omega)
end Go.Proofs.Ytjhljkhgjcckhaa

