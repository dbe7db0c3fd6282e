/-
  Layer 11 (block), the program's row of bits: how many, the pen of all, the row of a pen; a stored block's size.
-/
import Derived.Great.BuildSlice
import Derived.Test.YtjhljkhgjcckhaaGreatMhad
import Derived.Test.YtjhljkhgjcckhaaGreatMhai
import Derived.Test.YtjhljkhgjcckhaaGreatMhas
namespace Go.Proofs.YtjhljkhgjcckhaaGreat
open Go.RowKit Go.ChangeShapes Go.WideShapes Go.ChangeAt Go.Joins
theorem frq_ext {c d : Nat → Nat} {n : Nat} (h : ∀ i, i < n → c i = d i) : frqL c n = frqL d n := by
  unfold frqL
  exact List.map_congr_left fun i hi => by rw [h i (List.mem_range.1 hi)]
theorem RdB.part {w : World} {B n m : Nat} {A : Option Addr} {f : Nat → Nat} (h : RdB w B A n f) (hm : m ≤ n) : RdB w B A m f := ⟨h.1, fun h0 => by
  obtain ⟨b, o, e, hb, hc⟩ := h.2 (by omega)
  exact ⟨b, o, e, hb, fun j hj => hc j (by omega)⟩⟩
set_option maxRecDepth 100000 in
set_option maxHeartbeats 2000000 in
theorem least11_any (w : World) (g : Nat) (l : List Tok) (hg : RowT w g 317 (cntE l) 90) (hl : l.length ≤ 1000000) (hok : ∀ t ∈ l, mayT t = true ∧ t.x < 256) :
    Calls Tryz.prog 43 #[.pointer (some ⟨g, 0, none⟩)] w fun e w' => ∃ A1 c1 A2 c2, e = .returned (.tuple #[.slice A1 (nA l) c1, .slice A2 (nB l) c2]) ∧ ByR w' w'.heap.size A1 (nA l) c1 (lnA l) ∧ ByR w' w'.heap.size A2 (nB l) c2 (lnB l) ∧ (∀ b o, A1 = some ⟨b, o, none⟩ → w.heap.size ≤ b) ∧ (∀ b o, A2 = some ⟨b, o, none⟩ → w.heap.size ≤ b) ∧ Below w.heap.size w w' := by
  obtain ⟨e1, e2⟩ := len_ask (c := cntA l) (n := 286) (most := 15) (by omega) (by omega) (by omega) (by decide) (fun i => by have := cntA_le l i; omega)
  obtain ⟨e3, e4⟩ := len_ask (c := cntB l) (n := 30) (most := 15) (by omega) (by omega) (by omega) (by decide) (fun i => by have := cntB_le l i; omega)
  rw [show ((15 : Nat) : Int) = 15 from rfl] at e1 e2 e3 e4
  obtain ⟨_, _, _, _, a1, a2, b1, b2, _⟩ := dyn_ok l hl
  have hr1 : RdI w w.heap.size (some ⟨g, 0, none⟩) (frqL (cntA l) 286) := by
    have := hg.rd 0 286 (by omega)
    rwa [frq_ext (d := cntA l) (fun i hi => by rw [Nat.zero_add]; exact cntE_A hok hi)] at this
  have hr2 : RdI w w.heap.size (some ⟨g, 286, none⟩) (frqL (cntB l) 30) := by
    have := hg.rd 286 30 (by omega)
    rwa [frq_ext (d := cntB l) (fun i hi => cntE_B l hi)] at this
  have h1 := lengths_room w (some ⟨g, 0, none⟩) 286 (frqL (cntA l) 286) 15 hr1 (fun h => by cases h) (by rw [frqL_length]; omega) (fun j hj => by rw [frqL_length] at hj; rw [frqL_get _ hj]; have := cntA_le l j; omega) (by omega) (by omega)
  rw [frqL_length, e1, e2] at h1
  have h2 := fun (V : World) (hV : Below w.heap.size w V) => lengths_room V (some ⟨g, 286, none⟩) 30 (frqL (cntB l) 30) 15 ((hr2.below hV (Nat.le_refl _)).more hV.size) (fun h => by cases h) (by rw [frqL_length]; omega) (fun j hj => by rw [frqL_length] at hj; rw [frqL_get _ hj]; have := cntB_le l j; omega) (by omega) (by omega)
  rw [frqL_length, e3, e4] at h2
  have H1 := Lib.hid h1; have H2 := Lib.hid h2
  have nAe : nA l = cutN (lenM (cntA l) 286 15) 257 286 := rfl
  have nBe : nB l = cutN (lenM (cntB l) 30 15) 1 30 := rfl
  have lAe : lnA l = lenM (cntA l) 286 15 := rfl
  have lBe : lnB l = lenM (cntB l) 30 15 := rfl
  rw [← lAe] at nAe
  rw [← lBe] at nBe
  obtain ⟨nl, hnl⟩ : ∃ n, n = nA l := ⟨_, rfl⟩
  obtain ⟨nd, hnd⟩ : ∃ n, n = nB l := ⟨_, rfl⟩
  obtain ⟨F, hF⟩ : ∃ F, F = lnA l := ⟨_, rfl⟩
  obtain ⟨G, hG⟩ : ∃ F, F = lnB l := ⟨_, rfl⟩
  rw [← lAe, ← hF] at h1
  rw [← lBe, ← hG] at h2
  rw [← hnl, ← hF] at nAe
  rw [← hnd, ← hG] at nBe
  rw [← hnl] at a1 a2
  rw [← hnd] at b1 b2
  rw [← hnl, ← hnd, ← hF, ← hG]
  have H1 := Lib.hid h1; have H2 := Lib.hid h2; have HNA := Lib.hid nAe; have HNB := Lib.hid nBe
  clear h1 h2 e1 e2 e3 e4 hr1 hr2 nAe nBe lAe lBe hnl hnd hF hG hg hok
  go_enter Tryz.func43, Tryz.ntmps43
  go_wp2_with fail
  refine H1.out.mono ?_
  rintro e w1 ⟨A1, c1, rfl, hb1, hr1, p1, p2, p3, p4⟩
  have HP4 := Lib.hid p4
  have HB1 := Lib.hid hb1; have HR1 := Lib.hid hr1; have HP3 := Lib.hid p3
  have HL2 := Lib.hid (H2.out w1 hb1)
  clear hb1 hr1 p3 p4 H1 H2
  go_wp2_with fail
  refine HL2.out.mono ?_
  rintro e w2 ⟨A2, c2, rfl, hb2, hr2, q1, q2, q3, q4⟩
  have HQ4 : Hid (∀ b o, A2 = some ⟨b, o, none⟩ → w.heap.size ≤ b) := Lib.hid fun b o e => Nat.le_trans HB1.out.size (q4 b o e)
  have HR12 := Lib.hid ((HR1.out.below hb2 (Nat.le_refl _)).more hb2.size); have HB2 := Lib.hid (HB1.out.trans (hb2.mono HB1.out.size)); have HR2 := Lib.hid hr2; have HQ3 := Lib.hid q3
  clear hb2 hr2 q3 q4 HL2 HB1 HR1
  have hc1 := cut11_any w2 A1 286 c1 F 257 HR12.out p1 (by omega) (by omega)
  have hc2 := cut11_any w2 A2 30 c2 G 1 HR2.out q1 (by omega) (by omega)
  rw [← HNA.out] at hc1
  rw [← HNB.out] at hc2
  have HC1 := Lib.hid hc1; have HC2 := Lib.hid hc2
  clear hc1 hc2
  go_wp2_with fail
  refine HC1.out.mono ?_
  rintro e w3 ⟨rfl, rfl⟩
  go_wp2_with fail
  refine HC2.out.mono ?_
  rintro e w4 ⟨rfl, rfl⟩
  go_wp2
  go_ret2
  exact ⟨A1, c1, A2, c2, rfl, ⟨HR12.out.part a2, HP3.out, by omega, by unfold maxLen; omega⟩, ⟨HR2.out.part b2, HQ3.out, by omega, by unfold maxLen; omega⟩, HP4.out, HQ4.out, HB2.out⟩
set_option maxRecDepth 100000 in
set_option maxHeartbeats 2000000 in
theorem check11_any (w : World) (kind : Nat) (A1 : Option Addr) (rn rc : Nat) (A2 : Option Addr) (m c2 : Nat) (l : List Tok) (hkd : kind < 256) (hm : m = l.length) (hr : RdT w w.heap.size A2 l) (hm2 : m ≤ 1000000) (hrn : rn ≤ 1000000) (hin : ∀ t ∈ l, TokIn t) :
    Calls Tryz.prog 20 #[.int .u8 (kind : Int), .slice A1 rn rc, .slice A2 m c2] w fun e w' => e = .returned (.int .i64 (askW kind rn l)) ∧ Below w.heap.size w w' := by
  obtain ⟨E, hE⟩ : ∃ E, E = askW kind rn l := ⟨_, rfl⟩
  rw [← hE]
  have HE := Lib.hid hE; have HR := Lib.hid hr; have HM := Lib.hid hm; have HIN := Lib.hid hin
  have HB0 := Lib.hid (Below.refl w.heap.size w)
  clear hE hr hm hin
  by_cases y0 : 2 < kind
  · have d0 : decide (2 < (kind : Int)) = true := by simp; omega
    obtain rfl : E = 2 := by rw [HE.out]; unfold askW; rw [if_pos y0]
    go_enter Tryz.func20, Tryz.ntmps20
    go_wp2
    go_ret
    exact ⟨rfl, HB0.out⟩
  have d0 : decide (2 < (kind : Int)) = false := decN0 (by omega)
  by_cases y1 : 65535 < rn
  · have d1 : decide (65535 < (rn : Int)) = true := decY0 (by omega)
    obtain rfl : E = 4 := by rw [HE.out]; unfold askW; rw [if_neg y0, if_pos (.inl y1)]
    go_enter Tryz.func20, Tryz.ntmps20
    go_wp2
    go_ret
    exact ⟨rfl, HB0.out⟩
  have d1 : decide (65535 < (rn : Int)) = false := decN0 (by omega)
  by_cases y2 : 65535 < m
  · have d2 : decide (65535 < (m : Int)) = true := decY0 (by omega)
    obtain rfl : E = 4 := by rw [HE.out]; unfold askW; rw [if_neg y0, if_pos (.inr (by rw [← HM.out]; exact y2))]
    go_enter Tryz.func20, Tryz.ntmps20
    go_wp2
    go_ret
    exact ⟨rfl, HB0.out⟩
  have d2 : decide (65535 < (m : Int)) = false := decN0 (by omega)
  have hE2 : E = if l.all mayT then 0 else 8 := by rw [HE.out]; unfold askW; rw [if_neg y0, if_neg (by rw [← HM.out]; omega)]
  have HE2 := Lib.hid hE2
  clear hE2 HE
  go_enter Tryz.func20, Tryz.ntmps20
  go_wp2_with fail
  go_loopw [22] (fun iv wr => ∃ i : Nat, i ≤ m ∧ iv = .int .i64 (i : Int) ∧ Hid ((l.take i).all mayT = true) ∧ Hid (Below w.heap.size w wr)) (fun iv _ => m - (intOf iv).toNat)
  case atStart => exact ⟨0, Nat.zero_le _, rfl, Lib.hid (by simp), HB0⟩
  case round =>
    obtain ⟨i, hi, rfl, HA, HB⟩ := hrel
    by_cases hlt : i < m
    · have hlti : (i : Int) < (m : Int) := by omega
      have hil : i < l.length := by rw [← HM.out]; exact hlt
      have htw := HR.out.below HB.out (Nat.le_refl _)
      obtain ⟨b, o, rfl, hbl, hc⟩ := htw.at hil
      have hrg := htw.range rfl hil
      have hmem : l.getD i tok0 ∈ l := by rw [List.getD_eq_getElem?_getD, List.getElem?_eq_getElem hil]; exact List.getElem_mem hil
      have hti := HIN.out _ hmem
      have htk := take_one hil
      obtain ⟨t, ht⟩ : ∃ t, t = l.getD i tok0 := ⟨_, rfl⟩
      rw [← ht] at hrg hti htk hmem
      obtain ⟨W3, hW3⟩ : ∃ W3, W3 = mkV wr #[.int .u8 0, .int .i64 0, .int .i64 0] (tokC t).toArray 72 := ⟨_, rfl⟩
      have hb3 : Below wr.heap.size wr W3 := by rw [hW3]; exact mkV_below _ _ _ _
      have hrow : W3.heap[wr.heap.size]? = some (.cells (tokC t).toArray 72 (0, 0)) := by rw [hW3]; exact mkV_row wr _ _ _
      have htk8 := tok8_any W3 t hti
      have HRG := Lib.hid hrg; have HB3 := Lib.hid (HB.out.trans (hb3.mono HB.out.size)); have HW3 := Lib.hid hW3; have HROW := Lib.hid hrow; have HTK8 := Lib.hid htk8; have HTK := Lib.hid htk; have HMEM := Lib.hid hmem
      clear hrg hb3 hrow hW3 htk ht htw hc hmem hti htk8
      go_wp2_with (first | refine wpList_load_mid rfl _ _ rfl b (o + i * 3) rfl (tokC t) _ HRG.out Tryz.underlying72 rfl szTok ?_ | refine wpList_store_rowTo rfl _ _ _ rfl rfl wr.heap.size (tokC t).toArray rfl rfl 72 #[.int .u8 0, .int .i64 0, .int .i64 0] (heap_alloc_new wr _) (szTokA _) rfl (tokA_one _) ?_; change wpList _ _ _ _ _ (mkV wr #[.int .u8 0, .int .i64 0, .int .i64 0] (tokC t).toArray 72); rw [← HW3.out] | refine wpList_load_row rfl _ _ rfl wr.heap.size rfl _ (tokC t).toArray (0, 0) _ HROW.out Tryz.underlying72 rfl (szTokA _) ?_ | fail)
      refine HTK8.out.mono ?_
      rintro e w4 ⟨rfl, hb4⟩
      have HB4 := Lib.hid (HB3.out.trans (hb4.mono HB3.out.size))
      clear hb4
      by_cases hmy : mayT t = true
      · have e0 : tokE t = 0 := by unfold tokE; rw [if_pos hmy]
        rw [e0]
        have hall : (l.take (i + 1)).all mayT = true := by rw [HTK.out, List.all_append, HA.out]; simp [hmy]
        have HALL := Lib.hid hall
        clear hall
        go_wp2
        go_roundw
        case rel => exact ⟨i + 1, by omega, by go_num, HALL, HB4⟩
        case measure => simp [intOf]; omega
      · have e0 : tokE t = 8 := by unfold tokE; rw [if_neg hmy]
        rw [e0]
        obtain rfl : E = 8 := by
          rw [HE2.out, if_neg]
          intro h
          exact hmy (List.all_eq_true.1 h t HMEM.out)
        go_wp2
        go_ret
        exact ⟨rfl, HB4.out⟩
    · obtain rfl : i = m := by omega
      have hlti : ¬ (i : Int) < (i : Int) := by omega
      have ha := HA.out
      rw [HM.out, List.take_length] at ha
      obtain rfl : E = 0 := by rw [HE2.out, if_pos ha]
      clear ha
      go_wp2
      go_ret
      exact ⟨rfl, HB.out⟩
set_option maxRecDepth 100000 in
set_option maxHeartbeats 2000000 in
theorem cbits11_any (w : World) (g : Nat) (l : List Tok) (hg : RowT w g 317 (cntE l) 90) (hl : l.length ≤ 1000000) (hok : ∀ t ∈ l, mayT t = true ∧ t.x < 256) (A1 : Option Addr) (n1 c1 : Nat) (F : Nat → Nat) (A2 : Option Addr) (n2 c2 : Nat) (G : Nat → Nat) (h1 : RdB w w.heap.size A1 n1 F) (h2 : RdB w w.heap.size A2 n2 G) (k1 k2 : Nat) (hk1 : k1 = min n1 286) (hk2 : k2 = min n2 30) :
    Calls Tryz.prog 56 #[.pointer (some ⟨g, 0, none⟩), .slice A1 n1 c1, .slice A2 n2 c2] w fun e w' => e = .returned (.int .i64 ((cstN (cntA l) F k1 + cstN (cntB l) G k2 + extT l : Nat) : Int)) ∧ Below w.heap.size w w' := by
  have hA : ∀ i, cntA l i ≤ 1000001 := fun i => by have := cntA_le l i; omega
  have hB : ∀ i, cntB l i ≤ 1000000 := fun i => by have := cntB_le l i; omega
  have hgl := hg.lt
  have r1 : ∀ V, Below w.heap.size w V → RdJ V g 0 286 (cntA l) := fun V hV i hi => by
    rw [Nat.zero_add, (hg.below hV hgl).cell (by omega), cntE_A hok hi]
  have r2 : ∀ V, Below w.heap.size w V → RdJ V g 286 30 (cntB l) := fun V hV i hi => by
    rw [(hg.below hV hgl).cell (by omega), cntE_B l hi]
  have x3 : ∀ V, Below w.heap.size w V → V.cell? ⟨g, 316, none⟩ = some (.int .i64 ((extT l : Nat) : Int)) := fun V hV => by
    rw [(hg.below hV hgl).cell (by omega), cntE_X]
  have s1 := cstN_le hA (fun j => Nat.le_of_lt (h1.1 j)) k1
  have s2 := cstN_le hB (fun j => Nat.le_of_lt (h2.1 j)) k2
  have s3 := extT_le l hok
  obtain ⟨S1, hS1⟩ : ∃ S, S = cstN (cntA l) F k1 := ⟨_, rfl⟩
  obtain ⟨S2, hS2⟩ : ∃ S, S = cstN (cntB l) G k2 := ⟨_, rfl⟩
  obtain ⟨S3, hS3⟩ : ∃ S, S = extT l := ⟨_, rfl⟩
  have T1 : Hid (∀ V, Below w.heap.size w V → Calls Tryz.prog 83 #[.slice (some ⟨g, 0, none⟩) 286 286, .slice A1 n1 c1] V fun e w' => e = .returned (.int .i64 (S1 : Int)) ∧ Below w.heap.size w w') := Lib.hid fun V hV => by
    rw [hS1]
    exact (cost11_any V g 0 286 286 (cntA l) A1 n1 c1 F (r1 V hV) (by have := hV.size; omega) hA (by omega) ((h1.below hV (Nat.le_refl _)).more hV.size) k1 hk1).mono fun _ _ ⟨e, b⟩ => ⟨e, hV.trans (b.mono hV.size)⟩
  have T2 : Hid (∀ V, Below w.heap.size w V → Calls Tryz.prog 83 #[.slice (some ⟨g, 286, none⟩) 30 30, .slice A2 n2 c2] V fun e w' => e = .returned (.int .i64 (S2 : Int)) ∧ Below w.heap.size w w') := Lib.hid fun V hV => by
    rw [hS2]
    exact (cost11_any V g 286 30 30 (cntB l) A2 n2 c2 G (r2 V hV) (by have := hV.size; omega) (fun i => by have := hB i; omega) (by omega) ((h2.below hV (Nat.le_refl _)).more hV.size) k2 hk2).mono fun _ _ ⟨e, b⟩ => ⟨e, hV.trans (b.mono hV.size)⟩
  have hm1 : k1 * (1000001 * 256) ≤ 286 * (1000001 * 256) := Nat.mul_le_mul_right _ (by omega)
  have hm2 : k2 * (1000000 * 256) ≤ 30 * (1000000 * 256) := Nat.mul_le_mul_right _ (by omega)
  rw [← hS1] at s1
  rw [← hS2] at s2
  rw [← hS3] at s3
  have q1 : S1 ≤ 74000000000 := by omega
  have q2 : S2 ≤ 8000000000 := by omega
  have q3 : S3 ≤ 18000000 := by omega
  have k0 : ∀ p : After w.heap.size w, p.w.cell? ⟨g, 316, none⟩ = some (.int .i64 (S3 : Int)) := fun p => by rw [hS3]; exact x3 p.w p.h
  rw [← hS1, ← hS2, ← hS3]
  clear hS1 hS2 hS3 s1 s2 s3 hm1 hm2 r1 r2 x3 hA hB hg hok h1 h2 hk1 hk2
  go_enter Tryz.func56, Tryz.ntmps56
  go_wp2
  refine wp_region_after w.heap.size w (Below.refl _ _) (by kernel_rfl) (by kernel_rfl) ?_
  repeat (go_big_quiet_step (first | (with_reducible exact call_after T1.out _) | (with_reducible exact call_after T2.out _)))
  refine wpQuiet_nil ?_
  rintro V ⟨⟨V, hV⟩, rfl⟩
  go_wp2
  go_ret
  exact ⟨by first | rfl | go_num, hV⟩
end Go.Proofs.YtjhljkhgjcckhaaGreat

namespace Go.Proofs.YtjhljkhgjcckhaaGreat
open Go.RowKit Go.ChangeShapes Go.WideShapes Go.ChangeAt Go.Joins
theorem built_numP (v n : Int) : Tryz.prog.built 84 [(0, .int .u32 v), (1, .int .i64 n)] = some #[.int .u32 v, .int .i64 n] := by kernel_rfl
/-- Numbers of a literal, put behind the others. -/
theorem put_lit (w : World) (S : Nat → Prop) (B g : Nat) (f : Nat → Nat) (K : Nat) (P : List (Nat × Nat)) (m : Nat) (hm : m = P.length) (cs : Array Value) (hcs : cs.toList = numsL P) (h : RowAt w S B g f K) (hm2 : m ≤ 1000) (hfit : ∀ x ∈ P, FitN x) (hk : K + bitsT P ≤ 16000000) :
    Calls Tryz.prog 41 #[.pointer (some ⟨g, 0, none⟩), .slice (some ⟨w.heap.size, 0, none⟩) m m] (w.alloc (.cells cs 84)) fun e w' => e = .returned (.tuple #[]) ∧ RowAt w' S B g (putsF f K P) (K + bitsT P) ∧ KpB S w w' ∧ Below B w w' := by
  have hb := (Below.refl w.heap.size w).alloc (Nat.le_refl _) (.cells cs 84)
  have hsz : cs.size = m * 2 := by rw [← Array.length_toList, hcs, numsL_length, hm]
  have hrd : RdN (w.alloc (.cells cs 84)) (w.alloc (.cells cs 84)).heap.size (some ⟨w.heap.size, 0, none⟩) P := by
    have := SrcL.new w 2 m cs 84 hsz
    rw [hcs, hm] at this
    exact this
  refine (put11_any _ _ B g f K (some ⟨w.heap.size, 0, none⟩) m m P (h.grow hb) hrd (fun b o _ e => ?_) hm hm2 hfit hk).mono fun e w' ⟨h1, h2, h3, h4⟩ => ⟨h1, h2.less fun _ k => .inl k, (KpB.below h.top hb).tr (h3.less fun _ k => .inl k), (hb.mono h.size).trans h4⟩
  injection e with e
  injection e with e1
  refine .inr ?_
  simp only [World.size_alloc]; omega
set_option maxRecDepth 100000 in
set_option maxHeartbeats 1000000 in
theorem rowbits_any (w : World) (S : Nat → Prop) (B g : Nat) (f : Nat → Nat) (K : Nat) (h : RowAt w S B g f K) (hK : K ≤ 16000000) :
    Calls Tryz.prog 27 #[.pointer (some ⟨g, 0, none⟩)] w fun e w' => e = .returned (.int .i64 (K : Int)) ∧ w' = w.drew := by
  obtain ⟨_, A, c, hq⟩ := h
  obtain ⟨z0, _, z2, _, _, _⟩ := hq.cells
  obtain ⟨L, hL⟩ : ∃ L, L = K / 8 := ⟨_, rfl⟩
  obtain ⟨q, hqq⟩ : ∃ q, q = K % 8 := ⟨_, rfl⟩
  rw [← hL] at z0
  rw [← hqq] at z2
  have hKe : K = 8 * L + q := by omega
  have hLb : L ≤ 2000000 := by omega
  have hqb : q < 8 := by omega
  clear hq hL hqq hK
  subst hKe
  go_enter Tryz.func27, Tryz.ntmps27
  go_wp2
  go_region
  go_wp2
  go_ret
  exact ⟨by first | rfl | go_num, rfl⟩
set_option maxRecDepth 100000 in
set_option maxHeartbeats 1000000 in
theorem size11_any (w : World) (S : Nat → Prop) (B g : Nat) (f : Nat → Nat) (K n p : Nat) (h : RowAt w S B g f K) (hn : n ≤ 65535) (hK : K ≤ 15000000) (hp : p = (8 - K % 8) % 8) :
    Calls Tryz.prog 42 #[.pointer (some ⟨g, 0, none⟩), .int .i64 (n : Int)] w fun e w' => e = .returned (.tuple #[]) ∧ RowAt w' S B g (putsF f K [(0, p), (n, 16), (65535 - n, 16)]) (K + bitsT [(0, p), (n, 16), (65535 - n, 16)]) ∧ KpB S w w' ∧ Below B w w' := by
  have hp8 : p < 8 := by omega
  have hbt : bitsT [(0, p), (n, 16), (65535 - n, 16)] = p + 32 := by simp [bitsT]
  have hput := put_lit w S B g f K [(0, p), (n, 16), (65535 - n, 16)] 3 rfl #[.int .u32 0, .int .i64 (p : Int), .int .u32 (n : Int), .int .i64 16, .int .u32 ((65535 - n : Nat) : Int), .int .i64 16] rfl h (by omega) (fun x hx => by
    simp only [List.mem_cons, List.not_mem_nil, or_false] at hx
    rcases hx with rfl | rfl | rfl
    · exact fit_mk (Nat.two_pow_pos _) (by omega)
    · exact fit_mk (by omega) (by omega)
    · exact fit_mk (by omega) (by omega)) (by rw [hbt]; omega)
  obtain ⟨_, A, c, hq⟩ := h
  obtain ⟨_, _, z2, _, _, _⟩ := hq.cells
  obtain ⟨q, hqq⟩ : ∃ q, q = K % 8 := ⟨_, rfl⟩
  rw [← hqq] at z2 hp
  have hq8 : q < 8 := by omega
  have hm1 : ((8 : Int) - (q : Int)).tmod 8 = (p : Int) := by rw [Int.tmod_eq_emod_of_nonneg (by omega)]; omega
  have hm2 : ((8 : Int) - (q : Int)) % 8 = (p : Int) := by omega
  have hm3 : (65535 : Int) - (n : Int) = ((65535 - n : Nat) : Int) := by omega
  obtain ⟨y, hy⟩ : ∃ y, y = 65535 - n := ⟨_, rfl⟩
  rw [← hy] at hput hm3 ⊢
  have hyb : y ≤ 65535 := by omega
  have HPUT := Lib.hid hput
  clear hput hq hqq hp hbt hy
  go_enter Tryz.func42, Tryz.ntmps42
  go_wp2_with (first
    | (refine wpList_buildTo rfl 84 #[(0, .const (.int .u32 0)), (1, .tmp 12)] rfl (some 13) rfl #[.int .u32 0, .int .i64 (p : Int)] ?_ ?_; focus (simpa [Act.eval] using built_numP 0 (p : Int)))
    | (refine wpList_buildTo rfl 84 #[(0, .tmp 15), (1, .const (.int .i64 16))] rfl (some 16) rfl #[.int .u32 (n : Int), .int .i64 16] ?_ ?_; focus (simpa [Act.eval] using built_numP (n : Int) 16))
    | (refine wpList_buildTo rfl 84 #[(0, .tmp 19), (1, .const (.int .i64 16))] rfl (some 20) rfl #[.int .u32 (y : Int), .int .i64 16] ?_ ?_; focus (simpa [Act.eval] using built_numP (y : Int) 16))
    | fail)
  refine HPUT.out.mono ?_
  rintro e w1 ⟨rfl, h1, h2, h3⟩
  have H1 := Lib.hid h1; have H2 := Lib.hid h2; have H3 := Lib.hid h3
  clear h1 h2 h3
  go_wp2
  go_end0
  exact ⟨rfl, H1.out, H2.out, H3.out⟩
end Go.Proofs.YtjhljkhgjcckhaaGreat

