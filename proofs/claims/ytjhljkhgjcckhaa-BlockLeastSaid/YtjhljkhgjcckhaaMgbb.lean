/-
  The law BlockStored over what the program's functions are asked to answer: stored blocks.
-/
import Derived.Deep.DeepCutAuto
import Derived.Test.YtjhljkhgjcckhaaMgab
import Derived.Test.YtjhljkhgjcckhaaMgac
import Derived.Test.YtjhljkhgjcckhaaMgad
import Derived.Test.YtjhljkhgjcckhaaMgae
namespace Go.Proofs.Ytjhljkhgjcckhaa
open Go.RowKit Go.ChangeShapes Go.WideShapes Go.ChangeAt Go.Joins
theorem take_1 (f : Nat → Nat) (l j : Nat) (h : j + 1 ≤ 8 * l) : takeV f l (j : Int) 1 = bitAt f j ∧ takeE l (j : Int) 1 = 0 := by
  unfold takeV takeE
  rw [if_neg (by omega), if_neg (by omega), if_neg (by omega), if_neg (by omega), Int.toNat_natCast]
  exact ⟨by show 0 + bitAt f (j + 0) * 2 ^ 0 = bitAt f j; simp, rfl⟩
theorem take_3 (f : Nat → Nat) (l j : Nat) (h : j + 3 ≤ 8 * l) : takeV f l (j : Int) 3 = numN f j 3 ∧ takeE l (j : Int) 3 = 0 := by
  unfold takeV takeE
  rw [if_neg (by omega), if_neg (by omega), if_neg (by omega), if_neg (by omega), Int.toNat_natCast]
  exact ⟨rfl, rfl⟩
/-- Behind a pen that may be, and is not great, a block fails by what is asked of it alone. -/
theorem wrt_ask {f : Nat → Nat} {n K kind rn : Nat} {r : Nat → Nat} {l : List Tok} {last : Bool} (hc : penB f n (K : Int) = true) (hK : K ≤ 4000000) (hr : ∀ j, r j < 256) (hx : ∀ t ∈ l, t.x < 256) :
    wrtE f n (K : Int) kind rn r l last = askW kind rn l ∧ (askW kind rn l = 0 → wrtK f n (K : Int) kind rn r l last = K + bitsT (blkP (K % 8) kind rn r l last) ∧ wrtF f n (K : Int) kind rn r l last = putsF (zext n f) K (blkP (K % 8) kind rn r l last)) := by
  have he : wrtE f n (K : Int) kind rn r l last = askW kind rn l := by
    unfold wrtE
    rw [if_neg (by rw [hc]; simp), Int.toNat_natCast]
    by_cases h : askW kind rn l = 0
    · obtain ⟨h1, h2, h3, h4⟩ := askW_ok h
      have hb := blkP_bits (a := K % 8) (last := last) h1 h2 hr h3 (fun t ht => ⟨h4 t ht, hx t ht⟩)
      rw [if_neg (fun g => g h), if_neg (by omega), h]
    · rw [if_pos h]
  refine ⟨he, fun h => ?_⟩
  unfold wrtK wrtF
  rw [he, if_pos h, if_pos h, Int.toNat_natCast]
  exact ⟨rfl, rfl⟩
set_option maxRecDepth 100000 in
set_option maxHeartbeats 2000000 in
theorem least11_guard (HC : WriteCon) (A : Option Addr) (n c : Nat) (f : Nat → Nat) (k : Int) (kind : Nat) (A1 : Option Addr) (rn rc : Nat) (A2 : Option Addr) (m c2 : Nat) (last : Bool) (w : World) (hr : RdB w w.heap.size A n f) (hg : 500 < n ∨ 500 < rn ∨ 200 < m ∨ penE f n k ≠ 0) :
    Calls Try.prog 4 #[.agg #[.slice A n c, .int .i64 k], .int .u8 (kind : Int), .slice A1 rn rc, .slice A2 m c2, .bool last] w fun e w' => e = .returned (.bool true) ∧ Below w.heap.size w w' := by
  obtain ⟨h, hh⟩ : ∃ h, h = w.heap.size := ⟨_, rfl⟩
  obtain ⟨W1, hW1⟩ : ∃ W, W = w.alloc (.cells #[.slice A n c, .int .i64 k] 32) := ⟨_, rfl⟩
  have h0 : W1.heap[h]? = some (.cells #[.slice A n c, .int .i64 k] 32 (0, 0)) := by rw [hW1, hh]; exact heap_alloc_new w _
  have hb1 : Below w.heap.size w W1 := by rw [hW1]; exact (Below.refl _ _).alloc (Nat.le_refl _) _
  have hal := alive11_any HC W1
  have HR1 := Lib.hid ((hr.below hb1 (Nat.le_refl _)).more hb1.size)
  have HAL := Lib.hid hal; have H0 := Lib.hid h0; have HB1 := Lib.hid hb1; have HW1 := Lib.hid hW1; have HH := Lib.hid hh
  clear hal h0 hb1 hW1 hh HC hr
  by_cases h1 : 500 < n
  · have d1 : decide (500 < (n : Int)) = true := by simp; omega
    clear hg
    go_enter Try.func4, Try.ntmps4
    go_wp2_with fail
    rw [← HW1.out, ← HH.out]
    refine HAL.out.mono ?_
    rintro e w2 ⟨rfl, hb2⟩
    have HB2 := Lib.hid (HB1.out.trans (hb2.mono HB1.out.size))
    have k0 : w2.cell? ⟨h, 0, none⟩ = some (.slice A n c) := (cell_of_row w2 h 0 _ _ (0, 0) ((hb2.block h (Array.getElem?_eq_some_iff.1 H0.out).1).trans H0.out)).trans rfl
    clear hb2
    go_wp2
    go_ret
    exact ⟨rfl, HB2.out⟩
  have d1 : decide (500 < (n : Int)) = false := by simp; omega
  by_cases h2 : 500 < rn
  · have d2 : decide (500 < (rn : Int)) = true := by simp; omega
    clear hg
    go_enter Try.func4, Try.ntmps4
    go_wp2_with fail
    rw [← HW1.out, ← HH.out]
    refine HAL.out.mono ?_
    rintro e w2 ⟨rfl, hb2⟩
    have HB2 := Lib.hid (HB1.out.trans (hb2.mono HB1.out.size))
    have k0 : w2.cell? ⟨h, 0, none⟩ = some (.slice A n c) := (cell_of_row w2 h 0 _ _ (0, 0) ((hb2.block h (Array.getElem?_eq_some_iff.1 H0.out).1).trans H0.out)).trans rfl
    clear hb2
    go_wp2
    go_ret
    exact ⟨rfl, HB2.out⟩
  have d2 : decide (500 < (rn : Int)) = false := by simp; omega
  by_cases h3 : 200 < m
  · have d3 : decide (200 < (m : Int)) = true := by simp; omega
    clear hg
    go_enter Try.func4, Try.ntmps4
    go_wp2_with fail
    rw [← HW1.out, ← HH.out]
    refine HAL.out.mono ?_
    rintro e w2 ⟨rfl, hb2⟩
    have HB2 := Lib.hid (HB1.out.trans (hb2.mono HB1.out.size))
    have k0 : w2.cell? ⟨h, 0, none⟩ = some (.slice A n c) := (cell_of_row w2 h 0 _ _ (0, 0) ((hb2.block h (Array.getElem?_eq_some_iff.1 H0.out).1).trans H0.out)).trans rfl
    clear hb2
    go_wp2
    go_ret
    exact ⟨rfl, HB2.out⟩
  have d3 : decide (200 < (m : Int)) = false := by simp; omega
  have hpe : penE f n k ≠ 0 := by omega
  obtain ⟨E, hE⟩ : ∃ E, E = penE f n k := ⟨_, rfl⟩
  rw [← hE] at hpe
  have dE : (E != 0) = true := by simpa using hpe
  have HE := Lib.hid hE
  clear hg hpe hE
  go_enter Try.func4, Try.ntmps4
  go_wp2_with fail
  rw [← HW1.out, ← HH.out]
  refine HAL.out.mono ?_
  rintro e w2 ⟨rfl, hb2⟩
  have HB2 := Lib.hid (HB1.out.trans (hb2.mono HB1.out.size))
  have h02 := (hb2.block h (Array.getElem?_eq_some_iff.1 H0.out).1).trans H0.out
  have k0 : w2.cell? ⟨h, 0, none⟩ = some (.slice A n c) := (cell_of_row w2 h 0 _ _ (0, 0) h02).trans rfl
  have hck := pcheck_any w2 A n c f k ((HR1.out.below hb2 (Nat.le_refl _)).more hb2.size)
  rw [← HE.out] at hck
  have HCK := Lib.hid hck; have H02 := Lib.hid h02
  clear hb2 hck h02
  go_wp2_with (first
    | (refine wpList_load_row_on (by rfl) _ _ rfl h rfl _ #[.slice A n c, .int .i64 k] (0, 0) _ H02.out Try.underlying32 rfl szPen2 ?_)
    | fail)
  refine HCK.out.mono ?_
  rintro e w3 ⟨rfl, hb3⟩
  have HB3 := Lib.hid (HB2.out.trans (hb3.mono HB2.out.size))
  clear hb3
  go_wp2
  go_ret
  exact ⟨rfl, HB3.out⟩
end Go.Proofs.Ytjhljkhgjcckhaa

namespace Go.Proofs.Ytjhljkhgjcckhaa
open Go.RowKit Go.ChangeShapes Go.WideShapes Go.ChangeAt Go.Joins
theorem add_off (b o p : Nat) : (⟨b, o, none⟩ : Addr).add p = ⟨b, o + p, none⟩ := by unfold Addr.add; split <;> simp_all
set_option maxRecDepth 100000 in
set_option maxHeartbeats 2000000 in
theorem sto11_guard (HC : WriteCon) (A : Option Addr) (n c : Nat) (k : Int) (A1 : Option Addr) (rn rc : Nat) (A2 : Option Addr) (m c2 : Nat) (w : World) (hg : 500 < n ∨ 500 < rn ∨ 200 < m) :
    Calls Try.prog 5 #[.agg #[.slice A n c, .int .i64 k], .slice A1 rn rc, .slice A2 m c2] w fun e w' => e = .returned (.bool true) ∧ Below w.heap.size w w' := by
  obtain ⟨h, hh⟩ : ∃ h, h = w.heap.size := ⟨_, rfl⟩
  obtain ⟨W1, hW1⟩ : ∃ W, W = w.alloc (.cells #[.slice A n c, .int .i64 k] 32) := ⟨_, rfl⟩
  have h0 : W1.heap[h]? = some (.cells #[.slice A n c, .int .i64 k] 32 (0, 0)) := by rw [hW1, hh]; exact heap_alloc_new w _
  have hb1 : Below w.heap.size w W1 := by rw [hW1]; exact (Below.refl _ _).alloc (Nat.le_refl _) _
  have HAL := Lib.hid (alive11_any HC W1); have H0 := Lib.hid h0; have HB1 := Lib.hid hb1; have HW1 := Lib.hid hW1; have HH := Lib.hid hh
  clear h0 hb1 hW1 hh HC
  by_cases h1 : 500 < n
  · have d1 : decide (500 < (n : Int)) = true := by simp; omega
    clear hg
    go_enter Try.func5, Try.ntmps5
    go_wp2_with fail
    rw [← HW1.out, ← HH.out]
    refine HAL.out.mono ?_
    rintro e w2 ⟨rfl, hb2⟩
    have HB2 := Lib.hid (HB1.out.trans (hb2.mono HB1.out.size))
    have k0 : w2.cell? ⟨h, 0, none⟩ = some (.slice A n c) := (cell_of_row w2 h 0 _ _ (0, 0) ((hb2.block h (Array.getElem?_eq_some_iff.1 H0.out).1).trans H0.out)).trans rfl
    clear hb2
    go_wp2
    go_ret
    exact ⟨rfl, HB2.out⟩
  have d1 : decide (500 < (n : Int)) = false := by simp; omega
  by_cases h2 : 500 < rn
  · have d2 : decide (500 < (rn : Int)) = true := by simp; omega
    clear hg
    go_enter Try.func5, Try.ntmps5
    go_wp2_with fail
    rw [← HW1.out, ← HH.out]
    refine HAL.out.mono ?_
    rintro e w2 ⟨rfl, hb2⟩
    have HB2 := Lib.hid (HB1.out.trans (hb2.mono HB1.out.size))
    have k0 : w2.cell? ⟨h, 0, none⟩ = some (.slice A n c) := (cell_of_row w2 h 0 _ _ (0, 0) ((hb2.block h (Array.getElem?_eq_some_iff.1 H0.out).1).trans H0.out)).trans rfl
    clear hb2
    go_wp2
    go_ret
    exact ⟨rfl, HB2.out⟩
  have d2 : decide (500 < (rn : Int)) = false := by simp; omega
  have d3 : decide (200 < (m : Int)) = true := by simp; omega
  clear hg
  go_enter Try.func5, Try.ntmps5
  go_wp2_with fail
  rw [← HW1.out, ← HH.out]
  refine HAL.out.mono ?_
  rintro e w2 ⟨rfl, hb2⟩
  have HB2 := Lib.hid (HB1.out.trans (hb2.mono HB1.out.size))
  have k0 : w2.cell? ⟨h, 0, none⟩ = some (.slice A n c) := (cell_of_row w2 h 0 _ _ (0, 0) ((hb2.block h (Array.getElem?_eq_some_iff.1 H0.out).1).trans H0.out)).trans rfl
  clear hb2
  go_wp2
  go_ret
  exact ⟨rfl, HB2.out⟩
set_option maxRecDepth 100000 in
set_option maxHeartbeats 8000000 in
theorem sto11_main (HW : WriteCon) (HL : LongCon) (HBC : BestCon) (A : Option Addr) (n c : Nat) (f : Nat → Nat) (k : Int) (A1 : Option Addr) (rn rc : Nat) (r : Nat → Nat) (A2 : Option Addr) (m c2 : Nat) (l : List Tok) (w : World)
    (hr : ByR w w.heap.size A n c f) (hk1 : -9223372036854775808 ≤ k) (hk2 : k ≤ 9223372036854775807) (hrr : ByR w w.heap.size A1 rn rc r) (hrt : TkR w w.heap.size A2 m c2 l) (hin : ∀ t ∈ l, TokIn t) (g1 : n ≤ 500) (g2 : rn ≤ 500) (g3 : m ≤ 200) :
    Calls Try.prog 5 #[.agg #[.slice A n c, .int .i64 k], .slice A1 rn rc, .slice A2 m c2] w fun e w' => e = .returned (.bool true) ∧ Below w.heap.size w w' := by
  have d1 : decide (500 < (n : Int)) = false := by simp; omega
  have d2 : decide (500 < (rn : Int)) = false := by simp; omega
  have d3 : decide (200 < (m : Int)) = false := by simp; omega
  obtain ⟨h, hh⟩ : ∃ h, h = w.heap.size := ⟨_, rfl⟩
  obtain ⟨W1, hW1⟩ : ∃ W, W = w.alloc (.cells #[.slice A n c, .int .i64 k] 32) := ⟨_, rfl⟩
  have h0 : W1.heap[h]? = some (.cells #[.slice A n c, .int .i64 k] 32 (0, 0)) := by rw [hW1, hh]; exact heap_alloc_new w _
  have hb1 : Below w.heap.size w W1 := by rw [hW1]; exact (Below.refl _ _).alloc (Nat.le_refl _) _
  have HAL := Lib.hid (alive11_any HW W1)
  have HR1 := Lib.hid ((hr.below hb1 (Nat.le_refl _)).more hb1.size); have HRR1 := Lib.hid ((hrr.below hb1 (Nat.le_refl _)).more hb1.size); have HRT1 := Lib.hid ((hrt.below hb1 (Nat.le_refl _)).more hb1.size)
  have HW1 := Lib.hid hW1; have HH := Lib.hid hh; have H0 := Lib.hid h0; have HB1 := Lib.hid hb1; have HIN := Lib.hid hin
  have HWC := Lib.hid HW; have HLC := Lib.hid HL; have HBCC := Lib.hid HBC
  clear hW1 hh h0 hb1 hr hrr hrt hin HW HL HBC
  go_enter Try.func5, Try.ntmps5
  go_wp2_with fail
  rw [← HW1.out, ← HH.out]
  refine HAL.out.mono ?_
  rintro e w2 ⟨rfl, hb2⟩
  have h02 := (hb2.block h (Array.getElem?_eq_some_iff.1 H0.out).1).trans H0.out
  have k0 : w2.cell? ⟨h, 0, none⟩ = some (.slice A n c) := (cell_of_row w2 h 0 _ _ (0, 0) h02).trans rfl
  have hwr := HWC.out w2 A n c f k 0 A1 rn rc r none 0 0 [] false ((HR1.out.below hb2 (Nat.le_refl _)).more hb2.size) (by omega) hk1 hk2 (by omega) ((HRR1.out.below hb2 (Nat.le_refl _)).more hb2.size) (by omega) (TkR.nil _ _) (by omega) (fun t ht => by cases ht)
  obtain ⟨E, hE⟩ : ∃ E, E = wrtE f n k 0 rn r [] false := ⟨_, rfl⟩
  obtain ⟨X, hX⟩ : ∃ X, X = wrtK f n k 0 rn r [] false := ⟨_, rfl⟩
  obtain ⟨F, hF⟩ : ∃ F, F = wrtF f n k 0 rn r [] false := ⟨_, rfl⟩
  rw [← hE, ← hX, ← hF] at hwr
  have HWR : Hid (Calls Try.prog 9 #[.agg #[.slice A n c, .int .i64 k], .int .u8 0, .slice A1 rn rc, .slice none 0 0, .bool false] w2 fun e w' => WrtN w2 w' e X E F) := Lib.hid hwr
  have H02 := Lib.hid h02; have HB2 := Lib.hid hb2; have HE := Lib.hid hE; have HXX := Lib.hid hX; have HF := Lib.hid hF
  clear hwr h02 hb2 hE hX hF HAL
  go_wp2_with (first
    | (refine wpList_load_row rfl _ _ rfl h rfl _ #[.slice A n c, .int .i64 k] (0, 0) _ H02.out Try.underlying32 rfl szPen2 ?_)
    | fail)
  refine HWR.out.mono ?_
  rintro e w4 ⟨A4, c4, L, hL, rfl, hby4, hb4, -⟩
  obtain ⟨h5, hh5⟩ : ∃ h, h = w4.heap.size := ⟨_, rfl⟩
  obtain ⟨W5, hW5⟩ : ∃ W, W = w4.alloc (.cells #[.slice A4 L c4, .int .i64 (X : Int)] 32) := ⟨_, rfl⟩
  have h55 : W5.heap[h5]? = some (.cells #[.slice A4 L c4, .int .i64 (X : Int)] 32 (0, 0)) := by rw [hW5, hh5]; exact heap_alloc_new w4 _
  have hb45 : Below w4.heap.size w4 W5 := by rw [hW5]; exact (Below.refl _ _).alloc (Nat.le_refl _) _
  have hb15 := HB2.out.trans ((hb4.trans (hb45.mono hb4.size)).mono HB2.out.size)
  have h05 := (hb15.block h (Array.getElem?_eq_some_iff.1 H0.out).1).trans H0.out
  have hx5 := (hby4.below hb45 (Nat.le_refl _)).more hb45.size
  have H55 := Lib.hid h55; have H05 := Lib.hid h05; have HB15 := Lib.hid hb15; have HX5 := Lib.hid hx5; have HL := Lib.hid hL; have HW5 := Lib.hid hW5; have HH5 := Lib.hid hh5
  clear h55 h05 hb15 hx5 hL hW5 hh5 hb45 hb4 hby4 HWR k0
  cases hpb : penB f n k with
  | false =>
    have e8 : E = 8 := by rw [HE.out]; unfold wrtE; rw [if_pos hpb]
    subst e8
    have hck := pcheck_any W5 A n c f k ((HR1.out.below HB15.out (Nat.le_refl _)).more HB15.out.size).1
    have hp8 : penE f n k = 8 := by unfold penE; rw [if_neg (by rw [hpb]; simp)]
    rw [hp8] at hck
    have HCK := Lib.hid hck
    clear hck hp8 hpb
    go_wp2_with (first
      | (rw [← HW5.out, ← HH5.out]; refine wpList_load_row_on (by rfl) _ _ rfl h rfl _ #[.slice A n c, .int .i64 k] (0, 0) _ H05.out Try.underlying32 rfl szPen2 ?_)
      | fail)
    refine HCK.out.mono ?_
    rintro e w6 ⟨rfl, hb6⟩
    have HF6 := Lib.hid (HB1.out.trans ((HB15.out.trans (hb6.mono HB15.out.size)).mono HB1.out.size))
    clear hb6
    go_wp2
    go_ret
    exact ⟨rfl, HF6.out⟩
  | true =>
    obtain ⟨K, rfl, hK8, hnK, hcl⟩ := penB_nat HR1.out.1.1 hpb
    have hK4 : K ≤ 4000 := by omega
    obtain ⟨hEq, hEz⟩ := wrt_ask (r := r) (rn := rn) (kind := 0) (last := false) (l := []) hpb (by omega) HRR1.out.1.1 (fun t ht => by cases ht)
    have hask : askW 0 rn [] = 0 := by unfold askW; rw [if_neg (by omega), if_neg (by simp; omega)]; rfl
    have e0 : E = 0 := by rw [HE.out, hEq, hask]
    subst e0
    obtain ⟨hXv, hFv⟩ := hEz hask
    rw [← HXX.out] at hXv
    rw [← HF.out] at hFv
    obtain ⟨W, hW⟩ : ∃ W, W = (K + 3 + 7) / 8 := ⟨_, rfl⟩
    obtain ⟨q1, q2, q3, q4⟩ := sto_bytes hcl rn r [] false (by omega) HRR1.out.1.1 W hW F hFv
    obtain ⟨a, ha⟩ : ∃ a, a = K % 8 := ⟨_, rfl⟩
    have ha7 : a ≤ 7 := by omega
    have ea : (K : Int) % 8 = (a : Int) := by omega
    obtain ⟨T, hT⟩ : ∃ T, T = 3 + padN a + 32 + 8 * rn := ⟨_, rfl⟩
    have hT1 : bitsT (blkP a 0 rn r [] false) = T := by rw [sto_bits, hT]
    have hT2 : bitsT (blkP a 0 rn r l false) = T := by rw [sto_bits, hT]
    rw [← ha] at hXv q4
    rw [hT1] at hXv
    have hX8 : X = 8 * (W + 4 + rn) := by omega
    have hLv : L = W + 4 + rn := by rw [HL.out]; omega
    have hWb : W ≤ 502 := by omega
    obtain ⟨s1, hs1⟩ : ∃ s, s = K + 3 := ⟨_, rfl⟩
    obtain ⟨s2, hs2⟩ : ∃ s, s = s1 + 7 := ⟨_, rfl⟩
    have es1 : (K : Int) + 3 = (s1 : Int) := by omega
    have es2 : (s1 : Int) + 7 = (s2 : Int) := by omega
    have eW : (s2 : Int) / 8 = (W : Int) := by omega
    obtain ⟨p4, hp4⟩ : ∃ p, p = W + 4 := ⟨_, rfl⟩
    have ep4 : (W : Int) + 4 = (p4 : Int) := by omega
    have epr : (p4 : Int) + (rn : Int) = (L : Int) := by omega
    have e8L : (8 : Int) * (L : Int) = (X : Int) := by omega
    have dXX : ((X : Int) != (X : Int)) = false := by simp
    have dLL : ((L : Int) != (L : Int)) = false := by simp
    have hp4L : p4 ≤ L := by omega
    have hLb : L ≤ 2000 := by omega
    have HQ1 := Lib.hid q1; have HQ2 := Lib.hid q2; have HQ3 := Lib.hid q3; have HT2 := Lib.hid hT2; have HXV := Lib.hid hXv; have HP4 := Lib.hid hp4; have HLV := Lib.hid hLv
    have h05' := H05.out
    have k51 : W5.cell? ⟨h, 1, none⟩ = some (.int .i64 (K : Int)) := (cell_of_row W5 h 1 _ _ (0, 0) h05').trans rfl
    clear q1 q2 q3 q4 hT hT1 hT2 hXv hX8 hLv hW hs1 hs2 hp4 hEq hEz hask hFv hpb ha h05' hcl hnK
    -- the bytes at the end
    obtain ⟨ad, rfl⟩ : ∃ ad, A4 = some ad := by
      cases A4 with
      | none =>
        obtain ⟨b, o, e, _⟩ := HX5.out.1.2 (by omega)
        cases e
      | some ad => exact ⟨ad, rfl⟩
    obtain ⟨A6, hA6⟩ : ∃ A6, (if c4 = p4 then (some ad : Option Addr) else some (ad.add p4)) = A6 := ⟨_, rfl⟩
    have hby6 := HX5.out.drop hp4L hA6
    have hL6 : L - p4 = rn := by have := HP4.out; have := HLV.out; omega
    have hst : strB rn (fun j => F (j + p4)) = strB rn r := strB_congr fun j hj => by
      have := HQ3.out j hj
      rw [← HP4.out, Nat.add_comm] at this
      exact this
    have HBY6 := Lib.hid hby6; have HST := Lib.hid hst; have HRW5 := Lib.hid ((HRR1.out.below HB15.out (Nat.le_refl _)).more HB15.out.size)
    obtain ⟨b, o, hadb, hbl, hcc⟩ := HX5.out.1.2 (by omega)
    injection hadb with hadb
    subst hadb
    have hA7 : (if c4 = p4 then (some ⟨b, o, none⟩ : Option Addr) else some ⟨b, o + p4, none⟩) = A6 := by
      rw [← add_off]; exact hA6
    clear hA6
    have y0 := hcc W (by have := HLV.out; omega)
    have y1 := hcc (W + 1) (by have := HLV.out; omega)
    have y2 := hcc (W + 2) (by have := HLV.out; omega)
    have y3 := hcc (W + 3) (by have := HLV.out; omega)
    obtain ⟨b0, hb0⟩ : ∃ x, x = F W := ⟨_, rfl⟩
    obtain ⟨b1, hb1⟩ : ∃ x, x = F (W + 1) := ⟨_, rfl⟩
    obtain ⟨b2, hb2⟩ : ∃ x, x = F (W + 2) := ⟨_, rfl⟩
    obtain ⟨b3, hb3⟩ : ∃ x, x = F (W + 3) := ⟨_, rfl⟩
    have z1 := HQ1.out
    have z2 := HQ2.out
    rw [← hb0, ← hb1] at z1
    rw [← hb2, ← hb3] at z2
    rw [← hb0] at y0
    rw [← hb1] at y1
    rw [← hb2] at y2
    rw [← hb3] at y3
    have HY0 := Lib.hid y0; have HY1 := Lib.hid y1; have HY2 := Lib.hid y2; have HY3 := Lib.hid y3; have HZ1 := Lib.hid z1; have HZ2 := Lib.hid z2; have HBL := Lib.hid hbl
    clear hby6 hst hcc y0 y1 y2 y3 z1 z2 hb0 hb1 hb2 hb3 hbl
    go_wp2_with (rw [← HW5.out, ← HH5.out])
    obtain ⟨Z, hZ⟩ : ∃ Z, Z = strB rn r := ⟨_, rfl⟩
    have hh5L : h5 < W5.heap.size := (Array.getElem?_eq_some_iff.1 H55.out).1
    have ky0 : ∀ p : After W5.heap.size W5, p.w.cell? ⟨h5, 0, none⟩ = some (.slice (some ⟨b, o, none⟩) L c4) := fun p => (cell_of_row p.w h5 0 _ _ (0, 0) ((p.h.block h5 hh5L).trans H55.out)).trans rfl
    have ky1 : ∀ p : After W5.heap.size W5, p.w.cell? ⟨h5, 1, none⟩ = some (.int .i64 (X : Int)) := fun p => (cell_of_row p.w h5 1 _ _ (0, 0) ((p.h.block h5 hh5L).trans H55.out)).trans rfl
    have kz : ∀ p : After W5.heap.size W5, (convert 27 9 (.slice A6 (L - p4) (c4 - p4))).run Try.prog p.w = .ok (.string Z) p.w := fun p => by
      have h1 := run_str (HBY6.out.1.below p.h (Nat.le_refl _)) (c4 - p4)
      rw [hL6] at h1 ⊢
      rw [HST.out, ← hZ] at h1
      exact h1
    have kr : ∀ p : After W5.heap.size W5, (convert 27 9 (.slice A1 rn rc)).run Try.prog p.w = .ok (.string Z) p.w := fun p => by
      have h1 := run_str (HRW5.out.1.below p.h (Nat.le_refl _)) rc
      rw [← hZ] at h1
      exact h1
    have zz : (Z.toList != Z.toList) = false := by simp
    clear hZ hh5L k51 hL6
    refine wp_region_after W5.heap.size W5 (Below.refl _ _) (by kernel_rfl) (by kernel_rfl) ?_
    repeat (first
      | (go_big_quiet_step (fail)))
    refine wpQuiet_nil ?_
    rintro V ⟨⟨V, hV⟩, rfl⟩
    have HV := Lib.hid hV
    clear ky0 ky1 kz kr zz hV hA7
    go_wp2
    -- the four bytes ahead of them
    obtain ⟨u1, hu1⟩ : ∃ u, u = W + 1 := ⟨_, rfl⟩
    obtain ⟨u2, hu2⟩ : ∃ u, u = W + 2 := ⟨_, rfl⟩
    obtain ⟨u3, hu3⟩ : ∃ u, u = W + 3 := ⟨_, rfl⟩
    have eu1 : (W : Int) + 1 = (u1 : Int) := by omega
    have eu2 : (W : Int) + 2 = (u2 : Int) := by omega
    have eu3 : (W : Int) + 3 = (u3 : Int) := by omega
    obtain ⟨m1, hm1⟩ : ∃ x, x = 256 * b1 := ⟨_, rfl⟩
    obtain ⟨m3, hm3⟩ : ∃ x, x = 256 * b3 := ⟨_, rfl⟩
    have em1 : (256 : Int) * (b1 : Int) = (m1 : Int) := by omega
    have em3 : (256 : Int) * (b3 : Int) = (m3 : Int) := by omega
    obtain ⟨zr, hzr⟩ : ∃ x, x = 65535 - rn := ⟨_, rfl⟩
    have es0 : (b0 : Int) + (m1 : Int) = (rn : Int) := by have := HZ1.out; omega
    have es3 : (b2 : Int) + (m3 : Int) = (zr : Int) := by have := HZ2.out; omega
    have hzb : zr ≤ 65535 := by omega
    have hm3b : m3 ≤ 65535 := by omega
    have hb2b : b2 ≤ 65535 := by omega
    have hb3b : b3 ≤ 65535 := by omega
    have i0 : (W : Int) < (L : Int) := by have := HLV.out; omega
    have i1 : (u1 : Int) < (L : Int) := by have := HLV.out; omega
    have i2 : (u2 : Int) < (L : Int) := by have := HLV.out; omega
    have i3 : (u3 : Int) < (L : Int) := by have := HLV.out; omega
    have hh5L : h5 < V.heap.size := Nat.lt_of_lt_of_le (Array.getElem?_eq_some_iff.1 H55.out).1 HV.out.size
    have hbV : b < V.heap.size := Nat.lt_of_lt_of_le HBL.out HV.out.size
    have h5V := (HV.out.block h5 (Array.getElem?_eq_some_iff.1 H55.out).1).trans H55.out
    have ky0 : ∀ p : After V.heap.size V, p.w.cell? ⟨h5, 0, none⟩ = some (.slice (some ⟨b, o, none⟩) L c4) := fun p => (cell_of_row p.w h5 0 _ _ (0, 0) ((p.h.block h5 hh5L).trans h5V)).trans rfl
    have kb0 : ∀ p : After V.heap.size V, p.w.cell? ⟨b, o + W, none⟩ = some (.int .u8 (b0 : Int)) := fun p => (p.h.cell (p := ⟨b, o + W, none⟩) hbV).trans ((HV.out.cell (p := ⟨b, o + W, none⟩) HBL.out).trans HY0.out)
    have kb1 : ∀ p : After V.heap.size V, p.w.cell? ⟨b, o + u1, none⟩ = some (.int .u8 (b1 : Int)) := fun p => (p.h.cell (p := ⟨b, o + u1, none⟩) hbV).trans ((HV.out.cell (p := ⟨b, o + u1, none⟩) HBL.out).trans (by rw [hu1]; exact HY1.out))
    have kb2 : ∀ p : After V.heap.size V, p.w.cell? ⟨b, o + u2, none⟩ = some (.int .u8 (b2 : Int)) := fun p => (p.h.cell (p := ⟨b, o + u2, none⟩) hbV).trans ((HV.out.cell (p := ⟨b, o + u2, none⟩) HBL.out).trans (by rw [hu2]; exact HY2.out))
    have kb3 : ∀ p : After V.heap.size V, p.w.cell? ⟨b, o + u3, none⟩ = some (.int .u8 (b3 : Int)) := fun p => (p.h.cell (p := ⟨b, o + u3, none⟩) hbV).trans ((HV.out.cell (p := ⟨b, o + u3, none⟩) HBL.out).trans (by rw [hu3]; exact HY3.out))
    have HZR := Lib.hid hzr
    clear hu1 hu2 hu3 hm1 hm3 hzr hh5L hbV h5V
    refine wp_region_after V.heap.size V (Below.refl _ _) (by kernel_rfl) (by kernel_rfl) ?_
    repeat (first
      | (go_big_quiet_step (fail)))
    refine wpQuiet_nil ?_
    rintro V2 ⟨⟨V2, hV2⟩, rfl⟩
    have hb1V := HB15.out.trans ((HV.out.trans (hV2.mono HV.out.size)).mono HB15.out.size)
    have hb5V := HV.out.trans (hV2.mono HV.out.size)
    have HB1V := Lib.hid hb1V; have HB5V := Lib.hid hb5V
    have h0V := (hb1V.block h (Array.getElem?_eq_some_iff.1 H0.out).1).trans H0.out
    have kV : V2.cell? ⟨h, 1, none⟩ = some (.int .i64 (K : Int)) := (cell_of_row V2 h 1 _ _ (0, 0) h0V).trans rfl
    have hbs := HBCC.out V2 (a : Int) A1 rn rc r A2 m c2 l (by omega) (by omega) ((HRR1.out.below hb1V (Nat.le_refl _)).more hb1V.size) (by omega) ((HRT1.out.below hb1V (Nat.le_refl _)).more hb1V.size) (by omega) HIN.out
    obtain ⟨S, hS⟩ : ∃ S, S = bestV (a : Int) rn r l := ⟨_, rfl⟩
    obtain ⟨G, hG⟩ : ∃ G, G = bestE (a : Int) rn l := ⟨_, rfl⟩
    rw [← hS, ← hG] at hbs
    have hSle : S ≤ 2 := by rw [hS]; unfold bestV; split; exact shF_le _ 2; omega
    have HBS := Lib.hid hbs; have HS := Lib.hid hS; have HG := Lib.hid hG
    clear hbs hb1V hb5V h0V hS hG hV2 ky0 kb0 kb1 kb2 kb3 eu1 eu2 eu3 em1 em3 es0 es3 i0 i1 i2 i3
    go_wp2_with fail
    refine HBS.out.mono ?_
    rintro e w7 ⟨rfl, hb7⟩
    have hb17 := HB1V.out.trans (hb7.mono HB1V.out.size)
    have h07 := (hb17.block h (Array.getElem?_eq_some_iff.1 H0.out).1).trans H0.out
    have k7 : w7.cell? ⟨h, 1, none⟩ = some (.int .i64 (K : Int)) := (cell_of_row w7 h 1 _ _ (0, 0) h07).trans rfl
    have hlg := HLC.out w7 (a : Int) S A1 rn rc r A2 m c2 l (by omega) (by omega) (by omega) ((HRR1.out.below hb17 (Nat.le_refl _)).more hb17.size) (by omega) ((HRT1.out.below hb17 (Nat.le_refl _)).more hb17.size) (by omega) HIN.out
    obtain ⟨M, hM⟩ : ∃ M, M = lngV (a : Int) S rn r l := ⟨_, rfl⟩
    obtain ⟨J, hJ⟩ : ∃ J, J = lngE (a : Int) S rn l := ⟨_, rfl⟩
    rw [← hM, ← hJ] at hlg
    have HLG := Lib.hid hlg; have HB57 := Lib.hid (HB5V.out.trans (hb7.mono HB5V.out.size)); have HM := Lib.hid hM; have HJ := Lib.hid hJ
    clear hlg hb17 h07 hb7 hM hJ kV
    go_wp2_with fail
    refine HLG.out.mono ?_
    rintro e w8 ⟨rfl, hb8⟩
    have hb58 := HB57.out.trans (hb8.mono HB57.out.size)
    have hb18 := HB15.out.trans (hb58.mono HB15.out.size)
    have h08 := (hb18.block h (Array.getElem?_eq_some_iff.1 H0.out).1).trans H0.out
    have h58 := (hb58.block h5 (Array.getElem?_eq_some_iff.1 H55.out).1).trans H55.out
    have k8 : w8.cell? ⟨h, 1, none⟩ = some (.int .i64 (K : Int)) := (cell_of_row w8 h 1 _ _ (0, 0) h08).trans rfl
    have x8 : w8.cell? ⟨h5, 1, none⟩ = some (.int .i64 (X : Int)) := (cell_of_row w8 h5 1 _ _ (0, 0) h58).trans rfl
    have HF8 := Lib.hid (HB1.out.trans (hb18.mono HB1.out.size))
    have erz : (rn : Int) + (zr : Int) = 65535 := by have := HZR.out; omega
    have drr : ((rn : Int) == (rn : Int)) = true := by simp
    have eXK : (X : Int) - (K : Int) = (T : Int) := by have := HXV.out; omega
    clear hb58 hb18 h08 h58 hb8 k7
    by_cases hG0 : G = 0
    · have hask : askW 0 rn l = 0 := by
        have h1 := HG.out
        unfold bestE lngE at h1
        rw [if_neg (by omega)] at h1
        rw [← h1]; exact hG0
      have hJ0 : J = 0 := by rw [HJ.out]; unfold lngE; rw [if_neg (by omega)]; exact askW_all hask hSle
      have hM1 : M = bitsT (blkP a S rn r l false) := by rw [HM.out]; unfold lngV; rw [if_pos (by rw [← HJ.out]; exact hJ0), Int.toNat_natCast]
      have hS1 : S = bestK a rn r l := by rw [HS.out]; unfold bestV; rw [if_pos (by rw [← HG.out]; exact hG0), Int.toNat_natCast]
      have hmin := (shF_min (fun k => bitsT (blkP a k rn r l false)) 2 0 (by omega)).1
      have hSF : shF (fun k => bitsT (blkP a k rn r l false)) 2 = S := hS1.symm
      rw [hSF] at hmin
      have hMT : M ≤ T := by rw [hM1, ← HT2.out]; exact hmin
      have dMT : decide ((M : Int) ≤ (T : Int)) = true := by simp; omega
      have dMT2 : decide (M ≤ T) = true := by simp; omega
      subst hG0
      subst hJ0
      clear hask hM1 hS1 hmin hSF hMT
      go_wp2
      go_ret
      exact ⟨rfl, HF8.out⟩
    · have dG : (G != 0) = true := by simpa using hG0
      clear hG0
      go_wp2
      go_ret
      exact ⟨rfl, HF8.out⟩
theorem sto11_walk (HW : WriteCon) (HL : LongCon) (HBC : BestCon) (A : Option Addr) (n c : Nat) (f : Nat → Nat) (k : Int) (A1 : Option Addr) (rn rc : Nat) (r : Nat → Nat) (A2 : Option Addr) (m c2 : Nat) (l : List Tok) (w : World)
    (hr : ByR w w.heap.size A n c f) (hk1 : -9223372036854775808 ≤ k) (hk2 : k ≤ 9223372036854775807) (hrr : ByR w w.heap.size A1 rn rc r) (hrt : TkR w w.heap.size A2 m c2 l) (hin : ∀ t ∈ l, TokIn t) :
    Calls Try.prog 5 #[.agg #[.slice A n c, .int .i64 k], .slice A1 rn rc, .slice A2 m c2] w fun e w' => e = .returned (.bool true) ∧ Below w.heap.size w w' := by
  by_cases hg : 500 < n ∨ 500 < rn ∨ 200 < m
  · exact sto11_guard HW A n c k A1 rn rc A2 m c2 w hg
  · exact sto11_main HW HL HBC A n c f k A1 rn rc r A2 m c2 l w hr hk1 hk2 hrr hrt hin (by omega) (by omega) (by omega)
end Go.Proofs.Ytjhljkhgjcckhaa

