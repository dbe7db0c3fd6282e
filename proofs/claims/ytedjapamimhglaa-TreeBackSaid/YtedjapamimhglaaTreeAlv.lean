/-
  Layer 5 (tree): the laws' own reads, fails, four and alive.
-/
import Derived.Test.YtedjapamimhglaaTreeImpl
import Derived.Test.YtedjapamimhglaaTreeExt
namespace Go.Proofs.Ytedjapamimhglaa
open Go.RowKit
/-- A tree laid into a variable of the call's own. -/
def layV (W : World) (c : Nat → Int) (v : Value) : World := (W.alloc (.cells (trA (fun _ => 0) (.slice none 0 0)) 25)).setRow W.heap.size (trA c v)
theorem layV_tre (W : World) (c : Nat → Int) (v : Value) : TreA (layV W c v) W.heap.size c v := setRow_tre (box_tree W _ _)
theorem layV_below (W : World) (c : Nat → Int) (v : Value) : Below W.heap.size W (layV W c v) := below_setRowT ((Below.refl _ _).alloc (Nat.le_refl _) _) (Nat.le_refl _) _
theorem layV_size (W : World) (c : Nat → Int) (v : Value) : (layV W c v).heap.size = W.heap.size + 1 := by unfold layV; rw [size_setRow]; simp
def oneF (x : Nat) (_ : Nat) : Nat := x
set_option maxRecDepth 100000 in
set_option maxHeartbeats 2000000 in
theorem reads_yes (w : World) (A : Option Addr) (n c : Nat) (f : Nat → Nat) (hr : RdB w w.heap.size A n f) (hn : n ≤ 300) (x : Nat) (hx : x < 256) (a : Int) (ha0 : 0 ≤ a) (ha : a ≤ 1000) (p1 p2 : Nat) (h0 : checkE f n 15 = 0) (hp : readR f n (oneF x) 1 a.toNat 17 0 = (p1, p2, 0)) :
    Calls Try.prog 11 #[.slice A n c, .int .u8 (x : Int), .int .i64 a, .int .i64 (p1 : Int), .int .i64 (p2 : Int)] w fun e w' => e = .returned (.bool true) ∧ Below w.heap.size w w' := by
  have hz := (zero_of_info infoTree).1
  have hgr := tgrow_any w A n c f 15 hr (by omega)
  have hgl : (grS f n 15).length ≤ 320 * 15 := by
    unfold grS; rw [if_pos h0, natsI_length, symL_length]
    exact Nat.le_trans (sumC_le f n 15) (Nat.mul_le_mul_right _ (by omega))
  rw [h0] at hgr
  have ho : ∀ e, NxtOut (grC f n 15) (grS f n 15) (oneF x) 1 a e → e = .returned (RdOut (p1, p2, 0)) := fun e he => by
    have := grown_read h0 he
    rw [if_neg (by omega), hp] at this
    exact this
  have HO := Lib.hid ho
  clear ho
  obtain ⟨G, hG⟩ : ∃ G, G = grC f n 15 := ⟨_, rfl⟩
  obtain ⟨Y, hY⟩ : ∃ Y, Y = grS f n 15 := ⟨_, rfl⟩
  rw [← hG, ← hY] at hgr HO
  rw [← hY] at hgl
  have HGR := Lib.hid hgr
  clear hgr h0 hp hG hY hr
  go_enter Try.func11, Try.ntmps11
  go_wp2_with fail
  refine HGR.out.mono ?_
  rintro e w2 ⟨v, rfl, hv, hb2⟩
  have hv1 := hv.one
  obtain ⟨w3, hw3⟩ : ∃ w3, w3 = layV w2 G v := ⟨_, rfl⟩
  have hT3 := layV_tre w2 G v
  have hB3 := layV_below w2 G v
  have hs3 := layV_size w2 G v
  rw [← hw3] at hT3 hB3 hs3
  have hbb : Below w.heap.size w w3 := hb2.trans (hB3.mono hb2.size)
  have hv3 := (hv.below hB3 (Nat.le_refl _)).more hB3.size
  have hb4 : Below w3.heap.size w3 (w3.alloc (.cells #[.int .u8 (x : Int)] 5)) := (Below.refl _ _).alloc (Nat.le_refl _) _
  have hg := (row_new w3 1 (oneF x) #[.int .u8 (x : Int)] rfl).rd (fun _ => hx)
  have hnx := tnext_any (w3.alloc (.cells #[.int .u8 (x : Int)] 5)) G v Y ((hv3.below hb4 (Nat.le_refl _)).more hb4.size) (by omega) (some ⟨w3.heap.size, 0, none⟩) 1 1 (oneF x) hg (by omega) a (by omega) (by omega)
  have HW3 := Lib.hid hw3; have HV1 := Lib.hid hv1; have HT3 := Lib.hid hT3; have HNX := Lib.hid hnx; have HB := Lib.hid (hbb.trans (hb4.mono hbb.size))
  clear hw3 hv hv1 hT3 hB3 hbb hv3 hg hnx hb2 hs3
  have hZ := Lib.hid (box_tree w2 (fun _ => 0) (.slice none 0 0))
  have hb4' := Lib.hid hb4
  clear hb4
  go_wp2_with (first
    | (refine wpList_store_rowT rfl _ _ _ rfl w2.heap.size (trA G v) rfl rfl _ (trA (fun _ => 0) (.slice none 0 0)) hZ.out (by rw [trA_size]; exact szTree) (by rw [trA_size, trA_size]) (trA_one _ _ HV1.out) ?_; change wpList _ _ _ _ _ (layV w2 G v); rw [← HW3.out])
    | (refine wpList_load_row rfl _ _ rfl w2.heap.size rfl _ (trA G v) (0, 0) _ HT3.out Try.underlying25 rfl (by rw [trA_size]; exact szTree) ?_))
  refine HNX.out.mono ?_
  rintro e w4 ⟨ho, hb5⟩
  obtain rfl := HO.out e ho
  have HB5 := Lib.hid (HB.out.trans (hb5.mono HB.out.size))
  clear ho hb5
  simp only [RdOut]
  go_wp2
  go_ret
  exact ⟨rfl, HB5.out⟩
set_option maxRecDepth 100000 in
set_option maxHeartbeats 2000000 in
theorem fails_yes (w : World) (A : Option Addr) (n c : Nat) (f : Nat → Nat) (hr : RdB w w.heap.size A n f) (hn : n ≤ 300) (x : Nat) (hx : x < 256) (a : Int) (ha0 : -1 ≤ a) (ha : a ≤ 1000) (q : Int) (h0 : checkE f n 15 = 0) (hp : (if a < 0 then (0, 0, 2) else readR f n (oneF x) 1 a.toNat 17 0) = (0, 0, q)) :
    Calls Try.prog 12 #[.slice A n c, .int .u8 (x : Int), .int .i64 a, .int .i64 q] w fun e w' => e = .returned (.bool true) ∧ Below w.heap.size w w' := by
  have hz := (zero_of_info infoTree).1
  have hgr := tgrow_any w A n c f 15 hr (by omega)
  have hgl : (grS f n 15).length ≤ 320 * 15 := by
    unfold grS; rw [if_pos h0, natsI_length, symL_length]
    exact Nat.le_trans (sumC_le f n 15) (Nat.mul_le_mul_right _ (by omega))
  rw [h0] at hgr
  have ho : ∀ e, NxtOut (grC f n 15) (grS f n 15) (oneF x) 1 a e → e = .returned (RdOut (0, 0, q)) := fun e he => by
    have := grown_read h0 he
    rw [hp] at this
    exact this
  have HO := Lib.hid ho
  clear ho
  obtain ⟨G, hG⟩ : ∃ G, G = grC f n 15 := ⟨_, rfl⟩
  obtain ⟨Y, hY⟩ : ∃ Y, Y = grS f n 15 := ⟨_, rfl⟩
  rw [← hG, ← hY] at hgr HO
  rw [← hY] at hgl
  have HGR := Lib.hid hgr
  have hqq : (q == q) = true := by simp
  clear hgr h0 hp hG hY hr
  go_enter Try.func12, Try.ntmps12
  go_wp2_with fail
  refine HGR.out.mono ?_
  rintro e w2 ⟨v, rfl, hv, hb2⟩
  have hv1 := hv.one
  obtain ⟨w3, hw3⟩ : ∃ w3, w3 = layV w2 G v := ⟨_, rfl⟩
  have hT3 := layV_tre w2 G v
  have hB3 := layV_below w2 G v
  have hs3 := layV_size w2 G v
  rw [← hw3] at hT3 hB3 hs3
  have hbb : Below w.heap.size w w3 := hb2.trans (hB3.mono hb2.size)
  have hv3 := (hv.below hB3 (Nat.le_refl _)).more hB3.size
  have hb4 : Below w3.heap.size w3 (w3.alloc (.cells #[.int .u8 (x : Int)] 5)) := (Below.refl _ _).alloc (Nat.le_refl _) _
  have hg := (row_new w3 1 (oneF x) #[.int .u8 (x : Int)] rfl).rd (fun _ => hx)
  have hnx := tnext_any (w3.alloc (.cells #[.int .u8 (x : Int)] 5)) G v Y ((hv3.below hb4 (Nat.le_refl _)).more hb4.size) (by omega) (some ⟨w3.heap.size, 0, none⟩) 1 1 (oneF x) hg (by omega) a (by omega) (by omega)
  have HW3 := Lib.hid hw3; have HV1 := Lib.hid hv1; have HT3 := Lib.hid hT3; have HNX := Lib.hid hnx; have HB := Lib.hid (hbb.trans (hb4.mono hbb.size))
  clear hw3 hv hv1 hT3 hB3 hbb hv3 hg hnx hb2 hs3
  have hZ := Lib.hid (box_tree w2 (fun _ => 0) (.slice none 0 0))
  have hb4' := Lib.hid hb4
  clear hb4
  go_wp2_with (first
    | (refine wpList_store_rowT rfl _ _ _ rfl w2.heap.size (trA G v) rfl rfl _ (trA (fun _ => 0) (.slice none 0 0)) hZ.out (by rw [trA_size]; exact szTree) (by rw [trA_size, trA_size]) (trA_one _ _ HV1.out) ?_; change wpList _ _ _ _ _ (layV w2 G v); rw [← HW3.out])
    | (refine wpList_load_row rfl _ _ rfl w2.heap.size rfl _ (trA G v) (0, 0) _ HT3.out Try.underlying25 rfl (by rw [trA_size]; exact szTree) ?_))
  refine HNX.out.mono ?_
  rintro e w4 ⟨ho, hb5⟩
  obtain rfl := HO.out e ho
  have HB5 := Lib.hid (HB.out.trans (hb5.mono HB.out.size))
  clear ho hb5
  simp only [RdOut]
  go_wp2
  go_ret
  exact ⟨rfl, HB5.out⟩
def fourN (j : Nat) : Nat := [2, 1, 3, 3].getD j 0
theorem fourN_lt : ∀ j, fourN j < 256 := fun j => by
  unfold fourN
  rcases Nat.lt_or_ge j 4 with h | h
  · obtain rfl | rfl | rfl | rfl : j = 0 ∨ j = 1 ∨ j = 2 ∨ j = 3 := by omega
    all_goals decide
  · rw [List.getD_eq_getElem?_getD, List.getElem?_eq_none (by simpa using h)]; decide
theorem four_ok : checkE fourN 4 15 = 0 := by decide +kernel
theorem four_any (w : World) : Calls Try.prog 10 #[] w fun e w' => ∃ A, e = .returned (.slice A 4 4) ∧ Below w.heap.size w w' ∧ RdB w' w'.heap.size A 4 fourN := by
  go_enter Try.func10, Try.ntmps10
  go_wp2
  go_ret
  exact ⟨_, rfl, (Below.refl _ _).alloc (Nat.le_refl _) _, (row_new w 4 fourN _ rfl).rd fourN_lt⟩
theorem rd0 : readR fourN 4 (oneF 13) 1 0 17 0 = (0, 2, 0) := by decide +kernel
theorem rd1 : readR fourN 4 (oneF 13) 1 1 17 0 = (1, 2, 0) := by decide +kernel
theorem rd2 : readR fourN 4 (oneF 13) 1 2 17 0 = (2, 5, 0) := by decide +kernel
set_option maxRecDepth 100000 in
set_option maxHeartbeats 2000000 in
theorem alive5_any (w : World) : Calls Try.prog 13 #[] w fun e w' => e = .returned (.bool true) ∧ Below w.heap.size w w' := by
  go_enter Try.func13, Try.ntmps13
  go_wp2_with fail
  refine (four_any w).mono ?_
  rintro e w1 ⟨A1, rfl, hb1, h1⟩
  have R1 := Lib.hid (reads_yes w1 A1 4 4 fourN h1 (by omega) 13 (by omega) 0 (by omega) (by omega) 0 2 four_ok rd0)
  have B1 := Lib.hid hb1
  clear hb1 h1
  go_wp2_with fail
  refine R1.out.mono ?_
  rintro e w2 ⟨rfl, hb2⟩
  have B2 := Lib.hid (B1.out.trans (hb2.mono B1.out.size))
  clear hb2
  go_wp2_with fail
  refine (four_any w2).mono ?_
  rintro e w3 ⟨A2, rfl, hb3, h3⟩
  have R2 := Lib.hid (reads_yes w3 A2 4 4 fourN h3 (by omega) 13 (by omega) 1 (by omega) (by omega) 1 2 four_ok rd1)
  have B3 := Lib.hid (B2.out.trans (hb3.mono B2.out.size))
  clear hb3 h3
  go_wp2_with fail
  refine R2.out.mono ?_
  rintro e w4 ⟨rfl, hb4⟩
  have B4 := Lib.hid (B3.out.trans (hb4.mono B3.out.size))
  clear hb4
  go_wp2_with fail
  refine (four_any w4).mono ?_
  rintro e w5 ⟨A3, rfl, hb5, h5⟩
  have R3 := Lib.hid (reads_yes w5 A3 4 4 fourN h5 (by omega) 13 (by omega) 2 (by omega) (by omega) 2 5 four_ok rd2)
  have B5 := Lib.hid (B4.out.trans (hb5.mono B4.out.size))
  clear hb5 h5
  go_wp2_with fail
  refine R3.out.mono ?_
  rintro e w6 ⟨rfl, hb6⟩
  have B6 := Lib.hid (B5.out.trans (hb6.mono B5.out.size))
  clear hb6
  go_wp2
  go_ret
  exact ⟨rfl, B6.out⟩
end Go.Proofs.Ytedjapamimhglaa
