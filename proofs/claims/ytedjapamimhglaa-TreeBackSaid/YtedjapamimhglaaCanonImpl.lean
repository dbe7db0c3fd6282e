/-
  Layer 3 (canon): what canon.Codes answers, for every lengths and limit.
-/
import Derived.Test.YtedjapamimhglaaCanonBeg
import Derived.Test.YtedjapamimhglaaCanonKck
namespace Go.Proofs.Ytedjapamimhglaa
open Go.RowKit
/-- The codes and lengths of the first k symbols. -/
def preX (f : Nat → Nat) (n k j : Nat) : Nat := if j < k then codeB f n j else 0
def preL (f : Nat → Nat) (k j : Nat) : Nat := if j < k then f j else 0
theorem pre_step (f : Nat → Nat) (n k : Nat) : upd (preX f n k) k (codeB f n k) = preX f n (k + 1) ∧ upd (preL f k) k (f k) = preL f (k + 1) := by
  constructor
  · funext j
    unfold upd preX
    by_cases e : j = k
    · subst e; rw [if_pos rfl, if_pos (by omega)]
    · rw [if_neg e]
      by_cases h : j < k
      · rw [if_pos h, if_pos (by omega)]
      · rw [if_neg h, if_neg (by omega)]
  · funext j
    unfold upd preL
    by_cases e : j = k
    · subst e; rw [if_pos rfl, if_pos (by omega)]
    · rw [if_neg e]
      by_cases h : j < k
      · rw [if_pos h, if_pos (by omega)]
      · rw [if_neg h, if_neg (by omega)]
theorem pre_skip {f : Nat → Nat} {k : Nat} (n : Nat) (h : f k = 0) : preX f n k = preX f n (k + 1) ∧ preL f k = preL f (k + 1) := by
  have hc : codeB f n k = 0 := by unfold codeB; rw [if_pos h]
  constructor
  · funext j
    unfold preX
    by_cases e : j = k
    · subst e; rw [if_neg (by omega), if_pos (by omega), hc]
    · by_cases h : j < k
      · rw [if_pos h, if_pos (by omega)]
      · rw [if_neg h, if_neg (by omega)]
  · funext j
    unfold preL
    by_cases e : j = k
    · subst e; rw [if_neg (by omega), if_pos (by omega), h]
    · by_cases h : j < k
      · rw [if_pos h, if_pos (by omega)]
      · rw [if_neg h, if_neg (by omega)]
set_option maxRecDepth 100000 in
set_option maxHeartbeats 2000000 in
theorem codes_any (w : World) (A : Option Addr) (n c : Nat) (f : Nat → Nat) (most : Int) (hr : RdB w w.heap.size A n f) (hn : n ≤ 1000000) :
    Calls Try.prog 22 #[.slice A n c, .int .i64 most] w fun e w' => ∃ A' c', e = .returned (.tuple #[.slice A' (lenC f n most) c', .int .i64 (checkE f n most)]) ∧ Below w.heap.size w w' ∧ OutC w.heap.size w' A' (lenC f n most) (codeX f n most) f := by
  have HR := Lib.hid hr
  clear hr
  have hcr := check_any w A n c f most HR.out hn
  by_cases h0 : checkE f n most = 0
  · obtain ⟨_, h15, hn3, hb, ha, _⟩ := check_ok h0
    have H15 := Lib.hid (show ∀ j, j < n → f j ≤ 15 from fun j hj => by have := hb j hj; omega)
    have HA := Lib.hid ha
    have H0 := Lib.hid h0
    have hl : lenC f n most = n := by unfold lenC; rw [if_pos h0]
    rw [h0] at hcr
    have HCR := Lib.hid hcr
    rw [hl, h0]
    obtain ⟨i0, hi, hz0, hz1, hz2⟩ := info_parts infoCode
    have hmk : ∀ u : World, (Instr.makeSlice 48 (.int .i64 (n : Int)) (.int .i64 (n : Int))).run Try.prog u =
        .ok (.slice (some ⟨u.heap.size, 0, none⟩) n n) (u.alloc (.cells (madeCells #[.int .u32 0, .int .u8 0] (n * 2)) 53)) := fun u => by
      have h := run_make (P := Try.prog) u 48 53 i0 (.agg #[.int .u32 0, .int .u8 0]) Try.underlying48 hi hz0 .i64 .i64 (n : Int) (n : Int) (by omega) (Int.le_refl _) (by rw [hz2]; omega) (by omega)
      rw [Int.toNat_natCast] at h
      simpa [hz1, Value.cells] using h
    have hz := (zero_of_info infoTal).1
    clear hcr hb ha hl h0 hi hz0 hz1 hz2
    go_enter Try.func22, Try.ntmps22
    go_wp2_with fail
    refine HCR.out.mono ?_
    rintro e w1 ⟨rfl, hb⟩
    have HB := Lib.hid hb
    have HR1 := Lib.hid ((HR.out.below hb (Nat.le_refl _)).more hb.size)
    clear hb
    go_wp2_with fail
    refine (count_any w1 A n c f HR1.out hn H15.out).mono ?_
    rintro e w2 ⟨rfl, hb⟩
    have HB2 := Lib.hid (HB.out.trans (hb.mono HB.out.size))
    have HR2 := Lib.hid ((HR1.out.below hb (Nat.le_refl _)).more hb.size)
    clear hb
    have ht0 : Tal (w2.alloc (.cells (talA zeroN) 79)) w2.heap.size zeroN := heap_alloc_new w2 _
    have HT0 := Lib.hid ht0
    clear ht0
    go_wp2_with (refine wpList_store_rowT rfl _ _ _ rfl w2.heap.size (talA fun m => tcN f m n) rfl rfl _ (talA zeroN) HT0.out (by rw [talA_size]; exact szTal) (by rw [talA_size, talA_size]) (talA_one _) ?_)
    have ht1 := HT0.out.setRow (h := fun m => tcN f m n)
    have hb3 := below_setRowT ((HB2.out.alloc HB2.out.size (.cells (talA zeroN) 79))) (g := w2.heap.size) HB2.out.size (talA fun m => tcN f m n)
    have hr3 := (HR2.out.below (below_setRowT ((Below.refl w2.heap.size w2).alloc (Nat.le_refl _) (.cells (talA zeroN) 79)) (g := w2.heap.size) (Nat.le_refl _) (talA fun m => tcN f m n)) (Nat.le_refl _))
    have hsz := HB2.out.size
    obtain ⟨b, hbe⟩ : ∃ b, b = w2.heap.size := ⟨_, rfl⟩
    rw [← hbe] at ht1 hb3 hr3 hsz ⊢
    generalize (w2.alloc (.cells (talA zeroN) 79)).setRow b (talA fun m => tcN f m n) = w3 at ht1 hb3 hr3 ⊢
    have HT1 := Lib.hid ht1
    have HB3 := Lib.hid hb3
    have HR3 := Lib.hid hr3
    clear ht1 hb3 hr3 hbe HT0
    refine (tal_begin_any w3 b _ (fun m => Nat.le_trans (cntN_le f m n) (by omega)) HT1.out).mono ?_
    rintro e w4 ⟨rfl, hb, ht⟩
    rw [nxt_none] at ht
    have HB4 := Lib.hid (HB3.out.trans (hb.mono hsz))
    have HR4 := Lib.hid (HR3.out.below hb (Nat.le_refl _))
    have HT4 := Lib.hid ht
    have hblt := ht.lt
    clear hb ht
    go_wp2
    clear hmk
    go_loopw [25] (fun i wr => ∃ k : Nat, k ≤ n ∧ i = .int .i64 k ∧ RowC wr w4.heap.size n (preX f n k) (preL f k) ∧ Tal wr b (nxtN f n k) ∧ RdB wr b A n f ∧ Below w.heap.size w wr) (fun i _ => n - (intOf i).toNat)
    case atStart =>
      refine ⟨0, Nat.zero_le _, rfl, (rowC_made w4 n).ext (fun j _ => ?_) (fun j _ => ?_), HT4.out.alloc _, HR4.out.below ((Below.refl w4.heap.size w4).alloc (Nat.le_refl _) _) (by omega), HB4.out.alloc HB4.out.size _⟩
      · unfold preX; rw [if_neg (by omega)]; rfl
      · unfold preL; rw [if_neg (by omega)]; rfl
    case round =>
      obtain ⟨k, hk, rfl, hrow, ht, hr, hb⟩ := hrel
      by_cases hlt : k < n
      · have hf := H15.out k hlt
        obtain ⟨ab, o, hA, _, hc⟩ := hr.2 (by omega)
        have hcell := hc k hlt
        clear hc
        have hw4 := hrow.lt
        have HROW := Lib.hid hrow; have HT := Lib.hid ht; have HB := Lib.hid hb; have HRR := Lib.hid hr
        clear hrow ht hb hr
        subst hA
        by_cases hp : 0 < f k
        · have hx := codeB_lt H0.out k hlt
          have hcx := nxt_code (n := n) hp hf
          have hf1 := HROW.out.frozen (k * 2)
          have hf2 := HROW.out.frozen (k * 2 + 1)
          have hc1 := (HROW.out.cell hlt).1
          have hc2 := (HROW.out.cell hlt).2
          rw [hcx] at hx
          have HCX := Lib.hid hcx
          clear hcx hf1 hf2 hc1 hc2
          go_wp2_with fail
          refine (next_any _ b (f k) _ (by omega) hx HT.out).mono ?_
          rintro e wn ⟨rfl, hbn⟩
          have hs0 : (wr.setCell ⟨b, f k, none⟩ (.int .i64 ((nxtN f n k (f k) + 1 : Nat) : Int))).heap.size = wr.heap.size := by simp [World.setCell]
          have hbx : Below b wr wn := ((Below.refl b wr).setCell (Nat.le_refl _) _).trans (hbn.mono (by omega))
          have hrow1 := (HROW.out.other (p := ⟨b, f k, none⟩) (by show w4.heap.size ≠ b; omega) (.int .i64 ((nxtN f n k (f k) + 1 : Nat) : Int))).below hbn hw4
          have ht1 := (HT.out.set (f k) (nxtN f n k (f k) + 1)).below hbn (by omega)
          rw [nxt_step hp] at ht1
          have HROW1 := Lib.hid hrow1; have HT1 := Lib.hid ht1
          have HRR1 := Lib.hid (HRR.out.below hbx (Nat.le_refl _))
          have HB1 := Lib.hid (HB.out.trans (hbx.mono hsz))
          have hwn := hrow1.lt
          have hc1 := (hrow1.cell hlt).1
          have hc2 := (hrow1.cell hlt).2
          have hf1 := hrow1.frozen (k * 2)
          have hf2 := hrow1.frozen (k * 2 + 1)
          clear hbn hbx hrow1 ht1 hs0 hcell
          obtain ⟨x, hxe⟩ : ∃ x, x = nxtN f n k (f k) := ⟨_, rfl⟩
          rw [← hxe] at HCX hx ⊢
          have HXE := Lib.hid hxe
          clear hxe
          go_wp2
          go_roundw
          case rel =>
            have hset := HROW1.out.set k x (f k)
            rw [← HCX.out, (pre_step f n k).1, (pre_step f n k).2] at hset
            refine ⟨k + 1, by omega, by go_num, ?_, (HT1.out.other (by show b ≠ w4.heap.size; omega) _).other (by show b ≠ w4.heap.size; omega) _, HRR1.out.below (((Below.refl b wn).setCell (by show b ≤ w4.heap.size; omega) _).setCell (by show b ≤ w4.heap.size; omega) _) (Nat.le_refl _), (HB1.out.setCell (by show w.heap.size ≤ w4.heap.size; omega) _).setCell (by show w.heap.size ≤ w4.heap.size; omega) _⟩
            rw [← HCX.out]; exact hset
          case measure => simp [intOf]; omega
        · have hz0 : f k = 0 := by omega
          have hno : decide (0 < ((f k : Nat) : Int)) = false := by simp; omega
          have HS := Lib.hid (nxt_skip (n := n) hz0)
          have HP := Lib.hid (pre_skip n hz0)
          clear hz0
          go_wp2
          go_roundw
          case rel =>
            refine ⟨k + 1, by omega, by go_num, ?_, ?_, HRR.out, HB.out⟩
            · rw [← HP.out.1, ← HP.out.2]; exact HROW.out
            · rw [← HS.out]; exact HT.out
          case measure => simp [intOf]; omega
      · obtain rfl : k = n := by omega
        have HROW := Lib.hid hrow; have HB := Lib.hid hb
        clear hrow ht hb hr hlt hk
        go_wp2
        go_ret2
        refine ⟨_, _, rfl, HB.out, .inr ⟨_, rfl, by omega, HROW.out.ext (fun j hj => ?_) (fun j hj => ?_)⟩⟩
        · rw [codeX_in H0.out j hj]; unfold preX; rw [if_pos hj]
        · unfold preL; rw [if_pos hj]
  · have hl : lenC f n most = 0 := by unfold lenC; rw [if_neg h0]
    have hne : (checkE f n most != 0) = true := by simpa using h0
    rw [hl]
    obtain ⟨E, hE⟩ : ∃ E, E = checkE f n most := ⟨_, rfl⟩
    rw [← hE] at hcr hne ⊢
    have HCR := Lib.hid hcr
    clear hcr h0 hl hE
    go_enter Try.func22, Try.ntmps22
    go_wp2_with fail
    refine HCR.out.mono ?_
    rintro e w' ⟨rfl, hb⟩
    have HB := Lib.hid hb
    clear hb
    go_wp2
    go_ret2
    exact ⟨_, _, rfl, HB.out, .inl rfl⟩
end Go.Proofs.Ytedjapamimhglaa
