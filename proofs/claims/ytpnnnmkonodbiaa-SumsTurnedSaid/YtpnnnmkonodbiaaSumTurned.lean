/-
  For every sum, bytes, place, four bytes and one: the law SumsTurned returns true, and its arguments read as they did. No condition beside the statement's own.
-/
import Derived.Test.YtpnnnmkonodbiaaSumAlive
import Derived.Test.YtpnnnmkonodbiaaNums
import Derived.Test.YtpnnnmkonodbiaaAfter
namespace Go.Proofs.Ytpnnnmkonodbiaa
open Go.RowKit Go.ChangeShapes Go.WideShapes Go.ChangeAt
theorem szTabL (g : Nat → Nat) : (Try.prog.info? 23).map (·.size) = some (tabL g).length := by rw [tabL_length]; exact szTab
def fourA (P : Nat → Nat) : Value := .agg #[.int .u8 (P 0 : Int), .int .u8 (P 1 : Int), .int .u8 (P 2 : Int), .int .u8 (P 3 : Int)]
theorem four_of {xs : Array Value} {f : Nat → Int} (hs : xs.size = 4) (hx : ∀ i, i < 4 → xs[i]? = some (.int .u8 (f i))) (hw : ∀ i, i < 4 → (Lit.int .u8 (f i)).wf = true) :
    ∃ P : Nat → Nat, xs = #[.int .u8 (P 0 : Int), .int .u8 (P 1 : Int), .int .u8 (P 2 : Int), .int .u8 (P 3 : Int)] ∧ ∀ j, P j < 256 := by
  have hb : ∀ i, i < 4 → 0 ≤ f i ∧ f i < 256 := fun i hi => wf_u8_range (hw i hi)
  refine ⟨fun j => if j < 4 then (f j).toNat else 0, ?_, fun j => ?_⟩
  · apply Array.ext_getElem?
    intro i
    by_cases hi : i < 4
    · rw [hx i hi]
      have h4 : i = 0 ∨ i = 1 ∨ i = 2 ∨ i = 3 := by omega
      rcases h4 with rfl | rfl | rfl | rfl
      · have := hb 0 (by omega); simp; omega
      · have := hb 1 (by omega); simp; omega
      · have := hb 2 (by omega); simp; omega
      · have := hb 3 (by omega); simp; omega
    · rw [Array.getElem?_eq_none (by omega), Array.getElem?_eq_none (by simp; omega)]
  · show (if j < 4 then (f j).toNat else 0) < 256
    split
    · rename_i h; have := hb j h; omega
    · omega
/-- The law's first three rows: what is not tried. -/
def skipB (l : Nat) (a : Int) : Bool := decide (10000 < (l : Int) ∨ a < 0 ∨ (l : Int) - 4 < a ∨ (l : Int) < 4)
set_option maxRecDepth 100000 in
set_option maxHeartbeats 2000000 in
theorem turned_skip (s : Nat) (A : Option Addr) (l c : Nat) (a : Int) (P : Nat → Nat) (o : Nat) (w : World) (ha0 : -9223372036854775808 ≤ a) (ha1 : a ≤ 9223372036854775807) (hlt : 10000 < l ∨ a < 0 ∨ (l : Int) - 4 < a ∨ l < 4) :
    Calls Try.prog 7 #[.int .u32 (s : Int), .slice A l c, .int .i64 a, .agg #[.int .u8 (P 0 : Int), .int .u8 (P 1 : Int), .int .u8 (P 2 : Int), .int .u8 (P 3 : Int)], .int .u8 (o : Int)] w fun e w' => e = .returned (.bool true) ∧ Below w.heap.size w w' := by
  have HB0 := Lib.hid (show Below w.heap.size w (w.alloc (.cells #[.int .u8 (P 0 : Int), .int .u8 (P 1 : Int), .int .u8 (P 2 : Int), .int .u8 (P 3 : Int)] 33)) from (Below.refl _ _).alloc (Nat.le_refl _) _)
  have HH := Lib.hid hlt
  clear hlt
  by_cases h1 : (10000 : Int) < (l : Int)
  · go_enter Try.func7, Try.ntmps7
    go_wp2_with fail
    refine (alive_any _).mono ?_
    rintro e w1 ⟨rfl, b1⟩
    have HB1 := Lib.hid (HB0.out.trans (b1.mono (by simp)))
    clear b1
    go_wp2
    go_ret
    exact ⟨rfl, HB1.out⟩
  · have d1 : decide ((10000 : Int) < (l : Int)) = false := by simp; omega
    by_cases h2 : a < 0
    · go_enter Try.func7, Try.ntmps7
      go_wp2_with fail
      refine (alive_any _).mono ?_
      rintro e w1 ⟨rfl, b1⟩
      have HB1 := Lib.hid (HB0.out.trans (b1.mono (by simp)))
      clear b1
      go_wp2
      go_ret
      exact ⟨rfl, HB1.out⟩
    · have h3 : (l : Int) - 4 < a := by have := HH.out; omega
      go_enter Try.func7, Try.ntmps7
      go_wp2_with fail
      refine (alive_any _).mono ?_
      rintro e w1 ⟨rfl, b1⟩
      have HB1 := Lib.hid (HB0.out.trans (b1.mono (by simp)))
      clear b1
      go_wp2
      go_ret
      exact ⟨rfl, HB1.out⟩
theorem turned_zero (f p : Nat → Nat) (n j : Nat) : turned f p n 0 j = f j := by unfold turned; rw [if_neg (by omega)]
theorem turned_upd (f p : Nat → Nat) (n k : Nat) : upd (turned f p n k) (n + k) (f (n + k) ^^^ p k) = turned f p n (k + 1) := by
  funext j
  unfold upd turned
  by_cases h : j = n + k
  · subst h
    rw [if_pos rfl, if_pos (by omega), Nat.add_sub_cancel_left]
  · rw [if_neg h]
    by_cases h2 : n ≤ j ∧ j < n + k
    · rw [if_pos h2, if_pos (by omega)]
    · rw [if_neg h2, if_neg (by omega)]
theorem turned_at (f p : Nat → Nat) (n k : Nat) : turned f p n k (n + k) = f (n + k) := by unfold turned; rw [if_neg (by omega)]
def Cells4 (w : World) (b : Nat) (P : Nat → Nat) : Prop := w.heap[b]? = some (.cells #[.int .u8 (P 0 : Int), .int .u8 (P 1 : Int), .int .u8 (P 2 : Int), .int .u8 (P 3 : Int)] 33 (0, 0))
theorem Cells4.cell {w : World} {b : Nat} {P : Nat → Nat} (h : Cells4 w b P) {k : Nat} (hk : k < 4) : w.cell? ⟨b, k, none⟩ = some (.int .u8 (P k : Int)) := by
  rw [cell_of_row w b k _ _ _ h]
  have h4 : k = 0 ∨ k = 1 ∨ k = 2 ∨ k = 3 := by omega
  rcases h4 with rfl | rfl | rfl | rfl <;> rfl
set_option maxRecDepth 100000 in
set_option maxHeartbeats 4000000 in
theorem turned_walk (s : Nat) (A : Option Addr) (l c : Nat) (f : Nat → Nat) (a : Nat) (P : Nat → Nat) (o : Nat) (w : World) (hs : s < 4294967296) (hr : RdB w w.heap.size A l f) (hn : A = none → c = 0) (hP : ∀ j, P j < 256) (ho : o < 256) (hl : l ≤ 10000) (hal : a + 4 ≤ l) :
    Calls Try.prog 7 #[.int .u32 (s : Int), .slice A l c, .int .i64 (a : Int), .agg #[.int .u8 (P 0 : Int), .int .u8 (P 1 : Int), .int .u8 (P 2 : Int), .int .u8 (P 3 : Int)], .int .u8 (o : Int)] w fun e w' => e = .returned (.bool true) ∧ Below w.heap.size w w' := by
  have HB0 := Lib.hid (show Below w.heap.size w (w.alloc (.cells #[.int .u8 (P 0 : Int), .int .u8 (P 1 : Int), .int .u8 (P 2 : Int), .int .u8 (P 3 : Int)] 33)) from (Below.refl _ _).alloc (Nat.le_refl _) _)
  have HF0 := Lib.hid (show Cells4 (w.alloc (.cells #[.int .u8 (P 0 : Int), .int .u8 (P 1 : Int), .int .u8 (P 2 : Int), .int .u8 (P 3 : Int)] 33)) w.heap.size P from heap_alloc_new w _)
  have HR := Lib.hid hr; have HN := Lib.hid hn; have HP := Lib.hid hP
  have hz := (zero_of_info infoTab).1
  clear hr hn hP
  have d1 : decide ((10000 : Int) < (l : Int)) = false := by simp; omega
  have d2 : decide ((a : Int) < 0) = false := by simp
  have d3 : decide ((l : Int) - 4 < (a : Int)) = false := by simp; omega
  have d4 : decide ((l : Int) < 4) = false := by simp; omega
  go_enter Try.func7, Try.ntmps7
  go_wp2_with fail
  refine (alive_any _).mono ?_
  rintro e w1 ⟨rfl, b1⟩
  have HB1 := Lib.hid (HB0.out.trans (b1.mono (by simp)))
  have HF1 := Lib.hid (show Cells4 w1 w.heap.size P from (b1.block _ (by simp)).trans HF0.out)
  have hs1 : w.heap.size < w1.heap.size := by have := b1.size; simp at this; omega
  clear b1
  obtain ⟨Ax, cx, w2, hrun, hown, hb2, _⟩ := run_twin w1 w1.heap.size A l c f ((HR.out.below HB1.out (Nat.le_refl _)).more (by omega)) (by omega) 28 HN.out
  obtain ⟨gx, rfl, hgx, hrow⟩ := RowW.of_own hown (by omega)
  have HRUN := Lib.hid hrun
  have HB2 := Lib.hid (HB1.out.trans (hb2.mono (by omega)))
  have HF2 := Lib.hid (show Cells4 w2 w.heap.size P from (hb2.block _ hs1).trans HF1.out)
  have HX2 := Lib.hid hrow
  have hs2 : w1.heap.size ≤ w2.heap.size := hb2.size
  clear hrun hown hb2 hrow
  go_wp2_with (at_builtin; refine wpList_append_run rfl (.const (.slice none 0 0)) (.tmp 38) 28 rfl (.slice none 0 0) (.slice A l c) (.slice (some ⟨gx, 0, none⟩) l cx) w2 rfl rfl HRUN.out ?_)
  go_loopw [13] (fun i wr => ∃ k : Nat, k ≤ 4 ∧ i = .int .i64 k ∧ RowW wr gx l (turned f P a k) ∧ Cells4 wr w.heap.size P ∧ Below w.heap.size w wr ∧ w2.heap.size ≤ wr.heap.size) (fun i _ => 4 - (intOf i).toNat)
  case atStart => exact ⟨0, Nat.zero_le _, rfl, HX2.out.ext fun j _ => (turned_zero f P a j).symm, HF2.out, HB2.out, Nat.le_refl _⟩
  case round =>
    obtain ⟨k, hk, rfl, hx, hf4, hb, hsz⟩ := hrel
    by_cases hlt : k < 4
    · have hc1 := hx.cell (j := a + k) (by omega)
      rw [turned_at] at hc1
      have hc2 := hf4.cell hlt
      have hfz := hx.frozen (a + k)
      have hp8 := HP.out k
      have hf8 := HR.out.1 (a + k)
      have hxor := u8_xor (f (a + k)) (P k) hf8 hp8
      have hak : a + k < l := by omega
      obtain ⟨x, hxe⟩ : ∃ x, x = f (a + k) ^^^ P k := ⟨_, rfl⟩
      obtain ⟨fx, hfx⟩ : ∃ x, x = f (a + k) := ⟨_, rfl⟩
      rw [← hxe] at hxor
      rw [← hfx] at hc1 hxor hf8
      have HX := Lib.hid hx; have HF := Lib.hid hf4; have HB := Lib.hid hb; have HXE := Lib.hid hxe; have HFX := Lib.hid hfx
      clear hx hf4 hb hxe hfx
      go_wp2
      go_region
      go_wp2
      go_roundw
      case rel =>
        have hset := HX.out.set (a + k) x
        rw [HXE.out, turned_upd] at hset
        rw [← HXE.out] at hset
        refine ⟨k + 1, by omega, by go_num, hset.drew, ?_, ?_, ?_⟩
        · exact (Below.heap_setCell _ _ _ _ (by show w.heap.size ≠ gx; omega)).trans HF.out
        · exact (HB.out.setCell (by show w.heap.size ≤ gx; omega) _).drew
        · show w2.heap.size ≤ (wr.setCell _ _).heap.size
          simpa [World.setCell] using hsz
      case measure => simp [intOf]; omega
    · obtain rfl : k = 4 := by omega
      clear hlt hk
      have hgl : gx < w2.heap.size := HX2.out.lt
      have HX := Lib.hid hx; have HF := Lib.hid hf4; have HB := Lib.hid hb
      clear hx hf4 hb
      obtain ⟨Ay, cy, w4, hrun, hown, hb4, _⟩ := run_twin wr wr.heap.size A l c f ((HR.out.below HB.out (Nat.le_refl _)).more (by omega)) (by omega) 28 HN.out
      obtain ⟨gy, rfl, hgy, hrow⟩ := RowW.of_own hown (by omega)
      have HRUN4 := Lib.hid hrun
      have HB4 := Lib.hid (HB.out.trans (hb4.mono (by omega)))
      have HX4 := Lib.hid (HX.out.below hb4 (by omega))
      have HF4 := Lib.hid (show Cells4 w4 w.heap.size P from (hb4.block _ (by omega)).trans HF.out)
      have HY4 := Lib.hid hrow
      have hs4 : wr.heap.size ≤ w4.heap.size := hb4.size
      clear hrun hown hb4 hrow
      have hc1 := HY4.out.cell (j := a) (by omega)
      have hfz := HY4.out.frozen a
      have hf8 := HR.out.1 a
      have hxor := u8_xor (f a) o hf8 ho
      obtain ⟨fy, hfy⟩ : ∃ x, x = f a := ⟨_, rfl⟩
      obtain ⟨y, hye⟩ : ∃ x, x = f a ^^^ o := ⟨_, rfl⟩
      rw [← hye, ← hfy] at hxor
      rw [← hfy] at hc1 hf8
      have hal2 : a < l := by omega
      have HYE := Lib.hid hye; have HFY := Lib.hid hfy
      clear hye hfy
      go_wp2_with (at_builtin; refine wpList_append_run rfl (.const (.slice none 0 0)) (.tmp 59) 28 rfl (.slice none 0 0) (.slice A l c) (.slice (some ⟨gy, 0, none⟩) l cy) w4 rfl rfl HRUN4.out ?_)
      obtain ⟨w5, hw5⟩ : ∃ u, u = w4.setCell ⟨gy, a, none⟩ (.int .u8 (y : Int)) := ⟨_, rfl⟩
      rw [← hw5]
      have hgl4 : gy < w4.heap.size := HY4.out.lt
      have HB5 := Lib.hid (show Below w.heap.size w w5 by rw [hw5]; exact HB4.out.setCell (by show w.heap.size ≤ gy; omega) _)
      have HX5 := Lib.hid (show RowW w5 gx l (turned f P a 4) by rw [hw5]; exact HX4.out.other (by show gx ≠ gy; omega) _)
      have HY5 := Lib.hid (show RowW w5 gy l (turned f (fun _ => o) a 1) by
        rw [hw5]
        have h0 := (HY4.out.set a y)
        refine h0.ext fun j _ => ?_
        have h1 := turned_upd f (fun _ => o) a 0
        rw [Nat.add_zero, show turned f (fun _ => o) a 0 = f from funext (turned_zero f _ a)] at h1
        rw [HYE.out, h1])
      have HF5 := Lib.hid (show Cells4 w5 w.heap.size P by rw [hw5]; exact (Below.heap_setCell _ _ _ _ (by show w.heap.size ≠ gy; omega)).trans HF4.out)
      have hs5 : w4.heap.size ≤ w5.heap.size := by rw [hw5]; simp [World.setCell]
      clear hw5 hxor hc1 hfz
      go_wp2_with fail
      refine (table_any w5).mono ?_
      rintro e w6 ⟨rfl, b6⟩
      have HB6 := Lib.hid (HB5.out.trans (b6.mono (by omega)))
      have HX6 := Lib.hid (HX5.out.below b6 (by omega))
      have HY6 := Lib.hid (HY5.out.below b6 (by omega))
      have HF6 := Lib.hid (show Cells4 w6 w.heap.size P from (b6.block _ (by omega)).trans HF5.out)
      have hs6 : w5.heap.size ≤ w6.heap.size := b6.size
      clear b6
      go_wp2_with (refine wpList_store_row rfl _ _ _ rfl w6.heap.size (tabA rowN) rfl rfl _ (tabA zero0) (tab_new w6 zero0) (by rw [tabA_size]; exact szTab) (by rw [tabA_size, tabA_size]) (tabA_one _) ?_)
      obtain ⟨U, hU⟩ : ∃ U, U = (w6.alloc (.cells (tabA zero0) 23)).setRow w6.heap.size (tabA rowN) := ⟨_, rfl⟩
      have ht : Tab U w6.heap.size rowN := by rw [hU]; exact (tab_new w6 zero0).setRow
      have hb : Below w6.heap.size w6 U := by rw [hU]; exact below_setRow ((Below.refl _ _).alloc (Nat.le_refl _) _) (Nat.le_refl _) _
      rw [← hU]
      have hlt := ht.lt
      have HT := Lib.hid ht
      have HBU := Lib.hid (HB6.out.trans (hb.mono (by omega)))
      have HXU := Lib.hid ((HX6.out.below hb (by omega)).rd (turned_lt HR.out.1 HP.out a 4))
      have HYU := Lib.hid ((HY6.out.below hb (by omega)).rd (turned_lt HR.out.1 (fun _ => ho) a 1))
      have HFU := Lib.hid (show Cells4 U w.heap.size P from (hb.block _ (by omega)).trans HF6.out)
      have HRU := Lib.hid ((HR.out.below HBU.out (Nat.le_refl _)).more (B' := U.heap.size) (by omega))
      have hsU : w.heap.size < U.heap.size := by omega
      clear hb ht hU
      obtain ⟨z, hze⟩ : ∃ z : Bool, z = decide (P 0 = 0 ∧ P 1 = 0 ∧ P 2 = 0 ∧ P 3 = 0) := ⟨_, rfl⟩
      obtain ⟨z2, hz2⟩ : ∃ z : Bool, z = decide (o = 0) := ⟨_, rfl⟩
      obtain ⟨CX, hCX⟩ : ∃ C, C = crcV rowN s (turned f P a 4) l := ⟨_, rfl⟩
      obtain ⟨CB, hCB⟩ : ∃ C, C = crcV rowN s f l := ⟨_, rfl⟩
      obtain ⟨DX, hDX⟩ : ∃ C, C = adlV 1 (turned f (fun _ => o) a 1) l := ⟨_, rfl⟩
      obtain ⟨DB, hDB⟩ : ∃ C, C = adlV 1 f l := ⟨_, rfl⟩
      have e1 : ((CX : Int) == (CB : Int)) = z := by
        have := turned_crc HR.out.1 HP.out s a l hal
        rw [hze, hCX, hCB, Bool.eq_iff_iff, decide_eq_true_iff, ← this, beq_iff_eq]
        omega
      have e3 : ((DX : Int) == (DB : Int)) = z2 := by
        have := turned_adl HR.out.1 (p := fun _ => o) (fun _ => ho) 1 a l (by omega)
        rw [hz2, hDX, hDB, Bool.eq_iff_iff, decide_eq_true_iff, ← this, beq_iff_eq]
        omega
      have e4 : ((o : Int) == 0) = z2 := by
        rw [hz2, Bool.eq_iff_iff, decide_eq_true_iff, beq_iff_eq]; omega
      have e2 : ∀ V : World, (binOp .eql 33 (.agg #[.int .u8 (P 0 : Int), .int .u8 (P 1 : Int), .int .u8 (P 2 : Int), .int .u8 (P 3 : Int)]) (.agg #[.int .u8 0, .int .u8 0, .int .u8 0, .int .u8 0])).run Try.prog V = .ok (.bool z) V := fun V => by
        have := run_eql_nums (P := Try.prog) V Try.underlying33 Try.underlying5 (by kernel_rfl) (by kernel_rfl) #[.int .u8 (P 0 : Int), .int .u8 (P 1 : Int), .int .u8 (P 2 : Int), .int .u8 (P 3 : Int)] #[.int .u8 0, .int .u8 0, .int .u8 0, .int .u8 0] (fun i => (P i : Int)) (fun _ => 0)
          (fun i hi => by have h4 : i = 0 ∨ i = 1 ∨ i = 2 ∨ i = 3 := by omega
                          rcases h4 with rfl | rfl | rfl | rfl <;> rfl)
          (fun i hi => by have h4 : i = 0 ∨ i = 1 ∨ i = 2 ∨ i = 3 := by omega
                          rcases h4 with rfl | rfl | rfl | rfl <;> rfl)
        rw [this, hze]
        congr 2
        rw [decide_eq_decide]
        constructor
        · intro h
          have h0 := h 0 (by omega); have h1 := h 1 (by omega); have h2 := h 2 (by omega); have h3 := h 3 (by omega)
          omega
        · rintro ⟨h0, h1, h2, h3⟩ i hi
          have h4 : i = 0 ∨ i = 1 ∨ i = 2 ∨ i = 3 := by omega
          rcases h4 with rfl | rfl | rfl | rfl <;> omega
      have T1 := Lib.hid (fun (V : World) (hV : Below U.heap.size U V) => show Calls Try.prog 11 #[.agg (tabL rowN).toArray, .int .u32 (s : Int), .slice (some ⟨gx, 0, none⟩) l cx] V fun e V' => e = .returned (.int .u32 (CX : Int)) ∧ Below U.heap.size U V' from
        (crc_any V _ rowN s _ l cx _ row_lt hs (HXU.out.below hV (Nat.le_refl _)) hV.size (by omega)).mono fun _ _ ⟨a, b⟩ => ⟨hCX ▸ a, hV.trans (b.mono hV.size)⟩)
      have T2 := Lib.hid (fun (V : World) (hV : Below U.heap.size U V) => show Calls Try.prog 11 #[.agg (tabL rowN).toArray, .int .u32 (s : Int), .slice A l c] V fun e V' => e = .returned (.int .u32 (CB : Int)) ∧ Below U.heap.size U V' from
        (crc_any V _ rowN s _ l c _ row_lt hs (HRU.out.below hV (Nat.le_refl _)) hV.size (by omega)).mono fun _ _ ⟨a, b⟩ => ⟨hCB ▸ a, hV.trans (b.mono hV.size)⟩)
      have hS : ∀ V, (∃ p : After U.heap.size U, V = p.w) → V.rangeAt w6.heap.size 0 (tabL rowN) := fun V ⟨p, hp⟩ => by subst hp; exact (HT.out.below p.h hlt).range
      have SIX := Lib.hid hS
      have c0 : ∀ p : After U.heap.size U, p.w.cell? ⟨w.heap.size, 0, none⟩ = some (.int .u8 (P 0 : Int)) := fun p => Cells4.cell ((p.h.block _ hsU).trans HFU.out) (by omega)
      have c1 : ∀ p : After U.heap.size U, p.w.cell? ⟨w.heap.size, 1, none⟩ = some (.int .u8 (P 1 : Int)) := fun p => Cells4.cell ((p.h.block _ hsU).trans HFU.out) (by omega)
      have c2 : ∀ p : After U.heap.size U, p.w.cell? ⟨w.heap.size, 2, none⟩ = some (.int .u8 (P 2 : Int)) := fun p => Cells4.cell ((p.h.block _ hsU).trans HFU.out) (by omega)
      have c3 : ∀ p : After U.heap.size U, p.w.cell? ⟨w.heap.size, 3, none⟩ = some (.int .u8 (P 3 : Int)) := fun p => Cells4.cell ((p.h.block _ hsU).trans HFU.out) (by omega)
      have E4 := Lib.hid e4; have E3 := Lib.hid e3
      have HDX := Lib.hid hDX; have HDB := Lib.hid hDB
      clear hS hze hz2 hCX hCB hDX hDB e4 e3
      simp only [Act.put]
      refine wp_region_after U.heap.size U (Below.refl _ _) (by kernel_rfl) (by kernel_rfl) ?_
      repeat (first
        | (go_big_quiet_want; with_reducible refine quiet_load_row _ _ rfl _ _ rfl _ _ SIX.out Try.underlying23 rfl (szTabL rowN) ?_; go_big_quiet_on; simp only [Act.put, List.setIfInBounds_toArray, List.set_cons_zero, List.set_cons_succ])
        | (go_big_quiet_step (first | (with_reducible exact call_after T1.out _) | (with_reducible exact call_after T2.out _))))
      refine wpQuiet_nil ?_
      rintro V ⟨⟨_, hV⟩, rfl⟩
      have HV := Lib.hid (HBU.out.trans (hV.mono (by omega)))
      have HYV := Lib.hid (HYU.out.below hV (Nat.le_refl _))
      have HRV := Lib.hid (HRU.out.below hV (Nat.le_refl _))
      clear hV e1 e2 c0 c1 c2 c3
      go_wp2_with fail
      refine (adl_any V _ 1 _ l cy _ (by omega) HYV.out (by omega)).mono ?_
      rintro e V2 ⟨rfl, rfl⟩
      rw [← HDX.out]
      go_wp2_with fail
      refine (adl_any V _ 1 _ l c _ (by omega) HRV.out (by omega)).mono ?_
      rintro e V2 ⟨rfl, rfl⟩
      rw [← HDB.out]
      have e3 := E3.out
      have e4 := E4.out
      go_wp2
      go_ret
      exact ⟨rfl, HV.out⟩
theorem turned_law (s : Nat) (A : Option Addr) (l c : Nat) (f : Nat → Nat) (a : Int) (P : Nat → Nat) (o : Nat) (w : World) (hs : s < 4294967296) (hr : RdB w w.heap.size A l f) (hn : A = none → c = 0) (ha0 : -9223372036854775808 ≤ a) (ha1 : a ≤ 9223372036854775807) (hP : ∀ j, P j < 256) (ho : o < 256) :
    Calls Try.prog 7 #[.int .u32 (s : Int), .slice A l c, .int .i64 a, .agg #[.int .u8 (P 0 : Int), .int .u8 (P 1 : Int), .int .u8 (P 2 : Int), .int .u8 (P 3 : Int)], .int .u8 (o : Int)] w fun e w' => e = .returned (.bool true) ∧ Below w.heap.size w w' := by
  by_cases h : 10000 < l ∨ a < 0 ∨ (l : Int) - 4 < a ∨ l < 4
  · exact turned_skip s A l c a P o w ha0 ha1 h
  · obtain ⟨a, rfl⟩ := Int.eq_ofNat_of_zero_le (show 0 ≤ a by omega)
    exact turned_walk s A l c f a P o w hs hr hn hP ho (by omega) (by omega)
-- LAW
set_option maxRecDepth 100000 in
theorem turned_law_lifted (os : Os) (started : os.Started) (H : Type) (enc : TypeId × Value → H) :
    ReturnsInHanded {} Try.checked os 7 .any (Rows.sumsTurnedSpec.pre6 enc Try.prog Try.f7 Rows.sumsTurnedRow.domain false) (Rows.sumsTurnedSpec.post enc Try.prog Try.f7 false true false false) := by
  refine returnsInHanded_of_change (C := Try.checked) own started (by kernel_rfl) Try.func7
    (ChangeSpec.witness6 (enc := enc) (C := Try.checked) false ⟨#[], #[.int .u32 0, .slice none 0 0, .int .i64 0, .agg #[.int .u8 0, .int .u8 0, .int .u8 0, .int .u8 0], .int .u8 0], []⟩ 8 (by kernel_rfl) (by kernel_rfl) (by kernel_rfl) (by kernel_rfl)) ?_
  intro W base args ds gs before hval0 hW _ _
  have hval : ∀ (j : Nat) t v, Try.f7.params[j]? = some t → args[j]? = some v → Value.okWide Try.prog W .any base t v := hval0
  have hW' := hW
  obtain ⟨p, q, hA0, hV, rfl, _, _⟩ := hW
  have hA : DataW.TrodAll enc Try.prog W 0 (fun _ => true) true Try.f7.params.toList args.toList ds p := hA0
  rw [Try.params7] at hA hval
  obtain ⟨v0, vs0, d0, ds0, p0, q0, hargs, rfl, rfl, h0, r0⟩ := trodAll_cons hA
  obtain ⟨v1, vs1, d1, ds1, p1, q1, rfl, rfl, rfl, h1, r1⟩ := trodAll_cons r0
  obtain ⟨v2, vs2, d2, ds2, p2, q2, rfl, rfl, rfl, h2, r2⟩ := trodAll_cons r1
  obtain ⟨v3, vs3, d3, ds3, p3, q3, rfl, rfl, rfl, h3, r3⟩ := trodAll_cons r2
  obtain ⟨v4, vs4, d4, ds4, p4, q4, rfl, rfl, rfl, h4, r4⟩ := trodAll_cons r3
  obtain ⟨rfl, rfl, rfl⟩ := trodAll_nil r4
  obtain rfl : args = #[v0, v1, v2, v3, v4] := by cases args; simp_all
  obtain ⟨rfl, rfl⟩ := trodVars_none hV
  have k0 := h0
  have lt0 : ∀ x ∈ p0, x.block < W.heap.size := by obtain ⟨m, hm⟩ := k0; exact DataW.trod_lt m _ _ _ hm
  obtain ⟨a0, rfl, rfl, rfl, w0⟩ := open_int Try.underlying22 (hval 0 22 v0 rfl rfl) h0
  have u0 := wf_u32_range w0
  obtain ⟨a0, rfl⟩ := Int.eq_ofNat_of_zero_le u0.1
  have k1 := h1
  have lt1 : ∀ x ∈ p1, x.block < W.heap.size := by obtain ⟨m, hm⟩ := k1; exact DataW.trod_lt m _ _ _ hm
  obtain ⟨A1, len1, cap1, rfl⟩ := okWide_slice Try.underlying28 (hval 1 28 v1 rfl rfl)
  obtain ⟨f1, hr1, hn1, hl1, hm1⟩ := open_bytes h1
  have k2 := h2
  have lt2 : ∀ x ∈ p2, x.block < W.heap.size := by obtain ⟨m, hm⟩ := k2; exact DataW.trod_lt m _ _ _ hm
  obtain ⟨a2, rfl, rfl, rfl, w2⟩ := open_int Try.underlying3 (hval 2 3 v2 rfl rfl) h2
  have u2 := wf_i64_range w2
  have k3 := h3
  have lt3 : ∀ x ∈ p3, x.block < W.heap.size := by obtain ⟨m, hm⟩ := k3; exact DataW.trod_lt m _ _ _ hm
  obtain ⟨xs3, f3, rfl, hs3, hx3, hw3⟩ := open_nums Try.underlying33 Try.underlying5 (by kernel_rfl) (by kernel_rfl) (hval 3 33 v3 rfl rfl) h3
  obtain ⟨g3, rfl, hg3⟩ := four_of hs3 hx3 hw3
  have k4 := h4
  have lt4 : ∀ x ∈ p4, x.block < W.heap.size := by obtain ⟨m, hm⟩ := k4; exact DataW.trod_lt m _ _ _ hm
  obtain ⟨a4, rfl, rfl, rfl, w4⟩ := open_int Try.underlying5 (hval 4 5 v4 rfl rfl) h4
  have u4 := wf_u8_range w4
  obtain ⟨a4, rfl⟩ := Int.eq_ofNat_of_zero_le u4.1
  clear hA0 hval0
  refine (turned_law a0 A1 len1 cap1 f1 a2 g3 a4 W (by omega) hr1 hn1 u2.1 u2.2 hg3 (by omega)).mono fun e W' ⟨he, bel⟩ => ?_
  subst he
  exact ⟨_, rfl, _, _, _, [], _, [], hW', trodAll_mk1 (shut_bool Try.underlying4 _), (trodAll_cons_mk (Below.trod laidOut (by kernel_rfl) (of_decide_eq_true (by kernel_rfl)) k0 bel lt0) (trodAll_cons_mk (Below.trod laidOut (by kernel_rfl) (of_decide_eq_true (by kernel_rfl)) k1 bel lt1) (trodAll_cons_mk (Below.trod laidOut (by kernel_rfl) (of_decide_eq_true (by kernel_rfl)) k2 bel lt2) (trodAll_cons_mk (Below.trod laidOut (by kernel_rfl) (of_decide_eq_true (by kernel_rfl)) k3 bel lt3) (trodAll_cons_mk (Below.trod laidOut (by kernel_rfl) (of_decide_eq_true (by kernel_rfl)) k4 bel lt4) trodAll_mk0))))), rfl, bel.frame _, fun h => by cases h⟩
theorem turned_law_holds : Rows.SumsTurnedSaid :=
  OpenClaim.holds_of_wide 7 Try.f7 rfl rfl rfl rfl rfl rfl rfl ⟨rfl, rfl, rfl, rfl, rfl⟩ rfl rfl rfl rfl rfl (by kernel_rfl) Try.func7 (by kernel_rfl)
    (of_decide_eq_true (by kernel_rfl)) (by unfold Func.isWrapper; first | (rw [if_pos (by decide +kernel)]; kernel_rfl) | (rw [if_neg (by decide +kernel)]; exact ⟨rfl, rfl⟩))
    (fun os started H enc _ => turned_law_lifted os started H enc)
#print axioms turned_law_holds
end Go.Proofs.Ytpnnnmkonodbiaa
