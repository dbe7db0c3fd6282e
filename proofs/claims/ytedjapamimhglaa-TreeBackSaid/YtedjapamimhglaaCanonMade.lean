/-
  Layer 3 (canon): what the document's own Made and Codes answer.
-/
import Derived.Test.YtedjapamimhglaaCanonRef
import Derived.OneCell
namespace Go.Proofs.Ytedjapamimhglaa
open Go.RowKit
/-- Is symbol j's code made, when those of the lengths below m are, and those of m ahead of i? -/
def madeB (f : Nat → Nat) (m i j : Nat) : Bool := decide (0 < f j ∧ (f j < m ∨ (f j = m ∧ j < i)))
def madeX (f : Nat → Nat) (n m i j : Nat) : Nat := if madeB f m i j = true then codeB f n j else 0
def madeL (f : Nat → Nat) (m i j : Nat) : Nat := if madeB f m i j = true then f j else 0
theorem made_step {f : Nat → Nat} {n m i : Nat} (h : f i = m) (hm : 0 < m) : upd (madeX f n m i) i (codeB f n i) = madeX f n m (i + 1) ∧ upd (madeL f m i) i m = madeL f m (i + 1) := by
  have hb : ∀ j, j ≠ i → madeB f m i j = madeB f m (i + 1) j := fun j hj => by unfold madeB; rw [decide_eq_decide]; omega
  have hi : madeB f m (i + 1) i = true := decide_eq_true (by omega)
  constructor
  · funext j
    unfold upd
    by_cases e : j = i
    · subst e; rw [if_pos rfl]; unfold madeX; rw [hi, if_pos rfl]
    · rw [if_neg e]; unfold madeX; rw [hb j e]
  · funext j
    unfold upd
    by_cases e : j = i
    · subst e; rw [if_pos rfl]; unfold madeL; rw [hi, if_pos rfl, h]
    · rw [if_neg e]; unfold madeL; rw [hb j e]
theorem made_skip {f : Nat → Nat} {n m i : Nat} (h : f i ≠ m) : madeX f n m i = madeX f n m (i + 1) ∧ madeL f m i = madeL f m (i + 1) := by
  have hb : ∀ j, madeB f m i j = madeB f m (i + 1) j := fun j => by
    unfold madeB; rw [decide_eq_decide]
    by_cases e : j = i
    · subst e; omega
    · omega
  constructor
  · funext j; unfold madeX; rw [hb j]
  · funext j; unfold madeL; rw [hb j]
theorem made_next {f : Nat → Nat} {n m j : Nat} (hj : j < n) : madeX f n m n j = madeX f n (m + 1) 0 j ∧ madeL f m n j = madeL f (m + 1) 0 j := by
  have hb : madeB f m n j = madeB f (m + 1) 0 j := by unfold madeB; rw [decide_eq_decide]; omega
  constructor
  · unfold madeX; rw [hb]
  · unfold madeL; rw [hb]
theorem made_first (f : Nat → Nat) (n j : Nat) : zeroN j = madeX f n 1 0 j ∧ zeroN j = madeL f 1 0 j := by
  have hb : madeB f 1 0 j = false := decide_eq_false (by omega)
  constructor
  · unfold madeX; rw [hb]; rfl
  · unfold madeL; rw [hb]; rfl
theorem made_last {f : Nat → Nat} {n j : Nat} (h : f j ≤ 15) : madeX f n 16 0 j = codeB f n j ∧ madeL f 16 0 j = f j := by
  by_cases h0 : 0 < f j
  · have hb : madeB f 16 0 j = true := decide_eq_true (by omega)
    constructor
    · unfold madeX; rw [hb, if_pos rfl]
    · unfold madeL; rw [hb, if_pos rfl]
  · have hb : madeB f 16 0 j = false := decide_eq_false (by omega)
    constructor
    · unfold madeX; rw [hb, if_neg (by decide)]; unfold codeB; rw [if_pos (by omega)]
    · unfold madeL; rw [hb, if_neg (by decide)]; omega
theorem st_next (f : Nat → Nat) (n m : Nat) (hm : 0 < m) : stN f n m n = stN f n (m + 1) 0 := by
  obtain ⟨k, rfl⟩ : ∃ k, m = k + 1 := ⟨m - 1, by omega⟩
  unfold stN
  rw [Nat.add_sub_cancel, Nat.add_sub_cancel]
  simp only [sumTo, inN]; omega
theorem st_le {f : Nat → Nat} {n m i : Nat} (hi : i ≤ n) (hm : 0 < m) (hm2 : m ≤ 15) (h : ∀ j, j < n → f j ≤ 15) (ha : allN f n ≤ 32768) : stN f n m i ≤ 32768 := by
  rw [allN_sum f n h] at ha
  have h1 := inN_mono f m hi
  have h2 := sumTo_mono f n hm2
  obtain ⟨k, rfl⟩ : ∃ k, m = k + 1 := ⟨m - 1, by omega⟩
  have e : sumTo f n (k + 1) = sumTo f n k + inN f (k + 1) n := rfl
  unfold stN
  rw [Nat.add_sub_cancel]
  omega
theorem wrap_small (q : Nat) (h : q ≤ 32768) : wrap64 (q : Int) % 4294967296 = (q : Int) := by unfold wrap64; omega
set_option maxRecDepth 100000 in
set_option maxHeartbeats 2000000 in
theorem made_any (w : World) (A : Option Addr) (n c : Nat) (f : Nat → Nat) (hr : RdB w w.heap.size A n f) (hn : n ≤ 1000) (h15 : ∀ j, j < n → f j ≤ 15) (ha : allN f n ≤ 32768) :
    Calls Try.prog 37 #[.slice A n c] w fun e w' => e = .returned (.slice (some ⟨w.heap.size, 0, none⟩) n n) ∧ Below w.heap.size w w' ∧ RowC w' w.heap.size n (codeB f n) f := by
  obtain ⟨i0, hi, hz0, hz1, hz2⟩ := info_parts infoCode
  have hmk : ∀ u : World, (Instr.makeSlice 48 (.int .i64 (n : Int)) (.int .i64 (n : Int))).run Try.prog u =
      .ok (.slice (some ⟨u.heap.size, 0, none⟩) n n) (u.alloc (.cells (madeCells #[.int .u32 0, .int .u8 0] (n * 2)) 53)) := fun u => by
    have h := run_make (P := Try.prog) u 48 53 i0 (.agg #[.int .u32 0, .int .u8 0]) Try.underlying48 hi hz0 .i64 .i64 (n : Int) (n : Int) (by omega) (Int.le_refl _) (by rw [hz2]; omega) (by omega)
    rw [Int.toNat_natCast] at h
    simpa [hz1, Value.cells] using h
  have HR := Lib.hid hr; have H15 := Lib.hid h15; have HA := Lib.hid ha
  clear hr h15 ha
  go_enter Try.func37, Try.ntmps37
  go_wp2
  clear hmk
  go_loopw [4, 5, 6] (fun a m _ wr => ∃ k : Nat, 1 ≤ k ∧ k ≤ 16 ∧ m = .int .i64 k ∧ a = .int .i64 (stN f n k 0 : Nat) ∧ RowC wr w.heap.size n (madeX f n k 0) (madeL f k 0) ∧ Below w.heap.size w wr) (fun _ m _ _ => 16 - (intOf m).toNat)
  case atStart =>
    exact ⟨1, Nat.le_refl _, by omega, rfl, rfl, (rowC_made w n).ext (fun j _ => (made_first f n j).1) (fun j _ => (made_first f n j).2), (Below.refl _ _).alloc (Nat.le_refl _) _⟩
  case round =>
    obtain ⟨k, hk1, hk, rfl, rfl, hrow, hb⟩ := hrel
    obtain ⟨wo, rfl⟩ : ∃ wo : World, wo = wr := ⟨_, rfl⟩
    by_cases hlt : k < 16
    · have hd : decide ((k : Int) ≤ 15) = true := by simp; omega
      have hk256 : (k : Int) % 256 = k := by omega
      have HROW := Lib.hid hrow; have HB := Lib.hid hb
      clear hrow hb
      obtain ⟨a0, ha0⟩ : ∃ a, a = stN f n k 0 := ⟨_, rfl⟩
      have HA0 := Lib.hid ha0
      rw [← ha0]
      clear ha0
      go_wp2
      go_loopw [4, 6] (fun a i wi => ∃ j : Nat, j ≤ n ∧ i = .int .i64 j ∧ a = .int .i64 (stN f n k j : Nat) ∧ RowC wi w.heap.size n (madeX f n k j) (madeL f k j) ∧ Below w.heap.size w wi) (fun _ i _ => n - (intOf i).toNat)
      case atStart => exact ⟨0, Nat.zero_le _, rfl, by rw [HA0.out], HROW.out, HB.out⟩
      case round =>
        obtain ⟨j, hj, rfl, rfl, hrow, hb⟩ := hrel
        have hst := st_le hj hk1 (by omega) H15.out HA.out
        by_cases hlt2 : j < n
        · obtain ⟨b, o, rfl, hbl, hc⟩ := (HR.out.below hb (Nat.le_refl _)).2 (by omega)
          have hcell := hc j hlt2
          clear hc
          have hf8 := HR.out.1 j
          by_cases he : f j = k
          · have hpt := pt_pos (m := k) (by omega)
            have hptl := pt_le k
            have hc1 := (hrow.cell hlt2).1
            have hc2 := (hrow.cell hlt2).2
            have hf1 := hrow.frozen (j * 2)
            have hf2 := hrow.frozen (j * 2 + 1)
            have hcode : codeB f n j = stN f n k j / pt k := by unfold codeB; rw [if_neg (by omega), he]
            have hstep : stN f n k (j + 1) = stN f n k j + pt k := by unfold stN; simp only [inN]; rw [if_pos he]; omega
            have HROW2 := Lib.hid hrow; have HB2 := Lib.hid hb; have HC := Lib.hid hcode; have HS := Lib.hid hstep; have HE := Lib.hid he
            have he2 : ((f j : Nat) : Int) = (k : Int) := by omega
            rw [he2] at hcell
            have hkk : ((k : Int) == (k : Int)) = true := by simp
            clear hrow hb hcode hstep he he2
            obtain ⟨a, hae⟩ : ∃ a, a = stN f n k j := ⟨_, rfl⟩
            obtain ⟨p, hpe⟩ : ∃ p, p = pt k := ⟨_, rfl⟩
            have HAE := Lib.hid hae; have HPE := Lib.hid hpe
            rw [← hae] at hst ⊢
            rw [← hpe] at hpt hptl
            clear hae hpe
            have hdiv : a / p ≤ 32768 := Nat.le_trans (Nat.div_le_self _ _) hst
            go_wp2_with (go_at_call 50; refine (part_any _ k (by omega)).mono ?_; rintro e w' ⟨rfl, rfl⟩; rw [← HPE.out])
            go_roundw
            case rel =>
              have hdv : wrap64 ((a : Int) / (p : Int)) % 4294967296 = ((codeB f n j : Nat) : Int) := by
                rw [HC.out, ← HAE.out, ← HPE.out, ← Int.natCast_ediv]
                exact wrap_small _ hdiv
              have hset := HROW2.out.set j (codeB f n j) k
              rw [(made_step HE.out (by omega)).1, (made_step (n := n) HE.out (by omega)).2] at hset
              refine ⟨j + 1, by omega, by go_num, val_int (by rw [HS.out, ← HAE.out, ← HPE.out]; omega), by rw [hdv]; exact hset, ?_⟩
              exact (HB2.out.setCell (Nat.le_refl _) _).setCell (Nat.le_refl _) _
            case measure => simp [intOf]; omega
          · have hstep : stN f n k (j + 1) = stN f n k j := by unfold stN; simp only [inN]; rw [if_neg he]; omega
            have hno : (((f j : Nat) : Int) == (k : Int)) = false := by simp; omega
            have hm := made_skip (n := n) he
            have HROW2 := Lib.hid hrow; have HB2 := Lib.hid hb; have HS := Lib.hid hstep; have HM := Lib.hid hm
            clear hrow hb hstep hm
            go_wp2
            go_roundw
            case rel =>
              refine ⟨j + 1, by omega, by go_num, by rw [HS.out], ?_, HB2.out⟩
              rw [← HM.out.1, ← HM.out.2]; exact HROW2.out
            case measure => simp [intOf]; omega
        · obtain rfl : j = n := by omega
          have HROW2 := Lib.hid hrow; have HB2 := Lib.hid hb
          have HN := Lib.hid (st_next f j k hk1)
          clear hrow hb hlt2 hj
          go_wp2
          go_roundw
          case rel => exact ⟨k + 1, by omega, by omega, by go_num, by rw [HN.out], HROW2.out.ext (fun i hi => (made_next hi).1) (fun i hi => (made_next (n := j) hi).2), HB2.out⟩
          case measure => simp [intOf]; omega
    · obtain rfl : k = 16 := by omega
      have HROW := Lib.hid hrow; have HB := Lib.hid hb
      clear hrow hb hlt hk
      go_wp2
      go_ret
      exact ⟨rfl, HB.out, HROW.out.ext (fun j hj => (made_last (H15.out j hj)).1) (fun j hj => (made_last (n := n) (H15.out j hj)).2)⟩
end Go.Proofs.Ytedjapamimhglaa
