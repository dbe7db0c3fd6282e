/-
  Layer 1 (bits): what bits.Align answers for every pen, and that the statements' own example (alive) is so.
-/
import Derived.Test.YtniekmnjnnkieaaPut
namespace Go.Proofs.Ytniekmnjnnkieaa
open Go.RowKit
theorem putF_nought (f : Nat → Nat) (k : Nat) : ∀ i, putF f k 0 i = f
  | 0 => rfl
  | i + 1 => by
    show stepF (putF f k 0 i) (k + i) (0 / 2 ^ i % 2) = f
    rw [putF_nought f k i]
    funext j
    simp only [stepF, upd, Nat.zero_div, Nat.zero_mod, Nat.zero_mul, Nat.add_zero]
    split
    · rename_i h; rw [h]
    · rfl
set_option maxHeartbeats 1000000 in
theorem align_bad (w : World) (A : Option Addr) (n c : Nat) (f : Nat → Nat) (k : Int) (hr : RdB w w.heap.size A n f) (hc : checkE f n k = 8) :
    Calls Try.prog 12 #[.agg #[.slice A n c, .int .i64 k]] w fun e w' => e = .returned (.tuple #[.agg #[.slice none 0 0, .int .i64 0], .int .i64 8]) ∧ Below w.heap.size w w' := by
  have HR := Lib.hid hr
  have HC := Lib.hid hc
  clear hr hc
  go_enter Try.func12, Try.ntmps12
  go_wp2_with fail
  refine (check_any _ A n c f k (two_rd HR.out _ _)).mono ?_
  rintro e w2 ⟨rfl, hb⟩
  have HB := Lib.hid (hb.mono (B' := w.heap.size + 1 + 1) (by simp))
  have hlt : w.heap.size + 1 + 1 ≤ w2.heap.size := by have := hb.size; simpa using this
  clear hb
  rw [HC.out]
  obtain ⟨k2, k3, k4, k5, k6, k7⟩ := two_blocks HB.out
  go_wp2
  refine bodyPost_ret (v := .tuple #[.agg #[.slice none 0 0, .int .i64 0], .int .i64 8]) ?_ rfl ⟨rfl, two_below HB.out _ _⟩
  simp [results, Try.results12, go_sem, k2, k3]
set_option maxHeartbeats 1000000 in
theorem align_ok (w : World) (A : Option Addr) (n c : Nat) (f : Nat → Nat) (k : Nat) (hr : RdB w w.heap.size A n f) (hc : checkE f n k = 0) :
    Calls Try.prog 12 #[.agg #[.slice A n c, .int .i64 (k : Int)]] w fun e w' => ∃ g, e = .returned (.tuple #[.agg #[.slice (some ⟨g, 0, none⟩) n n, .int .i64 ((8 * n : Nat) : Int)], .int .i64 0]) ∧
      w.heap.size ≤ g ∧ Below w.heap.size w w' ∧ Row w' g n (zext n f) := by
  obtain ⟨K, hK, hk, hn, hcl⟩ := check_clean hr.1 hc
  obtain rfl : k = K := by omega
  obtain ⟨m, hm⟩ : ∃ m, 8 * n = k + m := ⟨8 * n - k, by omega⟩
  have hm8 : m < 8 := by omega
  have hn1 : n ≤ 2000000 := by omega
  have hmi : (8 : Int) * (n : Int) - (k : Int) = (m : Int) := by omega
  have HR := Lib.hid hr
  have HC := Lib.hid hc
  have HN := Lib.hid hn
  have HM := Lib.hid hm
  have HMI := Lib.hid hmi
  have HCL := Lib.hid hcl
  clear hr hc hn hcl hK hm hmi
  go_enter Try.func12, Try.ntmps12
  go_wp2_with fail
  refine (check_any _ A n c f k (two_rd HR.out _ _)).mono ?_
  rintro e w2 ⟨rfl, hb⟩
  have hr2 := (two_rd HR.out (.cells #[.slice A n c, .int .i64 (k : Int)] 28) (.cells #[.slice none 0 0, .int .i64 0] 28)).below hb (Nat.le_refl _)
  have HR2 := Lib.hid (hr2.more (B' := w2.heap.size) hb.size)
  have HB := Lib.hid (hb.mono (B' := w.heap.size + 1 + 1) (by simp))
  have hlt : w.heap.size + 1 + 1 ≤ w2.heap.size := by have := hb.size; simpa using this
  clear hb hr2
  rw [HC.out]
  obtain ⟨k2, k3, k4, k5, k6, k7⟩ := two_blocks HB.out
  go_wp2_with fail
  rw [HMI.out]
  refine (write_any _ A n c f k m n 0 HR2.out HCL.out hk (by omega) (Nat.le_refl _) (by have := HM.out; omega) (by omega)).mono ?_
  rintro e w3 ⟨g, rfl, hg, hb, hrow⟩
  rw [putF_nought] at hrow
  rw [← HM.out]
  have HB3 := Lib.hid (HB.out.trans (hb.mono (by omega)))
  have HW := Lib.hid hrow
  have hlt3 := hrow.lt
  clear hb hrow k2 k3 k4 k5 k6 k7
  obtain ⟨k2, k3, k4, k5, k6, k7⟩ := two_blocks HB3.out
  go_wp2
  refine bodyPost_ret (v := .tuple #[.agg #[.slice (some ⟨g, 0, none⟩) n n, .int .i64 ((8 * n : Nat) : Int)], .int .i64 0]) ?_ rfl ⟨g, rfl, by omega, two_below HB3.out _ _, ?_⟩
  · simp [results, Try.results12, go_sem, k2, k3]
  · exact (HW.out.other (p := ⟨w.heap.size + 1, 0, none⟩) (by simp; omega) _).other (p := ⟨w.heap.size + 1, 1, none⟩) (by simp; omega) _
/-! ### the example -/
theorem pair_cells {w : World} {g : Nat} {a b : Value} {t : TypeId} (h : w.heap[g]? = some (.cells #[a, b] t (0, 0))) :
    w.cell? ⟨g, 0, none⟩ = some a ∧ w.cell? ⟨g, 1, none⟩ = some b ∧ w.frozen? ⟨g, 0, none⟩ = false ∧ w.frozen? ⟨g, 1, none⟩ = false :=
  ⟨by rw [cell_of_row w g 0 _ t (0, 0) h]; rfl, by rw [cell_of_row w g 1 _ t (0, 0) h]; rfl, by simp [World.frozen?, h], by simp [World.frozen?, h]⟩
def nof (_ : Nat) : Nat := 0
theorem rd_none (w : World) (B : Nat) : RdB w B none 0 nof := ⟨fun _ => by unfold nof; omega, fun h => by omega⟩
theorem check_first : checkE nof 0 ((0 : Nat) : Int) = 0 := by rw [checkE_nat, if_pos]; exact ⟨by omega, by omega, .inl (by omega)⟩
def one3 : Nat → Nat := putF (zext 0 nof) 0 5 3
def one10 : Nat → Nat := putF (zext 1 one3) 3 3 7
theorem one3_lt (j : Nat) : one3 j < 256 := by
  have h : Clean (zext 0 nof) 0 := ⟨fun j => by simp [zext], fun j _ => by simp [zext], by simp [zext]⟩
  exact (h.put 5 3).1 j
theorem one3_0 : one3 0 = 5 := by decide
theorem check_second : checkE one3 1 ((3 : Nat) : Int) = 0 := by rw [checkE_nat, if_pos]; exact ⟨by omega, by omega, .inr (by decide)⟩
theorem fits5 : fitsB ((5 : Nat) : Int) ((3 : Nat) : Int) = true := fitsB_nat.2 ⟨by omega, by omega⟩
theorem fits3 : fitsB ((3 : Nat) : Int) ((7 : Nat) : Int) = true := fitsB_nat.2 ⟨by omega, by omega⟩
set_option maxHeartbeats 1000000 in
theorem ten_any (w : World) : Calls Try.prog 11 #[] w fun e w' => ∃ g, e = .returned (.tuple #[.agg #[.slice (some ⟨g, 0, none⟩) 2 2, .int .i64 10], .bool true]) ∧
      w.heap.size ≤ g ∧ Below w.heap.size w w' ∧ Row w' g 2 one10 := by
  go_enter Try.func11, Try.ntmps11
  go_wp2_with fail
  refine (put_ok _ none 0 0 nof 0 3 1 5 (rd_none _ _) check_first (by omega) (by omega) (by omega) fits5 (by omega) (by omega)).mono ?_
  rintro e w2 ⟨g, rfl, hg, hb, hrow⟩
  have HB := Lib.hid hb
  have HROW := Lib.hid hrow
  have hlt := hrow.lt
  have hsz : w.heap.size + 1 ≤ w2.heap.size := by have := hb.size; simpa using this
  simp only [World.size_alloc] at hg
  clear hb hrow
  go_wp2_with fail
  have hr : RdB (w2.alloc (.cells #[.slice (some ⟨g, 0, none⟩) 1 1, .int .i64 3] 28)) (w2.alloc (.cells #[.slice (some ⟨g, 0, none⟩) 1 1, .int .i64 3] 28)).heap.size (some ⟨g, 0, none⟩) 1 one3 :=
    (Row.alloc HROW.out _).rd one3_lt
  refine (put_ok _ (some ⟨g, 0, none⟩) 1 1 one3 3 7 2 3 hr check_second (by omega) (by omega) (by omega) fits3 (by omega) (by omega)).mono ?_
  rintro e w3 ⟨g3, rfl, hg3, hb3, hrow3⟩
  have HB3 := Lib.hid hb3
  have HROW3 := Lib.hid hrow3
  have hlt3 := hrow3.lt
  simp only [World.size_alloc] at hg3
  have hsz3 : w2.heap.size + 1 ≤ w3.heap.size := by have := hb3.size; simpa using this
  obtain ⟨k2, k3, k4, k5⟩ := pair_cells ((hb3.block w2.heap.size (by simp)).trans (heap_alloc_new _ _))
  have hblk := (hb3.block w.heap.size (by simp; omega)).trans ((Below.heap_alloc w2 _ w.heap.size (by omega)).trans ((HB.out.block w.heap.size (by simp)).trans (heap_alloc_new _ _)))
  obtain ⟨e1, e2, e3, e4⟩ := pair_cells hblk
  clear hb3 hrow3 hr hblk
  go_wp2
  refine bodyPost_ret (v := .tuple #[.agg #[.slice (some ⟨g3, 0, none⟩) 2 2, .int .i64 10], .bool true]) ?_ rfl ⟨g3, rfl, by omega, ?_, ?_⟩
  · simp [results, Try.results11, go_sem, e1, e2]
  · have h1 : Below w.heap.size w w2 := ((Below.refl _ _).alloc (Nat.le_refl _) _).trans (HB.out.mono (by simp))
    have h2 : Below w.heap.size w w3 := (h1.alloc (by omega) _).trans (HB3.out.mono (by simp; omega))
    exact (((h2.setCell (by show w.heap.size ≤ w2.heap.size; omega) _).setCell (by show w.heap.size ≤ w2.heap.size; omega) _).setCell (Nat.le_refl _) _).setCell (Nat.le_refl _) _
  · exact (((HROW3.out.other (p := ⟨w2.heap.size, 0, none⟩) (by show g3 ≠ w2.heap.size; omega) _).other (p := ⟨w2.heap.size, 1, none⟩) (by show g3 ≠ w2.heap.size; omega) _).other (p := ⟨w.heap.size, 0, none⟩) (by show g3 ≠ w.heap.size; omega) _).other (p := ⟨w.heap.size, 1, none⟩) (by show g3 ≠ w.heap.size; omega) _
theorem row_new (w : World) (L : Nat) (f : Nat → Nat) (cs : Array Value) (h : cs = (bytesL L f).toArray) : Row (w.alloc (.cells cs 5)) w.heap.size L f := by subst h; exact heap_alloc_new _ _
def two181 (j : Nat) : Nat := if j = 0 then 181 else if j = 1 then 3 else 0
theorem two181_lt (j : Nat) : two181 j < 256 := by unfold two181; split <;> (try split) <;> omega
theorem one10_lt (j : Nat) : one10 j < 256 := by
  have h : Clean (zext 1 one3) 3 := ⟨fun j => by unfold zext; split; exact one3_lt j; omega, fun j hj => by unfold zext; rw [if_neg (by omega)], by decide⟩
  exact (h.put 3 7).1 j
set_option maxHeartbeats 1000000 in
theorem alive_any (w : World) : Calls Try.prog 15 #[] w fun e w' => e = .returned (.bool true) ∧ Below w.heap.size w w' := by
  go_enter Try.func15, Try.ntmps15
  go_wp2_with fail
  refine (ten_any _).mono ?_
  rintro e w2 ⟨g, rfl, hg, hb, hrow⟩
  have HB := Lib.hid hb
  have HROW := Lib.hid hrow
  have hlt := hrow.lt
  have hsz : w.heap.size ≤ w2.heap.size := hb.size
  clear hb hrow
  go_wp2_with fail
  have hrow2 : Row ((w2.alloc (.cells #[.slice (some ⟨g, 0, none⟩) 2 2, .int .i64 10] 28)).alloc (.cells #[.int .u8 181, .int .u8 3] 5)) (w2.heap.size + 1) 2 two181 := by
    have h := row_new (w2.alloc (.cells #[.slice (some ⟨g, 0, none⟩) 2 2, .int .i64 10] 28)) 2 two181 #[.int .u8 181, .int .u8 3] rfl
    rwa [World.size_alloc] at h
  refine (take_ok _ _ _ 2 2 two181 4 6 (hrow2.rd two181_lt) (by omega) (by omega) (by omega)).mono ?_
  rintro e w3 ⟨rfl, rfl⟩
  have hnum : ((numN two181 4 6 : Nat) : Int) = 59 := by decide
  rw [hnum]
  have hs := run_str (((HROW.out.alloc (.cells #[.slice (some ⟨g, 0, none⟩) 2 2, .int .i64 10] 28)).alloc (.cells #[.int .u8 181, .int .u8 3] 5)).rd one10_lt) 2
  rw [show strB 2 one10 = ⟨#[29, 0]⟩ by decide] at hs
  clear hrow2 hnum
  go_wp2
  go_ret
  exact ⟨rfl, (HB.out.alloc hsz _).alloc (by simp; omega) _⟩
end Go.Proofs.Ytniekmnjnnkieaa
