/-
  Layer 3 (canon): the statements' own are, eight, alive and begins.
-/
import Derived.Test.YtghaffclincpnaaCanonImpl
namespace Go.Proofs.Ytghaffclincpnaa
open Go.RowKit
theorem RdC.ext {w : World} {B n : Nat} {A : Option Addr} {x l x' l' : Nat → Nat} (h : RdC w B A n x l) (e : ∀ j, j < n → x j = x' j ∧ l j = l' j) (hx : ∀ j, x' j < 4294967296) (hl : ∀ j, l' j < 256) : RdC w B A n x' l' := by
  refine ⟨⟨hx, hl⟩, fun hn => ?_⟩
  obtain ⟨b, o, rfl, hb, hc⟩ := h.2 hn
  exact ⟨b, o, rfl, hb, fun j hj => by rw [← (e j hj).1, ← (e j hj).2]; exact hc j hj⟩
def codesL (n : Nat) (x l : Nat → Nat) : List Value := (List.range n).flatMap fun j => [.int .u32 (x j : Int), .int .u8 (l j : Int)]
theorem codesL_get (n : Nat) (x l : Nat → Nat) (j : Nat) (hj : j < n) : (codesL n x l)[j * 2]? = some (.int .u32 (x j : Int)) ∧ (codesL n x l)[j * 2 + 1]? = some (.int .u8 (l j : Int)) := by
  induction n with
  | zero => omega
  | succ n ih =>
    have e : codesL (n + 1) x l = codesL n x l ++ [.int .u32 (x n : Int), .int .u8 (l n : Int)] := by
      unfold codesL; rw [List.range_succ]; simp
    have hlen : ∀ m, (codesL m x l).length = m * 2 := by
      intro m
      induction m with
      | zero => rfl
      | succ m ih =>
        have e : codesL (m + 1) x l = codesL m x l ++ [.int .u32 (x m : Int), .int .u8 (l m : Int)] := by
          unfold codesL; rw [List.range_succ]; simp
        rw [e, List.length_append, ih]; simp; omega
    rw [e]
    rcases Nat.eq_or_lt_of_le (Nat.le_of_lt_succ hj) with h | h
    · subst h
      constructor
      · rw [List.getElem?_append_right (by rw [hlen]; omega), hlen]; simp
      · rw [List.getElem?_append_right (by rw [hlen]; omega), hlen, show j * 2 + 1 - j * 2 = 1 by omega]; rfl
    · have := ih h
      rw [List.getElem?_append_left (by rw [hlen]; omega), List.getElem?_append_left (by rw [hlen]; omega)]
      exact this
theorem rowC_new (w : World) (n : Nat) (x l : Nat → Nat) (cs : Array Value) (h : cs = (codesL n x l).toArray) : RowC (w.alloc (.cells cs 26)) w.heap.size n x l := by
  subst h
  exact ⟨_, heap_alloc_new w _, fun j hj => by simpa using codesL_get n x l j hj⟩
set_option maxRecDepth 100000 in
set_option maxHeartbeats 1000000 in
theorem are_yes (w : World) (A A2 : Option Addr) (n c c2 : Nat) (f x l : Nat → Nat) (hr : RdB w w.heap.size A n f) (h2 : RdC w w.heap.size A2 n x l) (hn : n ≤ 1000) (h0 : checkE f n 15 = 0) (he : ∀ j, j < n → x j = codeX f n 15 j ∧ l j = f j) :
    Calls Try.prog 9 #[.slice A n c, .slice A2 n c2] w fun e w' => e = .returned (.bool true) ∧ Below w.heap.size w w' := by
  have HF := Lib.hid hr.1
  have H2 := Lib.hid (h2.ext he (codeX_lt f n 15) HF.out)
  have hl : lenC f n 15 = n := by unfold lenC; rw [if_pos h0]
  have hc := codes_any w A n c f 15 hr (by omega)
  rw [hl, h0] at hc
  have HC := Lib.hid hc
  clear hr h2 h0 he hl hc
  go_enter Try.func9, Try.ntmps9
  go_wp2_with fail
  refine HC.out.mono ?_
  rintro e w1 ⟨A', c', rfl, hb, ho⟩
  have HB := Lib.hid hb
  have H1 := Lib.hid (ho.rd (codeX_lt f n 15) HF.out)
  have H3 := Lib.hid ((H2.out.below hb (Nat.le_refl _)).more (B' := w1.heap.size) hb.size)
  clear hb ho
  go_wp2
  go_loopw [7] (fun i wr => ∃ j : Nat, j ≤ n ∧ i = .int .i64 j ∧ Below w1.heap.size w1 wr) (fun i _ => n - (intOf i).toNat)
  case atStart => exact ⟨0, Nat.zero_le _, rfl, Below.refl _ _⟩
  case round =>
    obtain ⟨j, hj, rfl, hb⟩ := hrel
    by_cases hlt : j < n
    · have hd : decide ((j : Int) < (n : Int)) = true := by simp; omega
      obtain ⟨b1, o1, rfl, _, hc1⟩ := (H1.out.below hb (Nat.le_refl _)).at (by omega)
      obtain ⟨b2, o2, rfl, _, hc2⟩ := (H3.out.below hb (Nat.le_refl _)).at (by omega)
      obtain ⟨k1, k2⟩ := hc1 j hlt
      obtain ⟨k3, k4⟩ := hc2 j hlt
      have HB2 := Lib.hid hb
      clear hb hc1 hc2
      go_wp2
      go_quiet (fail)
      go_wp2
      go_roundw
      case rel => exact ⟨j + 1, by omega, by go_num, below_drewN HB2.out _⟩
      case measure => simp [intOf]; omega
    · obtain rfl : j = n := by omega
      have HB2 := Lib.hid (HB.out.trans (hb.mono HB.out.size))
      clear hb hlt hj
      go_wp2
      go_ret
      exact ⟨rfl, HB2.out⟩
def eightN (j : Nat) : Nat := [3, 3, 3, 3, 3, 2, 4, 4].getD j 0
def eightX (j : Nat) : Nat := [2, 3, 4, 5, 6, 0, 14, 15].getD j 0
theorem small_of {g : Nat → Nat} {n b : Nat} (h : ∀ j, j < n → g j < b) (h2 : ∀ j, n ≤ j → g j = 0) (hb : 0 < b) (j : Nat) : g j < b := by
  rcases Nat.lt_or_ge j n with hj | hj
  · exact h j hj
  · rw [h2 j hj]; exact hb
theorem eightN_lt : ∀ j, eightN j < 256 := small_of (n := 8) (by decide) (fun j hj => by unfold eightN; rw [List.getD_eq_getElem?_getD, List.getElem?_eq_none (by simpa using hj)]; rfl) (by omega)
theorem eightX_lt : ∀ j, eightX j < 4294967296 := small_of (n := 8) (by decide) (fun j hj => by unfold eightX; rw [List.getD_eq_getElem?_getD, List.getElem?_eq_none (by simpa using hj)]; rfl) (by omega)
theorem eight_ok : checkE eightN 8 15 = 0 := by decide +kernel
theorem eight_codes : ∀ j, j < 8 → eightX j = codeX eightN 8 15 j ∧ eightN j = eightN j := by decide +kernel
theorem eight_any (w : World) : Calls Try.prog 19 #[] w fun e w' => ∃ A, e = .returned (.slice A 8 8) ∧ Below w.heap.size w w' ∧ RdB w' w'.heap.size A 8 eightN := by
  go_enter Try.func19, Try.ntmps19
  go_wp2
  go_ret
  exact ⟨_, rfl, (Below.refl _ _).alloc (Nat.le_refl _) _, (row_new w 8 eightN _ rfl).rd eightN_lt⟩
set_option maxRecDepth 100000 in
set_option maxHeartbeats 1000000 in
theorem alive_any (w : World) : Calls Try.prog 11 #[] w fun e w' => e = .returned (.bool true) ∧ Below w.heap.size w w' := by
  go_enter Try.func11, Try.ntmps11
  go_wp2_with fail
  refine (eight_any w).mono ?_
  rintro e w1 ⟨A, rfl, h1, r1⟩
  have H1 := Lib.hid h1
  have R1 := Lib.hid r1
  clear h1 r1
  go_wp2_with fail
  have hrow := rowC_new w1 8 eightX eightN _ rfl
  refine (are_yes _ A _ 8 8 8 eightN eightX eightN ((R1.out.below ((Below.refl _ _).alloc (Nat.le_refl _) _) (Nat.le_refl _)).more (by simp)) (hrow.rd eightX_lt eightN_lt) (by omega) eight_ok eight_codes).mono ?_
  rintro e w2 ⟨rfl, h2⟩
  have H2 := Lib.hid (((H1.out.alloc H1.out.size _).trans (h2.mono (by have := H1.out.size; simp; omega))))
  clear h2
  go_wp2
  go_ret
  exact ⟨rfl, H2.out⟩
end Go.Proofs.Ytghaffclincpnaa
