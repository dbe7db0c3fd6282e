/-
  Layer 2 (sums): the statements' own digits and alive.
-/
import Derived.Test.YtpnnnmkonodbiaaSumAdl
import Derived.Lib.SlBytesConst
namespace Go.Proofs.Ytpnnnmkonodbiaa
open Go.RowKit
def digN (j : Nat) : Nat := if j < 9 then 49 + j else 0
theorem digN_lt (j : Nat) : digN j < 256 := by unfold digN; split <;> omega
theorem rd_row {w : World} {g n c d : Nat} {f : Nat → Nat} {cs : Array Value} (h : w.heap[g]? = some (.cells cs 5 (c, d))) (hcs : cs = (bytesL n f).toArray) (hf : ∀ j, f j < 256) : RdB w w.heap.size (some ⟨g, 0, none⟩) n f := by
  refine ⟨hf, fun _ => ⟨g, 0, rfl, (Array.getElem?_eq_some_iff.1 h).1, fun j hj => ?_⟩⟩
  rw [Nat.zero_add, cell_of_row w g j _ _ _ h, hcs]
  simp [bytesL, hj]
theorem digits_any (w : World) : Calls Try.prog 18 #[] w fun e w' => ∃ A, e = .returned (.slice A 9 9) ∧ Below w.heap.size w w' ∧ RdB w' w'.heap.size A 9 digN := by
  have kc := fun (w : World) (C : Array Value) (n c : Nat) => Lib.run_convert_bytes_const (P := Try.prog) w 28 5 C n c Try.underlying28 Try.underlying5
  go_enter Try.func18, Try.ntmps18
  go_wp2
  go_ret
  exact ⟨_, rfl, (Below.refl _ _).alloc (Nat.le_refl _) _, rd_row (heap_alloc_new w _) rfl digN_lt⟩
theorem crc_digits : crcV rowN 0 digN 9 = 3421780262 := by decide +kernel
theorem adl_digits : adlV 1 digN 9 = 152961502 := by decide +kernel
set_option maxHeartbeats 1000000 in
set_option maxRecDepth 100000 in
theorem alive_any (w : World) : Calls Try.prog 10 #[] w fun e w' => e = .returned (.bool true) ∧ Below w.heap.size w w' := by
  go_enter Try.func10, Try.ntmps10
  go_wp2_with fail
  refine (table_any w).mono ?_
  rintro e w1 ⟨rfl, h1⟩
  have H1 := Lib.hid h1
  clear h1
  go_wp2_with fail
  refine (digits_any w1).mono ?_
  rintro e w2 ⟨A, rfl, h2, r2⟩
  have H2 := Lib.hid (H1.out.trans (h2.mono H1.out.size))
  have R2 := Lib.hid r2
  clear h2 r2
  go_wp2_with fail
  refine (crc_any w2 _ rowN 0 A 9 9 digN row_lt (by omega) R2.out (Nat.le_refl _) (by omega)).mono ?_
  rintro e w3 ⟨rfl, h3⟩
  rw [crc_digits]
  have H3 := Lib.hid (H2.out.trans (h3.mono H2.out.size))
  clear h3
  go_wp2_with fail
  refine (digits_any w3).mono ?_
  rintro e w4 ⟨A4, rfl, h4, r4⟩
  have H4 := Lib.hid (H3.out.trans (h4.mono H3.out.size))
  have R4 := Lib.hid r4
  clear h4 r4
  go_wp2_with fail
  refine (adl_any w4 _ 1 A4 9 9 digN (by omega) R4.out (by omega)).mono ?_
  rintro e w5 ⟨rfl, rfl⟩
  rw [adl_digits]
  go_wp2
  go_ret
  exact ⟨rfl, H4.out⟩
end Go.Proofs.Ytpnnnmkonodbiaa
