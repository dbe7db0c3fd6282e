/-
  Layer 3 (canon): what the document's own Codes answers.
-/
import Derived.Test.YtghaffclincpnaaCanonMade
namespace Go.Proofs.Ytghaffclincpnaa
open Go.RowKit
/-- How many codes are told. -/
def lenC (f : Nat → Nat) (n : Nat) (most : Int) : Nat := if checkE f n most = 0 then n else 0
theorem codeB_lt {f : Nat → Nat} {n : Nat} {most : Int} (h : checkE f n most = 0) (j : Nat) (hj : j < n) : codeB f n j < 4294967296 := by
  obtain ⟨_, h15, _, hb, ha, _⟩ := check_ok h
  have := fits_code hj (fun j hj => by have := hb j hj; omega) ha
  have h2 : (2 : Nat) ^ f j ≤ 2 ^ 15 := Nat.pow_le_pow_right (by omega) (by have := hb j hj; omega)
  have h3 : (2 : Nat) ^ 15 = 32768 := rfl
  omega
/-- The codes, and 0 where there is no symbol. -/
def codeX (f : Nat → Nat) (n : Nat) (most : Int) (j : Nat) : Nat := if checkE f n most = 0 ∧ j < n then codeB f n j else 0
theorem codeX_lt (f : Nat → Nat) (n : Nat) (most : Int) (j : Nat) : codeX f n most j < 4294967296 := by
  unfold codeX; split
  · rename_i h; exact codeB_lt h.1 j h.2
  · omega
theorem codeX_in {f : Nat → Nat} {n : Nat} {most : Int} (h : checkE f n most = 0) (j : Nat) (hj : j < n) : codeX f n most j = codeB f n j := by
  unfold codeX; rw [if_pos ⟨h, hj⟩]
set_option maxHeartbeats 1000000 in
theorem rcodes_any (w : World) (A : Option Addr) (n c : Nat) (f : Nat → Nat) (most : Int) (hr : RdB w w.heap.size A n f) :
    Calls Try.prog 13 #[.slice A n c, .int .i64 most] w fun e w' => ∃ A' c', e = .returned (.tuple #[.slice A' (lenC f n most) c', .int .i64 (checkE f n most)]) ∧ Below w.heap.size w w' ∧ OutC w.heap.size w' A' (lenC f n most) (codeX f n most) f := by
  have HR := Lib.hid hr
  clear hr
  by_cases h0 : checkE f n most = 0
  · obtain ⟨_, h15, hn, hb, ha, _⟩ := check_ok h0
    have hc := made_any w A n c f HR.out (by omega) (fun j hj => by have := hb j hj; omega) ha
    have HC := Lib.hid hc; have H0 := Lib.hid h0
    have hl : lenC f n most = n := by unfold lenC; rw [if_pos h0]
    have hcr := rcheck_any w _ A n c f most HR.out
    rw [h0] at hcr
    have HCR := Lib.hid hcr
    rw [hl, h0]
    clear hc hcr hb ha hl h0
    go_enter Try.func13, Try.ntmps13
    go_wp2_with fail
    refine HCR.out.mono ?_
    rintro e w' ⟨rfl, rfl⟩
    go_wp2_with fail
    refine HC.out.mono ?_
    rintro e w1 ⟨rfl, hb, hrow⟩
    have HB := Lib.hid hb; have HROW := Lib.hid hrow
    clear hb hrow
    go_wp2
    go_ret2
    exact ⟨_, _, rfl, HB.out, .inr ⟨_, rfl, Nat.le_refl _, HROW.out.ext (fun j hj => (codeX_in H0.out j hj).symm) fun _ _ => rfl⟩⟩
  · have hl : lenC f n most = 0 := by unfold lenC; rw [if_neg h0]
    have hne : (checkE f n most != 0) = true := by simpa using h0
    rw [hl]
    obtain ⟨E, hE⟩ : ∃ E, E = checkE f n most := ⟨_, rfl⟩
    have hcr := rcheck_any w _ A n c f most HR.out
    rw [← hE] at hcr hne ⊢
    have HCR := Lib.hid hcr
    clear hcr h0 hl hE
    go_enter Try.func13, Try.ntmps13
    go_wp2_with fail
    refine HCR.out.mono ?_
    rintro e w' ⟨rfl, rfl⟩
    go_wp2
    go_ret2
    exact ⟨_, _, rfl, Below.refl _ _, .inl rfl⟩
end Go.Proofs.Ytghaffclincpnaa
