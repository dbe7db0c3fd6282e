/-
  Layer 7 (match): what Long and Find answer: the program's and the document's own.
-/
import Derived.Test.YtkgpbdlhjhbijaaMatBst
namespace Go.Proofs.Ytkgpbdlhjhbijaa
open Go.RowKit Go.ChangeShapes Go.WideShapes Go.ChangeAt Go.Joins
def lonE (n : Nat) (a p : Int) : Int := if 131072 < n then 4 else if 0 ≤ a ∧ a ≤ (n : Int) ∧ 0 ≤ p ∧ p < a then 0 else 2
def lonV (f : Nat → Nat) (n : Nat) (a p : Int) : Int := if lonE n a p = 0 then (matN f n a.toNat p.toNat : Nat) else 0
def finT (f : Nat → Nat) (n : Nat) (a s h : Int) : Nat × Nat := if ¬ 131072 < n ∧ 0 ≤ a ∧ a ≤ (n : Int) ∧ 1 ≤ s ∧ s ≤ 32768 ∧ 0 ≤ h ∧ h ≤ 256 then bstN f n a.toNat s.toNat a.toNat h.toNat 0 0 else (0, 0)
def finE (f : Nat → Nat) (n : Nat) (a s h : Int) : Int := if 131072 < n then 4 else if 0 ≤ a ∧ a ≤ (n : Int) ∧ 1 ≤ s ∧ s ≤ 32768 ∧ 0 ≤ h ∧ h ≤ 256 then (if (finT f n a s h).2 = 0 then 6 else 0) else 2
theorem fin_zero (f : Nat → Nat) (n : Nat) (a s h : Int) (h0 : (finT f n a s h).2 = 0) : finT f n a s h = (0, 0) := by
  unfold finT at h0 ⊢
  split
  · rename_i hc
    rw [if_pos hc] at h0
    rcases bstN_found (f := f) (L := n) (a := a.toNat) (size := s.toNat) a.toNat h.toNat 0 0 (Nat.le_refl _) (.inl ⟨rfl, rfl⟩) with ⟨h1, h2⟩ | ⟨_, _, _, h3, _⟩
    · exact Prod.ext h1 h2
    · omega
  · rfl
set_option maxRecDepth 100000 in
set_option maxHeartbeats 4000000 in
theorem long7_any (w : World) (B : Nat) (A : Option Addr) (n c : Nat) (f : Nat → Nat) (a p : Int) (hr : RdB w B A n f) (ha1 : -9223372036854775808 ≤ a) (ha2 : a ≤ 9223372036854775807) (hp1 : -9223372036854775808 ≤ p) (hp2 : p ≤ 9223372036854775807) :
    Calls Try.prog 8 #[.slice A n c, .int .i64 a, .int .i64 p] w fun e w' => e = .returned (.tuple #[.int .i64 (lonV f n a p), .int .i64 (lonE n a p)]) ∧ Drw w w' := by
  have HR := Lib.hid hr
  clear hr
  by_cases hn : 131072 < n
  · have e1 : lonE n a p = 4 := if_pos hn
    have e2 : lonV f n a p = 0 := if_neg (by rw [e1]; decide)
    rw [e1, e2]
    have hni : 131072 < (n : Int) := by omega
    clear e1 e2
    go_enter Try.func8, Try.ntmps8
    go_wp2
    go_ret2
    exact ⟨rfl, Drw.refl _⟩
  have hni : ¬ 131072 < (n : Int) := by omega
  by_cases hok : 0 ≤ a ∧ a ≤ (n : Int) ∧ 0 ≤ p ∧ p < a
  · have e1 : lonE n a p = 0 := by unfold lonE; rw [if_neg hn, if_pos hok]
    have e2 : lonV f n a p = (matN f n a.toNat p.toNat : Nat) := if_pos e1
    rw [e1, e2]
    obtain ⟨x1, x2, x3, x4⟩ := hok
    obtain ⟨a, rfl⟩ := Int.eq_ofNat_of_zero_le x1
    obtain ⟨p, rfl⟩ := Int.eq_ofNat_of_zero_le x3
    rw [Int.toNat_natCast, Int.toNat_natCast]
    have HS := Lib.hid (same7_any w B A n c f a p HR.out (by omega) (by omega) (by omega))
    have d1 : decide ((p : Int) < 0) = false := by simp
    have d2 : decide ((a : Int) ≤ (p : Int)) = false := by simp; omega
    have d3 : decide ((n : Int) < (a : Int)) = false := by simp; omega
    have d4 : decide (a ≤ p) = false := by simp; omega
    have d5 : decide (n < a) = false := by simp; omega
    clear e1 e2 ha1 ha2 hp1 hp2
    go_enter Try.func8, Try.ntmps8
    go_wp2_with fail
    refine HS.out.mono ?_
    rintro e w' ⟨rfl, hd⟩
    have HD := Lib.hid hd
    clear hd
    go_wp2
    go_ret2
    exact ⟨rfl, HD.out⟩
  · have e1 : lonE n a p = 2 := by unfold lonE; rw [if_neg hn, if_neg hok]
    have e2 : lonV f n a p = 0 := if_neg (by rw [e1]; decide)
    rw [e1, e2]
    clear e1 e2
    by_cases x1 : p < 0
    · have d1 : decide (p < 0) = true := by simp; omega
      go_enter Try.func8, Try.ntmps8
      go_wp2
      go_ret2
      exact ⟨rfl, Drw.refl _⟩
    have d1 : decide (p < 0) = false := by simp; omega
    by_cases x2 : a ≤ p
    · have d2 : decide (a ≤ p) = true := by simp; omega
      clear hok
      go_enter Try.func8, Try.ntmps8
      go_wp2
      go_ret2
      exact ⟨rfl, Drw.refl _⟩
    have d2 : decide (a ≤ p) = false := by simp; omega
    have d3 : decide ((n : Int) < a) = true := by simp; omega
    have x3 : (n : Int) < a := by omega
    clear hok
    go_enter Try.func8, Try.ntmps8
    go_wp2
    go_ret2
    exact ⟨rfl, Drw.refl _⟩
end Go.Proofs.Ytkgpbdlhjhbijaa
