/-
  Layer 7 (match): what Long and Find answer: the program's and the document's own.
-/
import Derived.Test.YtihfcjehpmiolaaMatBst
namespace Go.Proofs.Ytihfcjehpmiolaa
open Go.RowKit Go.ChangeShapes Go.WideShapes Go.ChangeAt Go.Joins
def lonE (n : Nat) (a p : Int) : Int := if 131072 < n then 4 else if 0 ≤ a ∧ a ≤ (n : Int) ∧ 0 ≤ p ∧ p < a then 0 else 2
def lonV (f : Nat → Nat) (n : Nat) (a p : Int) : Int := if lonE n a p = 0 then (matN f n a.toNat p.toNat : Nat) else 0
def finT (f : Nat → Nat) (n : Nat) (a s h : Int) : Nat × Nat := if ¬ 131072 < n ∧ 0 ≤ a ∧ a ≤ (n : Int) ∧ 1 ≤ s ∧ s ≤ 32768 ∧ 0 ≤ h ∧ h ≤ 256 then bstN f n a.toNat s.toNat a.toNat h.toNat 0 0 else (0, 0)
def finE (f : Nat → Nat) (n : Nat) (a s h : Int) : Int := if 131072 < n then 4 else if 0 ≤ a ∧ a ≤ (n : Int) ∧ 1 ≤ s ∧ s ≤ 32768 ∧ 0 ≤ h ∧ h ≤ 256 then (if (finT f n a s h).2 = 0 then 6 else 0) else 2
theorem fin_zero (f : Nat → Nat) (n : Nat) (a s h : Int) (h0 : (finT f n a s h).2 = 0) : finT f n a s h = (0, 0) := by
  unfold finT at h0 ⊢
  split
  · rename_i hc
    rw [if_pos hc] at h0
    rcases bstN_found (f := f) (L := n) (a := a.toNat) (size := s.toNat) a.toNat h.toNat 0 0 (Nat.le_refl _) (.inl ⟨rfl, rfl⟩) with ⟨h1, h2⟩ | ⟨_, _, _, h3, _⟩
    · exact Prod.ext h1 h2
    · omega
  · rfl
end Go.Proofs.Ytihfcjehpmiolaa
