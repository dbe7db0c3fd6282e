/-
  Layer 8 (token): what a style may be (the document's own).
-/
import Derived.Test.YtihfcjehpmiolaaTokSam
namespace Go.Proofs.Ytihfcjehpmiolaa
open Go.RowKit
def mayS (s h m : Int) : Bool := decide (1 ≤ s ∧ s ≤ 32768 ∧ 0 ≤ h ∧ h ≤ 256 ∧ 1 ≤ m ∧ m ≤ 65535)
def styV (s h m : Int) (z : Bool) : Value := .agg #[.int .i64 s, .int .i64 h, .int .i64 m, .bool z]
set_option maxRecDepth 100000 in
set_option maxHeartbeats 1000000 in
theorem rsty8_any (w : World) (s h m : Int) (z : Bool) : Calls Try.prog 24 #[.agg #[.int .i64 s, .int .i64 h, .int .i64 m, .bool z]] w fun e w' => e = .returned (.bool (mayS s h m)) ∧ Below w.heap.size w w' := by
  have HB := Lib.hid ((Below.refl w.heap.size w).alloc (Nat.le_refl _) (.cells #[.int .i64 s, .int .i64 h, .int .i64 m, .bool z] 32))
  by_cases y0 : ¬ (1 ≤ s)
  · have d0 : decide (1 ≤ s) = false := by simp; omega
    have e : mayS s h m = false := by unfold mayS; simp; omega
    rw [e]
    go_enter Try.func24, Try.ntmps24
    go_wp2
    go_ret
    exact ⟨rfl, HB.out⟩
  have d0 : decide (1 ≤ s) = true := by simp; omega
  by_cases y1 : ¬ (s ≤ 32768)
  · have d1 : decide (s ≤ 32768) = false := by simp; omega
    have e : mayS s h m = false := by unfold mayS; simp; omega
    rw [e]
    go_enter Try.func24, Try.ntmps24
    go_wp2
    go_ret
    exact ⟨rfl, HB.out⟩
  have d1 : decide (s ≤ 32768) = true := by simp; omega
  by_cases y2 : ¬ (0 ≤ h)
  · have d2 : decide (0 ≤ h) = false := by simp; omega
    have e : mayS s h m = false := by unfold mayS; simp; omega
    rw [e]
    go_enter Try.func24, Try.ntmps24
    go_wp2
    go_ret
    exact ⟨rfl, HB.out⟩
  have d2 : decide (0 ≤ h) = true := by simp; omega
  by_cases y3 : ¬ (h ≤ 256)
  · have d3 : decide (h ≤ 256) = false := by simp; omega
    have e : mayS s h m = false := by unfold mayS; simp; omega
    rw [e]
    go_enter Try.func24, Try.ntmps24
    go_wp2
    go_ret
    exact ⟨rfl, HB.out⟩
  have d3 : decide (h ≤ 256) = true := by simp; omega
  by_cases y4 : ¬ (1 ≤ m)
  · have d4 : decide (1 ≤ m) = false := by simp; omega
    have e : mayS s h m = false := by unfold mayS; simp; omega
    rw [e]
    go_enter Try.func24, Try.ntmps24
    go_wp2
    go_ret
    exact ⟨rfl, HB.out⟩
  have d4 : decide (1 ≤ m) = true := by simp; omega
  by_cases y5 : ¬ (m ≤ 65535)
  · have d5 : decide (m ≤ 65535) = false := by simp; omega
    have e : mayS s h m = false := by unfold mayS; simp; omega
    rw [e]
    go_enter Try.func24, Try.ntmps24
    go_wp2
    go_ret
    exact ⟨rfl, HB.out⟩
  have d5 : decide (m ≤ 65535) = true := by simp; omega
  have e : mayS s h m = true := by unfold mayS; simp; omega
  rw [e]
  go_enter Try.func24, Try.ntmps24
  go_wp2
  go_ret
  exact ⟨rfl, HB.out⟩
/-! ### bytes and tokens, told by lists -/
theorem cutL_fuel {f : Nat → Nat} {L size chain : Nat} {lz : Bool} : ∀ k k' a, L ≤ a + k → L ≤ a + k' → cutL f L size chain lz k a = cutL f L size chain lz k' a
  | 0, 0, _, _, _ => rfl
  | 0, k' + 1, a, h, _ => by simp only [cutL]; rw [if_pos (by omega)]
  | k + 1, 0, a, _, h => by simp only [cutL]; rw [if_pos (by omega)]
  | k + 1, k' + 1, a, h1, h2 => by
    simp only [cutL]
    split
    · rfl
    · split
      · rw [cutL_fuel k k' (a + 1) (by omega) (by omega)]
      · rename_i hx hy
        have := (bst_is (f := f) (L := L) (a := a) (size := size) (chain := chain) (fun e => hy (.inl e))).2.2.2.1
        rw [cutL_fuel k k' _ (by omega) (by omega)]
/-- The tokens from a place on. -/
def cutA (f : Nat → Nat) (L size chain : Nat) (lz : Bool) (a : Nat) : List Tok := cutL f L size chain lz (L - a) a
theorem cutA_end {f : Nat → Nat} {L size chain : Nat} {lz : Bool} {a : Nat} (h : L ≤ a) : cutA f L size chain lz a = [] := by
  unfold cutA; rw [show L - a = 0 by omega]; rfl
theorem cutA_byte {f : Nat → Nat} {L size chain : Nat} {lz : Bool} {a : Nat} (h : a < L) (hb : (bstN f L a size a chain 0 0).2 = 0 ∨ (bstN f L a size a chain 0 0).2 < latN f L size chain lz a) :
    cutA f L size chain lz a = ⟨f a, 0, 0⟩ :: cutA f L size chain lz (a + 1) := by
  unfold cutA
  rw [show L - a = (L - (a + 1)) + 1 by omega]
  conv => lhs; unfold cutL
  rw [if_neg (by omega), if_pos hb]
theorem cutA_copy {f : Nat → Nat} {L size chain : Nat} {lz : Bool} {a : Nat} (h : a < L) (hb : ¬ ((bstN f L a size a chain 0 0).2 = 0 ∨ (bstN f L a size a chain 0 0).2 < latN f L size chain lz a)) :
    cutA f L size chain lz a = ⟨0, ((bstN f L a size a chain 0 0).1 : Nat), ((bstN f L a size a chain 0 0).2 : Nat)⟩ :: cutA f L size chain lz (a + (bstN f L a size a chain 0 0).2) := by
  unfold cutA
  rw [show L - a = (L - (a + 1)) + 1 by omega]
  conv => lhs; unfold cutL
  rw [if_neg (by omega), if_neg hb]
  have := (bst_is (f := f) (L := L) (a := a) (size := size) (chain := chain) (fun e => hb (.inl e))).2.2.2.1
  rw [cutL_fuel (L - (a + 1)) (L - (a + (bstN f L a size a chain 0 0).2)) _ (by omega) (by omega)]
end Go.Proofs.Ytihfcjehpmiolaa
