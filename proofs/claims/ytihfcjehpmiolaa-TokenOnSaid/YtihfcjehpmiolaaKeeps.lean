/-
  Words for every layer: some blocks lie as they lay.
-/
import Derived.Test.YtihfcjehpmiolaaBase
namespace Go.Proofs.Ytihfcjehpmiolaa
open Go.RowKit
/-- The blocks of S lie as they lay. -/
def KpB (S : Nat → Prop) (W W' : World) : Prop := ∀ k, S k → W'.heap[k]? = W.heap[k]?
theorem KpB.refl (S : Nat → Prop) (W : World) : KpB S W W := fun _ _ => rfl
theorem KpB.tr {S : Nat → Prop} {A B C : World} (h : KpB S A B) (k : KpB S B C) : KpB S A C := fun i hi => (k i hi).trans (h i hi)
theorem KpB.cell {S : Nat → Prop} {W W' : World} (h : KpB S W W') {p : Addr} (hp : S p.block) : W'.cell? p = W.cell? p := by
  simp only [World.cell?, h _ hp]
theorem RdB.kept {S : Nat → Prop} {w w' : World} {B n : Nat} {A : Option Addr} {f : Nat → Nat} (h : RdB w B A n f) (hk : KpB S w w') (hS : ∀ k, k < B → S k) : RdB w' B A n f := by
  refine ⟨h.1, fun hn => ?_⟩
  obtain ⟨b, o, rfl, hlt, hc⟩ := h.2 hn
  exact ⟨b, o, rfl, hlt, fun j hj => by rw [hk.cell (p := ⟨b, o + j, none⟩) (hS b hlt)]; exact hc j hj⟩
end Go.Proofs.Ytihfcjehpmiolaa
