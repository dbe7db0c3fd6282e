/-
  Words for layers that have codes: a slice of api.Code that reads as numbers, a row of them of the call's own; what the document's Same answers.
-/
import Derived.Test.YtgppikhfkikknaaBase
import Derived.Test.YtgppikhfkikknaaAfter
namespace Go.Proofs.Ytgppikhfkikknaa
open Go.RowKit
def RdC (w : World) (B : Nat) (A : Option Addr) (n : Nat) (x l : Nat → Nat) : Prop :=
  ((∀ j, x j < 4294967296) ∧ ∀ j, l j < 256) ∧ (0 < n → ∃ b o, A = some ⟨b, o, none⟩ ∧ b < B ∧ ∀ j, j < n → w.cell? ⟨b, o + j * 2, none⟩ = some (.int .u32 (x j : Int)) ∧ w.cell? ⟨b, o + j * 2 + 1, none⟩ = some (.int .u8 (l j : Int)))
theorem RdC.below {w w' : World} {B B' n : Nat} {A : Option Addr} {x l : Nat → Nat} (h : RdC w B A n x l) (hb : Below B' w w') (hB : B ≤ B') : RdC w' B A n x l := by
  refine ⟨h.1, fun hn => ?_⟩
  obtain ⟨b, o, rfl, hlt, hc⟩ := h.2 hn
  refine ⟨b, o, rfl, hlt, fun j hj => ?_⟩
  rw [hb.cell (p := ⟨b, o + j * 2, none⟩) (by show b < B'; omega), hb.cell (p := ⟨b, o + j * 2 + 1, none⟩) (by show b < B'; omega)]
  exact hc j hj
theorem RdC.more {w : World} {B B' n : Nat} {A : Option Addr} {x l : Nat → Nat} (h : RdC w B A n x l) (hB : B ≤ B') : RdC w B' A n x l := by
  refine ⟨h.1, fun hn => ?_⟩
  obtain ⟨b, o, rfl, hlt, hc⟩ := h.2 hn
  exact ⟨b, o, rfl, by omega, hc⟩
theorem RdC.at {w : World} {B n : Nat} {A : Option Addr} {x l : Nat → Nat} (h : RdC w B A n x l) (hn : 0 < n) : ∃ b o, A = some ⟨b, o, none⟩ ∧ b < B ∧ ∀ j, j < n → w.cell? ⟨b, o + j * 2, none⟩ = some (.int .u32 (x j : Int)) ∧ w.cell? ⟨b, o + j * 2 + 1, none⟩ = some (.int .u8 (l j : Int)) := h.2 hn
theorem below_drawN {B : Nat} {a w : World} (h : Below B a w) (n : Nat) : Below B a (w.drewN n) := ⟨h.os, h.tape, h.output, h.size, h.block⟩
def zeroN (_ : Nat) : Nat := 0
end Go.Proofs.Ytgppikhfkikknaa
