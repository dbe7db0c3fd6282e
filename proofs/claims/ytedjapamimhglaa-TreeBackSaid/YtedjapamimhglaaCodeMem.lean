/-
  Words for layers that have codes: a slice of api.Code that reads as numbers, a row of them of the call's own; what the document's Same answers.
-/
import Derived.Test.YtedjapamimhglaaBase
import Derived.Test.YtedjapamimhglaaAfter
namespace Go.Proofs.Ytedjapamimhglaa
open Go.RowKit
def RdC (w : World) (B : Nat) (A : Option Addr) (n : Nat) (x l : Nat → Nat) : Prop :=
  ((∀ j, x j < 4294967296) ∧ ∀ j, l j < 256) ∧ (0 < n → ∃ b o, A = some ⟨b, o, none⟩ ∧ b < B ∧ ∀ j, j < n → w.cell? ⟨b, o + j * 2, none⟩ = some (.int .u32 (x j : Int)) ∧ w.cell? ⟨b, o + j * 2 + 1, none⟩ = some (.int .u8 (l j : Int)))
theorem RdC.below {w w' : World} {B B' n : Nat} {A : Option Addr} {x l : Nat → Nat} (h : RdC w B A n x l) (hb : Below B' w w') (hB : B ≤ B') : RdC w' B A n x l := by
  refine ⟨h.1, fun hn => ?_⟩
  obtain ⟨b, o, rfl, hlt, hc⟩ := h.2 hn
  refine ⟨b, o, rfl, hlt, fun j hj => ?_⟩
  rw [hb.cell (p := ⟨b, o + j * 2, none⟩) (by show b < B'; omega), hb.cell (p := ⟨b, o + j * 2 + 1, none⟩) (by show b < B'; omega)]
  exact hc j hj
theorem RdC.more {w : World} {B B' n : Nat} {A : Option Addr} {x l : Nat → Nat} (h : RdC w B A n x l) (hB : B ≤ B') : RdC w B' A n x l := by
  refine ⟨h.1, fun hn => ?_⟩
  obtain ⟨b, o, rfl, hlt, hc⟩ := h.2 hn
  exact ⟨b, o, rfl, by omega, hc⟩
theorem RdC.at {w : World} {B n : Nat} {A : Option Addr} {x l : Nat → Nat} (h : RdC w B A n x l) (hn : 0 < n) : ∃ b o, A = some ⟨b, o, none⟩ ∧ b < B ∧ ∀ j, j < n → w.cell? ⟨b, o + j * 2, none⟩ = some (.int .u32 (x j : Int)) ∧ w.cell? ⟨b, o + j * 2 + 1, none⟩ = some (.int .u8 (l j : Int)) := h.2 hn
theorem below_drawN {B : Nat} {a w : World} (h : Below B a w) (n : Nat) : Below B a (w.drewN n) := ⟨h.os, h.tape, h.output, h.size, h.block⟩
/-- A row of codes of the call's own. -/
def RowC (w : World) (g n : Nat) (x l : Nat → Nat) : Prop :=
  ∃ cur : Array Value, w.heap[g]? = some (.cells cur 53 (0, 0)) ∧ ∀ j, j < n → cur[j * 2]? = some (.int .u32 (x j : Int)) ∧ cur[j * 2 + 1]? = some (.int .u8 (l j : Int))
theorem RowC.lt {w : World} {g n : Nat} {x l : Nat → Nat} (h : RowC w g n x l) : g < w.heap.size := by
  obtain ⟨cur, h1, _⟩ := h; exact (Array.getElem?_eq_some_iff.1 h1).1
theorem RowC.cell {w : World} {g n : Nat} {x l : Nat → Nat} (h : RowC w g n x l) {j : Nat} (hj : j < n) : w.cell? ⟨g, j * 2, none⟩ = some (.int .u32 (x j : Int)) ∧ w.cell? ⟨g, j * 2 + 1, none⟩ = some (.int .u8 (l j : Int)) := by
  obtain ⟨cur, h1, h2⟩ := h
  rw [cell_of_row w g _ _ _ (0, 0) h1, cell_of_row w g _ _ _ (0, 0) h1]; exact h2 j hj
theorem RowC.frozen {w : World} {g n : Nat} {x l : Nat → Nat} (h : RowC w g n x l) (j : Nat) : w.frozen? ⟨g, j, none⟩ = false := by
  obtain ⟨cur, h1, _⟩ := h; exact frozen_of_row w g j _ _ h1
theorem RowC.ext {w : World} {g n : Nat} {x l x' l' : Nat → Nat} (h : RowC w g n x l) (ex : ∀ j, j < n → x j = x' j) (el : ∀ j, j < n → l j = l' j) : RowC w g n x' l' := by
  obtain ⟨cur, h1, h2⟩ := h; exact ⟨cur, h1, fun j hj => by rw [← ex j hj, ← el j hj]; exact h2 j hj⟩
theorem RowC.below {w w' : World} {g n B : Nat} {x l : Nat → Nat} (h : RowC w g n x l) (hb : Below B w w') (hg : g < B) : RowC w' g n x l := by
  obtain ⟨cur, h1, h2⟩ := h; exact ⟨cur, (hb.block g hg).trans h1, h2⟩
theorem RowC.other {w : World} {g n : Nat} {x l : Nat → Nat} (h : RowC w g n x l) {p : Addr} (hp : g ≠ p.block) (u : Value) : RowC (w.setCell p u) g n x l := by
  obtain ⟨cur, h1, h2⟩ := h; exact ⟨cur, (Below.heap_setCell w p u g hp).trans h1, h2⟩
theorem RowC.set {w : World} {g n : Nat} {x l : Nat → Nat} (h : RowC w g n x l) (i a b : Nat) : RowC ((w.setCell ⟨g, i * 2, none⟩ (.int .u32 (a : Int))).setCell ⟨g, i * 2 + 1, none⟩ (.int .u8 (b : Int))) g n (upd x i a) (upd l i b) := by
  obtain ⟨cur, h1, h2⟩ := h
  refine ⟨(cur.setIfInBounds (i * 2) (.int .u32 (a : Int))).setIfInBounds (i * 2 + 1) (.int .u8 (b : Int)), heap_setCell_same _ g _ _ _ _ (heap_setCell_same w g _ cur _ _ h1), fun j hj => ?_⟩
  have hs : j * 2 + 1 < cur.size := by
    rcases Nat.lt_or_ge (j * 2 + 1) cur.size with h | h
    · exact h
    · have := (h2 j hj).2; rw [Array.getElem?_eq_none h] at this; cases this
  have h3 := h2 j hj
  simp only [Array.getElem?_setIfInBounds, Array.size_setIfInBounds, upd]
  by_cases e : j = i
  · subst e
    constructor
    · rw [if_neg (by omega), if_pos rfl, if_pos (by omega), if_pos rfl]
    · rw [if_pos rfl, if_pos (by omega), if_pos rfl]
  · constructor
    · rw [if_neg (by omega), if_neg (by omega), if_neg e]; exact h3.1
    · rw [if_neg (by omega), if_neg (by omega), if_neg e]; exact h3.2
theorem RowC.rd {w : World} {g n : Nat} {x l : Nat → Nat} (h : RowC w g n x l) (hx : ∀ j, x j < 4294967296) (hl : ∀ j, l j < 256) : RdC w w.heap.size (some ⟨g, 0, none⟩) n x l :=
  ⟨⟨hx, hl⟩, fun _ => ⟨g, 0, rfl, h.lt, fun j hj => by rw [Nat.zero_add]; exact h.cell hj⟩⟩
/-- A list of codes that a call has made: none, or a row from block base on. -/
def OutC (base : Nat) (w : World) (A : Option Addr) (n : Nat) (x l : Nat → Nat) : Prop := n = 0 ∨ ∃ g, A = some ⟨g, 0, none⟩ ∧ base ≤ g ∧ RowC w g n x l
theorem OutC.rd {base n : Nat} {w : World} {A : Option Addr} {x l : Nat → Nat} (h : OutC base w A n x l) (hx : ∀ j, x j < 4294967296) (hl : ∀ j, l j < 256) : RdC w w.heap.size A n x l := by
  rcases h with rfl | ⟨g, rfl, _, hr⟩
  · exact ⟨⟨hx, hl⟩, fun h => absurd h (by omega)⟩
  · exact hr.rd hx hl
theorem OutC.below {base B n : Nat} {w w' : World} {A : Option Addr} {x l : Nat → Nat} (h : OutC base w A n x l) (hb : Below B w w') (hB : w.heap.size ≤ B) : OutC base w' A n x l := by
  rcases h with rfl | ⟨g, rfl, hg, hr⟩
  · exact .inl rfl
  · exact .inr ⟨g, rfl, hg, hr.below hb (Nat.lt_of_lt_of_le hr.lt hB)⟩
def zeroN (_ : Nat) : Nat := 0
theorem infoCode : (Try.prog.info? 53).map (fun i => (i.zero, i.size, i.bytes)) = some (some (.agg #[.int .u32 0, .int .u8 0]), 2, 8) := by kernel_rfl
theorem rowC_made (w : World) (n : Nat) : RowC (w.alloc (.cells (madeCells #[.int .u32 0, .int .u8 0] (n * 2)) 53)) w.heap.size n zeroN zeroN := by
  refine ⟨_, heap_alloc_new w _, fun j hj => ?_⟩
  unfold madeCells zeroN
  have e1 : j * 2 % 2 = 0 := by omega
  have e2 : (j * 2 + 1) % 2 = 1 := by omega
  constructor
  · simp [show j * 2 < n * 2 by omega, e1]
  · simp [show j * 2 + 1 < n * 2 by omega, e2]
end Go.Proofs.Ytedjapamimhglaa
