/-
  Layer 1 (bits): what bits.Align answers for every pen, and that the statements' own example (alive) is so.
-/
import Derived.Test.YtedjapamimhglaaBitPut
namespace Go.Proofs.Ytedjapamimhglaa
open Go.RowKit
theorem putF_nought (f : Nat → Nat) (k : Nat) : ∀ i, putF f k 0 i = f
  | 0 => rfl
  | i + 1 => by
    show stepF (putF f k 0 i) (k + i) (0 / 2 ^ i % 2) = f
    rw [putF_nought f k i]
    funext j
    simp only [stepF, upd, Nat.zero_div, Nat.zero_mod, Nat.zero_mul, Nat.add_zero]
    split
    · rename_i h; rw [h]
    · rfl
/-! ### the example -/
theorem pair_cells {w : World} {g : Nat} {a b : Value} {t : TypeId} (h : w.heap[g]? = some (.cells #[a, b] t (0, 0))) :
    w.cell? ⟨g, 0, none⟩ = some a ∧ w.cell? ⟨g, 1, none⟩ = some b ∧ w.frozen? ⟨g, 0, none⟩ = false ∧ w.frozen? ⟨g, 1, none⟩ = false :=
  ⟨by rw [cell_of_row w g 0 _ t (0, 0) h]; rfl, by rw [cell_of_row w g 1 _ t (0, 0) h]; rfl, by simp [World.frozen?, h], by simp [World.frozen?, h]⟩
def nof (_ : Nat) : Nat := 0
theorem rd_none (w : World) (B : Nat) : RdB w B none 0 nof := ⟨fun _ => by unfold nof; omega, fun h => by omega⟩
theorem check_first : penE nof 0 ((0 : Nat) : Int) = 0 := by rw [checkE_nat, if_pos]; exact ⟨by omega, by omega, .inl (by omega)⟩
def one3 : Nat → Nat := putF (zext 0 nof) 0 5 3
def one10 : Nat → Nat := putF (zext 1 one3) 3 3 7
theorem one3_lt (j : Nat) : one3 j < 256 := by
  have h : Clean (zext 0 nof) 0 := ⟨fun j => by simp [zext], fun j _ => by simp [zext], by simp [zext]⟩
  exact (h.put 5 3).1 j
theorem one3_0 : one3 0 = 5 := by decide
theorem check_second : penE one3 1 ((3 : Nat) : Int) = 0 := by rw [checkE_nat, if_pos]; exact ⟨by omega, by omega, .inr (by decide)⟩
theorem fits5 : fitsB ((5 : Nat) : Int) ((3 : Nat) : Int) = true := fitsB_nat.2 ⟨by omega, by omega⟩
theorem fits3 : fitsB ((3 : Nat) : Int) ((7 : Nat) : Int) = true := fitsB_nat.2 ⟨by omega, by omega⟩
def two181 (j : Nat) : Nat := if j = 0 then 181 else if j = 1 then 3 else 0
theorem two181_lt (j : Nat) : two181 j < 256 := by unfold two181; split <;> (try split) <;> omega
theorem one10_lt (j : Nat) : one10 j < 256 := by
  have h : Clean (zext 1 one3) 3 := ⟨fun j => by unfold zext; split; exact one3_lt j; omega, fun j hj => by unfold zext; rw [if_neg (by omega)], by decide⟩
  exact (h.put 3 7).1 j
end Go.Proofs.Ytedjapamimhglaa
