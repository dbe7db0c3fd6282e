/-
  Layer 6 (slide): a window in a block of two cells; two appends, one behind the other, onto nil; what Push answers for bytes that are not many.
-/
import Derived.Test.YtmdnlmoadklefaaSlideAlv
namespace Go.Proofs.Ytmdnlmoadklefaa
open Go.RowKit
/-- A window's block. -/
def WinAt (w : World) (X : Nat) (S : Int) (A : Option Addr) (n c : Nat) : Prop := w.heap[X]? = some (.cells #[.int .i64 S, .slice A n c] 24 (0, 0))
theorem WinAt.new (w : World) (S : Int) (A : Option Addr) (n c : Nat) : WinAt (w.alloc (.cells #[.int .i64 S, .slice A n c] 24)) w.heap.size S A n c := heap_alloc_new w _
theorem WinAt.lt {w : World} {X n c : Nat} {S : Int} {A : Option Addr} (h : WinAt w X S A n c) : X < w.heap.size := (Array.getElem?_eq_some_iff.1 h).1
theorem WinAt.below {w w' : World} {B X n c : Nat} {S : Int} {A : Option Addr} (h : WinAt w X S A n c) (hb : Below B w w') (hX : X < B) : WinAt w' X S A n c := (hb.block X hX).trans h
theorem WinAt.size {w : World} {X n c : Nat} {S : Int} {A : Option Addr} (h : WinAt w X S A n c) : w.cell? ⟨X, 0, none⟩ = some (.int .i64 S) := (cell_of_row w _ 0 _ _ (0, 0) h).trans rfl
theorem WinAt.bytes {w : World} {X n c : Nat} {S : Int} {A : Option Addr} (h : WinAt w X S A n c) : w.cell? ⟨X, 1, none⟩ = some (.slice A n c) := (cell_of_row w _ 1 _ _ (0, 0) h).trans rfl
/-- append(append([]byte(nil), a...), b...) -/
theorem both_rows (w : World) (A1 : Option Addr) (l c1 : Nat) (f : Nat → Nat) (A2 : Option Addr) (m c2 : Nat) (h : Nat → Nat) (hr1 : ByR w w.heap.size A1 l c1 f) (hr2 : ByR w w.heap.size A2 m c2 h) (hl : l ≤ 1000000) (hm : m ≤ 1000000) :
    ∃ Aa ca wa Ab cb wb, (Builtin.append_ #[22, 22] 22 #[.slice none 0 0, .slice A1 l c1]).run Try.prog w = .ok (.slice Aa l ca) wa ∧
      (Builtin.append_ #[22, 22] 22 #[.slice Aa l ca, .slice A2 m c2]).run Try.prog wa = .ok (.slice Ab (l + m) cb) wb ∧ Below w.heap.size w wb ∧ ByR wb wb.heap.size Ab (l + m) cb (cat f l h) := by
  obtain ⟨Aa, ca, wa, h1, o1, b1, _⟩ := run_twin w _ A1 l c1 f hr1.1 (by omega) 22 hr1.2.1
  obtain ⟨Ab, cb, wb, h2, o2, b2⟩ := run_more wa w.heap.size _ _ l f o1 A2 m c2 h (hr2.1.below b1 (Nat.le_refl _)) (by omega) 22 hr2.2.1 b1.size
  exact ⟨Aa, ca, wa, Ab, cb, wb, h1, h2, b1.trans b2, ByR.of_own o2 (cat_lt hr1.1.1 hr2.1.1)⟩
theorem pushE_small {S : Int} {n m : Nat} (h : m ≤ 131072) : pushE S n m = winE S n := by
  unfold pushE
  rcases winE_cases S n with ⟨h1, _⟩ | h1 <;> rw [h1]
  · rw [if_pos rfl, if_neg (by omega)]
  · rw [if_neg (by decide)]
theorem winE_in {S : Int} {n l : Nat} (h : winE S n = 0) : winE S (inN S.toNat n l) = 0 := by
  rcases winE_cases S n with ⟨_, h1, h2, h3⟩ | h1
  · have := inN_le S.toNat n l
    unfold winE; rw [if_pos (by omega)]
  · rw [h1] at h; cases h
/-- The last s bytes of a window's bytes and what went in. -/
theorem whole_str {s n L N l3 : Nat} {f g F3 : Nat → Nat} (hN : N = n + L) (hl3 : l3 = inN s n L) (hF3 : F3 = inF s n f L g) : strB (N - (N - s)) (fun j => cat f n g (j + (N - s))) = strB l3 F3 := by
  subst hN; subst hl3; subst hF3
  have e : n + L - (n + L - s) = inN s n L := by unfold inN keepN; omega
  rw [e]
  rfl
end Go.Proofs.Ytmdnlmoadklefaa
