/-
  Words for every layer: the bytes of a list; a row of the call's own stays; a row that may be written.
-/
import Derived.Test.YtgkbnmknlmapdaaBase
import Derived.Test.YtgkbnmknlmapdaaConcat
import Derived.Lib.SmallJoins
namespace Go.Proofs.Ytgkbnmknlmapdaa
open Go.RowKit Go.ChangeShapes Go.WideShapes Go.ChangeAt Go.Joins
theorem own_keep {w w' : World} {base sz n : Nat} {e : TypeId} {v : Value} {xs : List Value} (h : w.ownsRow base e sz v n xs) (hb : Below w.heap.size w w') : w'.ownsRow base e sz v n xs := by
  obtain ⟨h1, h2⟩ := h
  refine ⟨h1, ?_⟩
  rcases h2 with h2 | ⟨g, cap, cur, hv, hg, hh, r⟩
  · exact .inl h2
  · exact .inr ⟨g, cap, cur, hv, hg, (hb.block g (Array.getElem?_eq_some_iff.1 hh).1).trans hh, r⟩
/-- The bytes of a list. -/
def lst (L : List Nat) (j : Nat) : Nat := L.getD j 0
theorem lst_lt {L : List Nat} (h : ∀ x ∈ L, x < 256) (j : Nat) : lst L j < 256 := by
  unfold lst
  rcases Nat.lt_or_ge j L.length with g | g
  · rw [List.getD_eq_getElem?_getD, List.getElem?_eq_getElem g]; exact h _ (List.getElem_mem g)
  · rw [List.getD_eq_getElem?_getD, List.getElem?_eq_none g]; show 0 < 256; omega
theorem lst_one (L : List Nat) (x : Nat) : bytesL L.length (lst L) = bytesL L.length (lst (L ++ [x])) ∧ lst (L ++ [x]) L.length = x := by
  refine ⟨bytesL_ext fun j hj => ?_, ?_⟩
  · unfold lst; rw [List.getD_eq_getElem?_getD, List.getD_eq_getElem?_getD, List.getElem?_append_left hj]
  · unfold lst; simp
/-- A row that may be written: its block is not one of those below base. -/
def NewB (w : World) (base : Nat) (A : Option Addr) (n : Nat) : Prop := 0 < n → ∃ (g o : Nat) (cur : Array Value), A = some ⟨g, o, none⟩ ∧ base ≤ g ∧ w.heap[g]? = some (.cells cur 5 (0, 0))
theorem NewB.nil (w : World) (base : Nat) (A : Option Addr) : NewB w base A 0 := fun h => absurd h (by omega)
theorem NewB.of_own {w : World} {base q c n : Nat} {ad : Addr} {A3 : Option Addr} {xs : List Value} (h : w.ownsRow base 5 1 (.slice (some ad) q c) q xs) (hqc : q ≤ c) (hnq : n ≤ q) (hA : (if c = n then (some ad : Option Addr) else some (ad.add n)) = A3) : NewB w base A3 (q - n) := fun h0 => by
  rcases h.2 with ⟨hv, _⟩ | ⟨g, cap, cur, hv, hg, hh, _⟩
  · injection hv with h1; cases h1
  · injection hv with h1 h2 h3
    injection h1 with h1
    subst h1
    rw [if_neg (by omega)] at hA
    have e : (⟨g, 0, none⟩ : Addr).add n = ⟨g, 0 + n, none⟩ := by unfold Addr.add; split <;> simp_all
    rw [e] at hA
    exact ⟨g, 0 + n, cur, hA.symm, hg, hh⟩
theorem NewB.below {w w' : World} {base B n : Nat} {A : Option Addr} (h : NewB w base A n) (hb : Below B w w') (hB : w.heap.size ≤ B) : NewB w' base A n := fun h0 => by
  obtain ⟨g, o, cur, h1, h2, h3⟩ := h h0
  exact ⟨g, o, cur, h1, h2, (hb.block g (by have := (Array.getElem?_eq_some_iff.1 h3).1; omega)).trans h3⟩
/-- A row of bytes that may be written. -/
def WrB (w : World) (base : Nat) (A : Option Addr) (n : Nat) : Prop := 0 < n → ∃ (g o : Nat) (cur : Array Value) (F : Nat → Nat), A = some ⟨g, o, none⟩ ∧ base ≤ g ∧ w.heap[g]? = some (.cells cur 5 (0, 0)) ∧ (∀ j, F j < 256) ∧ ∀ j, j < n → cur[o + j]? = some (.int .u8 (F j : Int))
theorem WrB.of {w : World} {base B n : Nat} {A : Option Addr} {f : Nat → Nat} (h1 : NewB w base A n) (h2 : RdB w B A n f) : WrB w base A n := fun h0 => by
  obtain ⟨g, o, cur, rfl, q2, q3⟩ := h1 h0
  obtain ⟨b, o', e, _, hc⟩ := h2.2 h0
  injection e with e
  injection e with e1 e2 _
  subst e1; subst e2
  exact ⟨g, o, cur, f, rfl, q2, q3, h2.1, fun j hj => by rw [← cell_of_row w g (o + j) _ _ (0, 0) q3]; exact hc j hj⟩
theorem WrB.below {w w' : World} {base B n : Nat} {A : Option Addr} (h : WrB w base A n) (hb : Below B w w') (hB : w.heap.size ≤ B) : WrB w' base A n := fun h0 => by
  obtain ⟨g, o, cur, F, h1, h2, h3, h4, h5⟩ := h h0
  exact ⟨g, o, cur, F, h1, h2, (hb.block g (by have := (Array.getElem?_eq_some_iff.1 h3).1; omega)).trans h3, h4, h5⟩
theorem WrB.set {w : World} {base n g o : Nat} (h : WrB w base (some ⟨g, o, none⟩) n) {i : Nat} (hi : i < n) (x : Nat) (hx : x < 256) : WrB (w.setCell ⟨g, o + i, none⟩ (.int .u8 (x : Int))) base (some ⟨g, o, none⟩) n := fun h0 => by
  obtain ⟨g', o', cur, F, h1, h2, h3, h4, h5⟩ := h h0
  injection h1 with h1
  injection h1 with e1 e2 _
  subst e1; subst e2
  refine ⟨g, o, cur.setIfInBounds (o + i) (.int .u8 (x : Int)), upd F i x, rfl, h2, heap_setCell_same w g (o + i) cur _ _ h3, fun j => by unfold upd; split; exact hx; exact h4 j, fun j hj => ?_⟩
  rw [Array.getElem?_setIfInBounds, upd]
  have hs : o + i < cur.size := by
    rcases Nat.lt_or_ge (o + i) cur.size with q | q
    · exact q
    · have := h5 i hi; rw [Array.getElem?_eq_none q] at this; cases this
  by_cases e : j = i
  · subst e; simp [hs]
  · rw [if_neg (by omega), if_neg e]; exact h5 j hj
end Go.Proofs.Ytgkbnmknlmapdaa
