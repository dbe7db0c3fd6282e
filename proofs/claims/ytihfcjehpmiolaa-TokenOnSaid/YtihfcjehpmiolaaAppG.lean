/-
  Words for every layer: append inside a range over a function: whatever is no row of cells stays.
-/
import Derived.Test.YtihfcjehpmiolaaApp
import Derived.RangeFuncOwn
namespace Go.Proofs.Ytihfcjehpmiolaa
open Go.RowKit
set_option maxRecDepth 100000 in
/-- The same, and what became of the memory, block by block. -/
theorem run_app_g {T E : TypeId} {z : Value} {sz by_ : Nat} (hT : Try.prog.underlying T = some (.slice E)) (hI : (Try.prog.info? E).map (fun i => (i.zero, i.size, i.bytes)) = some (some z, sz, by_)) (hz : z.cells.size = sz) (hsz : 0 < sz)
    (w : World) (base B : Nat) (v0 : Value) (n : Nat) (xs : List Value) (hown : w.ownsRow base E sz v0 n xs) (A : Option Addr) (m c : Nat) (ys : List Value) (hr : SrcL w B sz A m ys) (h1 : ∀ u ∈ ys, u.oneCell' = true)
    (hnm : n + m ≤ maxLen) (hby : (n + m) * by_ ≤ 140737488355328) (ty : TypeId) (hA : A = none → c = 0) (hbase : base ≤ w.heap.size) :
    ∃ A' c' w', (Builtin.append_ #[T, T] ty #[v0, .slice A m c]).run Try.prog w = .ok (.slice A' (n + m) c') w' ∧ w'.ownsRow base E sz (.slice A' (n + m) c') (n + m) (xs ++ ys) ∧ w.grownBy w' v0.ownBlock := by
  obtain ⟨i0, hi, hz0, hz1, hz2⟩ := info_parts hI
  have key : ∃ v' w', (Builtin.append_ #[T, T] ty #[v0, .slice A m c]).run Try.prog w = .ok v' w' ∧ w'.ownsRow base E sz v' (n + m) (xs ++ ys) ∧ w.grownBy w' v0.ownBlock := by
    rcases A with _ | ad
    · have h0 : m = 0 := by
        rcases Nat.eq_zero_or_pos m with h | h
        · exact h
        · obtain ⟨b, o, h, _⟩ := hr.2 h; cases h
      subst h0
      obtain rfl := hA rfl
      have hy : ys = [] := List.length_eq_zero_iff.1 (by have := hr.1; omega)
      subst hy
      refine ⟨v0, w, run_append_owned_none (P := Try.prog) (w := w) base T ty E i0 sz hT hi v0 n _ hown, ?_, World.grownBy.refl _ _⟩
      simpa using hown
    · have hcells : ∀ j u, ys[j]? = some u → w.cell? (ad.add j) = some u := by
        intro j u hu
        have hm : 0 < m := by
          rcases Nat.eq_zero_or_pos m with h | h
          · have hy : ys = [] := List.length_eq_zero_iff.1 (by have := hr.1; rw [h] at this; omega)
            rw [hy] at hu; cases hu
          · exact h
        obtain ⟨b, o, h, _, hc⟩ := hr.2 hm
        injection h with h
        subst h
        have e : (⟨b, o, none⟩ : Addr).add j = ⟨b, o + j, none⟩ := by unfold Addr.add; split <;> simp_all
        rw [e]; exact hc j u hu
      obtain ⟨v', w', h1, h2, h3, _, _⟩ := run_append_own_at (P := Try.prog) w base T ty E i0 z sz by_ hT hi hz0 hz1 hz2 hz hsz v0 n xs hown ad m c ys hr.1 hcells h1 hnm hby hbase
      exact ⟨v', w', h1, h2, h3⟩
  obtain ⟨v', w', h1, h2, h3⟩ := key
  have hv : ∃ A' c', v' = .slice A' (n + m) c' := by
    rcases h2.2 with ⟨rfl, h⟩ | ⟨g, cap, cur, rfl, _⟩
    · exact ⟨none, 0, by rw [h]⟩
    · exact ⟨_, _, rfl⟩
  obtain ⟨A', c', rfl⟩ := hv
  exact ⟨A', c', w', h1, h2, h3⟩
theorem own_cells {w : World} {base sz n : Nat} {e : TypeId} {v : Value} {xs : List Value} (h : w.ownsRow base e sz v n xs) : ∀ (j : Nat) (o : Obj), v.ownBlock = some j → w.heap[j]? = some o → o.isCells = true := by
  intro j o hj ho
  rcases h.2 with ⟨rfl, _⟩ | ⟨g, cap, cur, rfl, hg, hh, _⟩
  · simp [Value.ownBlock] at hj
  · simp [Value.ownBlock] at hj
    subst hj
    rw [ho] at hh
    cases hh; rfl
/-- A row of the call's own stays while others grow. -/
theorem own_grown {w w' : World} {base sz n : Nat} {e : TypeId} {v : Value} {xs : List Value} {row : Option Nat} (h : w.ownsRow base e sz v n xs) (hg : w.grownBy w' row) (hr : ∀ r, row = some r → ∃ o : Obj, w.heap[r]? = some o ∧ o.isCells = false) : w'.ownsRow base e sz v n xs := by
  obtain ⟨h1, h2⟩ := h
  refine ⟨h1, ?_⟩
  rcases h2 with h2 | ⟨g, cap, cur, hv, hge, hh, r⟩
  · exact .inl h2
  · refine .inr ⟨g, cap, cur, hv, hge, ?_, r⟩
    refine (hg.block g (Array.getElem?_eq_some_iff.1 hh).1 fun he => ?_).trans hh
    obtain ⟨o, ho, hc⟩ := hr g he.symm
    rw [ho] at hh
    cases hh; cases hc
end Go.Proofs.Ytihfcjehpmiolaa
