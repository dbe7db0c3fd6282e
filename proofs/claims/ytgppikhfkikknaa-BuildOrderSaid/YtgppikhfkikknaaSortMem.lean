/-
  A stable sort: a row of symbols in memory; what compares two of them by their frequencies.
-/
import Derived.Test.YtgppikhfkikknaaSortNum
import Derived.Test.YtgppikhfkikknaaApp
import Derived.BigRegion
namespace Go.Proofs.Ytgppikhfkikknaa
open Go.RowKit
/-- A row of symbols of the call's own. -/
def RowZ (w : World) (g n : Nat) (f : Nat → Nat) : Prop := ∃ cur : Array Value, w.heap[g]? = some (.cells cur 3 (0, 0)) ∧ ∀ j, j < n → cur[j]? = some (.int .i64 (f j : Int))
theorem RowZ.lt {w : World} {g n : Nat} {f : Nat → Nat} (h : RowZ w g n f) : g < w.heap.size := by
  obtain ⟨cur, h1, _⟩ := h; exact (Array.getElem?_eq_some_iff.1 h1).1
theorem RowZ.cell {w : World} {g n : Nat} {f : Nat → Nat} (h : RowZ w g n f) {j : Nat} (hj : j < n) : w.cell? ⟨g, j, none⟩ = some (.int .i64 (f j : Int)) := by
  obtain ⟨cur, h1, h2⟩ := h
  rw [cell_of_row w g j _ _ (0, 0) h1]; exact h2 j hj
theorem RowZ.frozen {w : World} {g n : Nat} {f : Nat → Nat} (h : RowZ w g n f) (j : Nat) : w.frozen? ⟨g, j, none⟩ = false := by
  obtain ⟨cur, h1, _⟩ := h; exact frozen_of_row w g j _ _ h1
theorem RowZ.set {w : World} {g n : Nat} {f : Nat → Nat} (h : RowZ w g n f) (i x : Nat) : RowZ (w.setCell ⟨g, i, none⟩ (.int .i64 (x : Int))) g n (upd f i x) := by
  obtain ⟨cur, h1, h2⟩ := h
  refine ⟨cur.setIfInBounds i (.int .i64 (x : Int)), heap_setCell_same w g i cur _ _ h1, fun j hj => ?_⟩
  rw [Array.getElem?_setIfInBounds, upd]
  have hs : j < cur.size := by
    rcases Nat.lt_or_ge j cur.size with h | h
    · exact h
    · have := h2 j hj; rw [Array.getElem?_eq_none h] at this; cases this
  by_cases e : i = j
  · subst e; simp [hs]
  · have e' : ¬ j = i := fun h => e h.symm
    simp [e, e', h2 j hj]
theorem RowZ.below {w w' : World} {g n B : Nat} {f : Nat → Nat} (h : RowZ w g n f) (hb : Below B w w') (hg : g < B) : RowZ w' g n f := by
  obtain ⟨cur, h1, h2⟩ := h; exact ⟨cur, (hb.block g hg).trans h1, h2⟩
theorem RowZ.drew {w : World} {g n : Nat} {f : Nat → Nat} (h : RowZ w g n f) : RowZ w.drew g n f := h
theorem RowZ.drewN {w : World} {g n : Nat} {f : Nat → Nat} (h : RowZ w g n f) (q : Nat) : RowZ (w.drewN q) g n f := h
theorem RowZ.ext {w : World} {g n : Nat} {f f' : Nat → Nat} (h : RowZ w g n f) (e : ∀ j, j < n → f j = f' j) : RowZ w g n f' := by
  obtain ⟨cur, h1, h2⟩ := h; exact ⟨cur, h1, fun j hj => by rw [h2 j hj, e j hj]⟩
/-- Two places change. -/
theorem RowZ.swap {w : World} {g n : Nat} {f : Nat → Nat} (h : RowZ w g n f) (i j : Nat) : RowZ ((w.setCell ⟨g, i, none⟩ (.int .i64 (f j : Int))).setCell ⟨g, j, none⟩ (.int .i64 (f i : Int))) g n (sw f i j) := by
  refine ((h.set i (f j)).set j (f i)).ext fun t _ => ?_
  unfold upd sw
  rfl
theorem RowZ.two {w : World} {g n : Nat} {f : Nat → Nat} (h : RowZ w g n f) (i j : Nat) (hj : j < n) (x : Nat) : (w.setCell ⟨g, i, none⟩ (.int .i64 (x : Int))).cell? ⟨g, j, none⟩ = some (.int .i64 (upd f i x j : Int)) := (h.set i x).cell hj
/-- What two numbers compare to. -/
def cmpI (x y : Int) : Int := if x < y then -1 else if y < x then 1 else 0
theorem cmpI_neg {x y : Int} : cmpI x y < 0 ↔ x < y := by unfold cmpI; split <;> (try split) <;> omega
theorem cmpI_bd (x y : Int) : -1 ≤ cmpI x y ∧ cmpI x y ≤ 1 := by unfold cmpI; split <;> (try split) <;> omega
theorem nan_any (w : World) (x : Int) : Calls Try.prog 34 #[.int .i64 x] w fun e w' => e = .returned (.bool false) ∧ w' = w := by
  go_enter Try.func34, Try.ntmps34
  go_wp2
  go_ret
  exact ⟨by simp, rfl⟩
theorem compare_any (w : World) (x y : Int) : Calls Try.prog 26 #[.int .i64 x, .int .i64 y] w fun e w' => e = .returned (.int .i64 (cmpI x y)) ∧ w' = w := by
  obtain ⟨r, hr⟩ : ∃ r, r = cmpI x y := ⟨_, rfl⟩
  rw [← hr]
  have hn := nan_any
  unfold cmpI at hr
  go_enter Try.func26, Try.ntmps26
  by_cases h1 : x < y
  · rw [if_pos h1] at hr
    subst hr
    go_wp2_with (go_at_call 34; refine (nan_any _ _).mono ?_; rintro e w1 ⟨rfl, rfl⟩)
    go_ret
    exact ⟨rfl, rfl⟩
  · rw [if_neg h1] at hr
    by_cases h2 : y < x
    · rw [if_pos h2] at hr
      subst hr
      go_wp2_with (go_at_call 34; refine (nan_any _ _).mono ?_; rintro e w1 ⟨rfl, rfl⟩)
      go_ret
      exact ⟨rfl, rfl⟩
    · rw [if_neg h2] at hr
      subst hr
      go_wp2_with (go_at_call 34; refine (nan_any _ _).mono ?_; rintro e w1 ⟨rfl, rfl⟩)
      go_ret
      exact ⟨rfl, rfl⟩
/-- The closure over the frequencies: below block b all that it reads. -/
def CmpF (w : World) (B b : Nat) (l : List Int) : Prop := B < b ∧ (∃ A c, w.cell? ⟨B, 0, none⟩ = some (.slice A l.length c) ∧ RdI w b A l)
theorem CmpF.below {w w' : World} {B b : Nat} {l : List Int} (h : CmpF w B b l) (hb : Below b w w') : CmpF w' B b l := by
  obtain ⟨h1, A, c, h2, h3⟩ := h
  exact ⟨h1, A, c, by rw [hb.cell (p := ⟨B, 0, none⟩) h1]; exact h2, h3.below hb (Nat.le_refl _)⟩
set_option maxHeartbeats 1000000 in
theorem clos_any (w : World) (B b : Nat) (l : List Int) (h : CmpF w B b l) (hl : l.length ≤ 400) (x y : Nat) (hx : x < l.length) (hy : y < l.length) :
    Calls Try.prog 25 #[.int .i64 (x : Int), .int .i64 (y : Int), .pointer (some ⟨B, 0, none⟩)] w fun e w' => e = .returned (.int .i64 (cmpI (l.getD x 0) (l.getD y 0))) ∧ ∃ q, w' = w.drewN q := by
  obtain ⟨h1, A, c, h2, h3⟩ := h
  obtain ⟨ba, o, rfl, hlt, hc⟩ := h3.at hx
  have c1 := hc x hx
  have c2 := hc y hy
  obtain ⟨u, hu⟩ : ∃ u, u = l.getD x 0 := ⟨_, rfl⟩
  obtain ⟨v, hv⟩ : ∃ v, v = l.getD y 0 := ⟨_, rfl⟩
  rw [← hu] at c1 ⊢
  rw [← hv] at c2 ⊢
  have hk := compare_any
  obtain ⟨N, hN⟩ : ∃ N, N = l.length := ⟨_, rfl⟩
  rw [← hN] at h2 hl hx hy
  have HK := Lib.hid hk
  clear hk hc hN hu hv h3
  go_enter Try.func25, Try.ntmps25
  go_wp2_with fail
  go_quiet ((go_at_call 26; exact Calls.quiet_of_same (HK.out _ _ _)))
  go_wp2_with fail
  go_ret
  exact ⟨rfl, nq, rfl⟩
end Go.Proofs.Ytgppikhfkikknaa
