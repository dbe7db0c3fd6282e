/-
  Layer 5 (tree): what the program's Next reads: the state of a reading; whether it is open; one bit more.
-/
import Derived.Test.YtedjapamimhglaaImpNxN
import Derived.Test.YtedjapamimhglaaImpTCk
namespace Go.Proofs.Ytedjapamimhglaa
open Go.RowKit
/-- The cells of a reading: sixteen numbers, a slice, two numbers. -/
def rdgL (c : Nat → Int) (v : Value) (n a : Int) : List Value := cntV c ++ [v, .int .i64 n, .int .i64 a]
def rdgA (c : Nat → Int) (v : Value) (n a : Int) : Array Value := (rdgL c v n a).toArray
theorem rdgA_size (c : Nat → Int) (v : Value) (n a : Int) : (rdgA c v n a).size = 19 := by simp [rdgA, rdgL, cntV]
theorem rdgA_get (c : Nat → Int) (v : Value) (n a : Int) (i : Nat) : (rdgA c v n a)[i]? = if i < 16 then some (.int .i64 (c i)) else if i = 16 then some v else if i = 17 then some (.int .i64 n) else if i = 18 then some (.int .i64 a) else none := by
  have e : (rdgA c v n a)[i]? = (rdgL c v n a)[i]? := by simp [rdgA]
  rw [e]
  unfold rdgL
  rw [List.getElem?_append, cntV_length, cntV_get]
  by_cases h : i < 16
  · rw [if_pos h, if_pos h, if_pos h]
  · rw [if_neg h, if_neg h]
    by_cases h2 : i = 16
    · subst h2; rfl
    · rw [if_neg h2]
      by_cases h3 : i = 17
      · subst h3; rfl
      · rw [if_neg h3]
        by_cases h4 : i = 18
        · subst h4; rfl
        · rw [if_neg h4, List.getElem?_eq_none (by simp; omega)]
theorem infoRdg : (Try.prog.info? 73).map (fun i => (i.zero, i.size)) = some (some (.agg (rdgA (fun _ => 0) (.slice none 0 0) 0 0)), 19) := by kernel_rfl
theorem szRdg : (Try.prog.info? 73).map (·.size) = some 19 := (zero_of_info infoRdg).2
def Rdg (w : World) (b : Nat) (c : Nat → Int) (v : Value) (n a : Int) : Prop := w.heap[b]? = some (.cells (rdgA c v n a) 73 (0, 0))
theorem Rdg.lt {w : World} {b : Nat} {c : Nat → Int} {v : Value} {n a : Int} (h : Rdg w b c v n a) : b < w.heap.size := (Array.getElem?_eq_some_iff.1 h).1
theorem Rdg.cnt {w : World} {b : Nat} {c : Nat → Int} {v : Value} {n a : Int} (h : Rdg w b c v n a) {i : Nat} (hi : i < 16) : w.cell? ⟨b, i, none⟩ = some (.int .i64 (c i)) := by
  rw [cell_of_row w b i _ _ (0, 0) h, rdgA_get, if_pos hi]
theorem Rdg.syms {w : World} {b : Nat} {c : Nat → Int} {v : Value} {n a : Int} (h : Rdg w b c v n a) : w.cell? ⟨b, 16, none⟩ = some v := by
  rw [cell_of_row w b 16 _ _ (0, 0) h, rdgA_get, if_neg (by omega), if_pos rfl]
theorem Rdg.long {w : World} {b : Nat} {c : Nat → Int} {v : Value} {n a : Int} (h : Rdg w b c v n a) : w.cell? ⟨b, 17, none⟩ = some (.int .i64 n) := by
  rw [cell_of_row w b 17 _ _ (0, 0) h, rdgA_get, if_neg (by omega), if_neg (by omega), if_pos rfl]
theorem Rdg.ahead {w : World} {b : Nat} {c : Nat → Int} {v : Value} {n a : Int} (h : Rdg w b c v n a) : w.cell? ⟨b, 18, none⟩ = some (.int .i64 a) := by
  rw [cell_of_row w b 18 _ _ (0, 0) h, rdgA_get, if_neg (by omega), if_neg (by omega), if_neg (by omega), if_pos rfl]
theorem Rdg.frozen {w : World} {b : Nat} {c : Nat → Int} {v : Value} {n a : Int} (h : Rdg w b c v n a) (j : Nat) : w.frozen? ⟨b, j, none⟩ = false := frozen_of_row w b j _ _ h
theorem Rdg.below {w w' : World} {b B : Nat} {c : Nat → Int} {v : Value} {n a : Int} (h : Rdg w b c v n a) (hb : Below B w w') (hg : b < B) : Rdg w' b c v n a := (hb.block b hg).trans h
theorem Rdg.drewN {w : World} {b : Nat} {c : Nat → Int} {v : Value} {n a : Int} (h : Rdg w b c v n a) (k : Nat) : Rdg (w.drewN k) b c v n a := h
theorem Rdg.setSyms {w : World} {b : Nat} {c : Nat → Int} {v : Value} {n a : Int} (h : Rdg w b c v n a) (u : Value) : Rdg (w.setCell ⟨b, 16, none⟩ u) b c u n a := by
  unfold Rdg; rw [heap_setCell_same w b 16 _ _ _ h]; rfl
theorem Rdg.setLong {w : World} {b : Nat} {c : Nat → Int} {v : Value} {n a : Int} (h : Rdg w b c v n a) (x : Int) : Rdg (w.setCell ⟨b, 17, none⟩ (.int .i64 x)) b c v x a := by
  unfold Rdg; rw [heap_setCell_same w b 17 _ _ _ h]; rfl
theorem Rdg.setAhead {w : World} {b : Nat} {c : Nat → Int} {v : Value} {n a : Int} (h : Rdg w b c v n a) (x : Int) : Rdg (w.setCell ⟨b, 18, none⟩ (.int .i64 x)) b c v n x := by
  unfold Rdg; rw [heap_setCell_same w b 18 _ _ _ h]; rfl
set_option maxRecDepth 100000 in
theorem open_any (w : World) (b : Nat) (c : Nat → Int) (A : Option Addr) (m cap : Nat) (n a : Int) (h : Rdg w b c (.slice A m cap) n a) :
    Calls Try.prog 33 #[.pointer (some ⟨b, 0, none⟩)] w fun e w' => e = .returned (.bool (decide (0 < m))) ∧ w = w' := by
  have k := h.syms
  clear h
  cases hd : decide (0 < m)
  · have h2 : decide ((m : Int) > 0) = false := by simp at hd ⊢; omega
    have h3 : decide ((0 : Int) < (m : Int)) = false := by simp at hd ⊢; omega
    go_enter Try.func33, Try.ntmps33
    go_wp2
    go_ret
    exact ⟨rfl, rfl⟩
  · have h2 : decide ((m : Int) > 0) = true := by simp at hd ⊢; omega
    have h3 : decide ((0 : Int) < (m : Int)) = true := by simp at hd ⊢; omega
    go_enter Try.func33, Try.ntmps33
    go_wp2
    go_ret
    exact ⟨rfl, rfl⟩
/-- What one bit more tells: a symbol, or what is left. -/
def TakeOut (w0 : World) (b : Nat) (c : Nat → Int) (A : Option Addr) (m cap n a bit : Nat) (l : List Int) (e : Ending) (w' : World) : Prop :=
  Below b w0 w' ∧ ∃ q : Nat, c (n + 1) = (q : Int) ∧ ((2 * a + bit < q ∧ e = .returned (.tuple #[.int .i64 (l.getD (2 * a + bit) 0), .bool true])) ∨
    (q ≤ 2 * a + bit ∧ e = .returned (.tuple #[.int .i64 0, .bool false]) ∧ ∃ A2, (A = none → A2 = none) ∧ (∀ x, A = some x → A2 = if cap = q then some x else some (x.add q)) ∧ Rdg w' b c (.slice A2 (m - q) (cap - q)) ((n + 1 : Nat) : Int) ((2 * a + bit - q : Nat) : Int)))
set_option maxRecDepth 100000 in
set_option maxHeartbeats 2000000 in
theorem take1_any (w : World) (b : Nat) (c : Nat → Int) (A : Option Addr) (m cap n a bit q : Nat) (l : List Int) (h : Rdg w b c (.slice A m cap) (n : Int) (a : Int)) (hl : m = l.length) (hr : RdI w b A l) (hmc : m ≤ cap) (hc : cap ≤ maxLen) (hn : n < 15) (ha : a ≤ 1000000) (hb : bit < 2)
    (hq : c (n + 1) = (q : Int)) (hqm : q ≤ m) :
    Calls Try.prog 35 #[.pointer (some ⟨b, 0, none⟩), .int .i64 (bit : Int)] w (TakeOut w b c A m cap n a bit l) := by
  unfold maxLen at hc
  have k1 := h.long
  have f1 := h.frozen 17
  have f0 := h.frozen 16
  have h2 := h.setLong ((n : Int) + 1)
  have k2 := h2.ahead
  have f2 := h2.frozen 18
  have h3 := h2.setAhead (2 * (a : Int) + (bit : Int))
  have k3 := h3.long
  have k4 := h3.cnt (show n + 1 < 16 by omega)
  have k5 := h3.ahead
  have k6 := h3.syms
  have f5 := h3.frozen 18
  rw [hq] at k4
  have hb2 := ((Below.refl b w).setCell (p := ⟨b, 17, none⟩) (Nat.le_refl _) (.int .i64 ((n : Int) + 1))).setCell (p := ⟨b, 18, none⟩) (Nat.le_refl _) (.int .i64 (2 * (a : Int) + (bit : Int)))
  have HB := Lib.hid hb2; have H3 := Lib.hid h3; have HR := Lib.hid hr; have HL := Lib.hid hl; have HQ := Lib.hid hq
  clear h h2 h3 hb2 hr hl hq
  have hn16 : (n : Int) + 1 < 16 := by omega
  by_cases hx : 2 * a + bit < q
  · have hd : decide (2 * (a : Int) + (bit : Int) < (q : Int)) = true := by simp; omega
    obtain ⟨b1, o, rfl, hb1, hcc⟩ := (HR.out.below HB.out (Nat.le_refl _)).at (k := 2 * a + bit) (by rw [← HL.out]; omega)
    have e1 := hcc (2 * a + bit) (by rw [← HL.out]; omega)
    obtain ⟨y, hy⟩ : ∃ y, y = l.getD (2 * a + bit) 0 := ⟨_, rfl⟩
    rw [← hy] at e1
    have HY := Lib.hid hy
    clear hcc hy
    go_enter Try.func35, Try.ntmps35
    go_wp2
    go_quiet (fail)
    go_wp2
    go_quiet (fail)
    go_wp2
    go_ret2
    exact ⟨below_drawN (below_drawN HB.out _) _, q, HQ.out, .inl ⟨hx, by rw [HY.out]; rfl⟩⟩
  · have hd : decide (2 * (a : Int) + (bit : Int) < (q : Int)) = false := by simp; omega
    have hxq : 2 * (a : Int) + (bit : Int) - (q : Int) = ((2 * a + bit - q : Nat) : Int) := by omega
    have h4 := H3.out.setAhead (2 * (a : Int) + (bit : Int) - (q : Int))
    have H4 := Lib.hid h4; have HXQ := Lib.hid hxq
    have k7 := h4.syms
    have f7 := h4.frozen 16
    clear h4 hxq
    have hqc : q ≤ cap := by omega
    rcases A with _ | x
    · go_enter Try.func35, Try.ntmps35
      go_wp2
      go_quiet (fail)
      go_wp2
      go_ret2
      refine ⟨((below_drawN HB.out nq).setCell (p := ⟨b, 18, none⟩) (Nat.le_refl _) _).setCell (p := ⟨b, 16, none⟩) (Nat.le_refl _) _, q, HQ.out, .inr ⟨by omega, rfl, none, fun _ => rfl, (fun x h => by cases h), ?_⟩⟩
      have hfin := ((H3.out.drewN nq).setAhead (2 * (a : Int) + (bit : Int) - (q : Int))).setSyms (.slice none (m - q) (cap - q))
      rw [← HXQ.out]
      exact hfin
    · obtain ⟨A2, hA2⟩ : ∃ A2, (if cap = q then (some x : Option Addr) else some (x.add q)) = A2 := ⟨_, rfl⟩
      go_enter Try.func35, Try.ntmps35
      go_wp2
      go_quiet (fail)
      go_wp2
      go_ret2
      refine ⟨((below_drawN HB.out nq).setCell (p := ⟨b, 18, none⟩) (Nat.le_refl _) _).setCell (p := ⟨b, 16, none⟩) (Nat.le_refl _) _, q, HQ.out, .inr ⟨by omega, rfl, A2, (fun h => by cases h), (fun y h => by cases h; exact hA2.symm), ?_⟩⟩
      have hfin := ((H3.out.drewN nq).setAhead (2 * (a : Int) + (bit : Int) - (q : Int))).setSyms (.slice A2 (m - q) (cap - q))
      rw [← HXQ.out]
      exact hfin
end Go.Proofs.Ytedjapamimhglaa
