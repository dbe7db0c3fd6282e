/-
  Layer 4 (build): the document's first row.
-/
import Derived.Test.YtgppikhfkikknaaBuildPar
import Derived.OneCell
namespace Go.Proofs.Ytgppikhfkikknaa
open Go.RowKit
/-- A row of int of the call's own. -/
def RowI (w : World) (g n : Nat) (f : Nat → Nat) : Prop := ∃ cur : Array Value, w.heap[g]? = some (.cells cur 3 (0, 0)) ∧ ∀ j, j < n → cur[j]? = some (.int .i64 (f j : Int))
theorem RowI.lt {w : World} {g n : Nat} {f : Nat → Nat} (h : RowI w g n f) : g < w.heap.size := by
  obtain ⟨cur, h1, _⟩ := h; exact (Array.getElem?_eq_some_iff.1 h1).1
theorem RowI.cell {w : World} {g n : Nat} {f : Nat → Nat} (h : RowI w g n f) {j : Nat} (hj : j < n) : w.cell? ⟨g, j, none⟩ = some (.int .i64 (f j : Int)) := by
  obtain ⟨cur, h1, h2⟩ := h
  rw [cell_of_row w g _ _ _ (0, 0) h1]; exact h2 j hj
theorem RowI.frozen {w : World} {g n : Nat} {f : Nat → Nat} (h : RowI w g n f) (j : Nat) : w.frozen? ⟨g, j, none⟩ = false := by
  obtain ⟨cur, h1, _⟩ := h; exact frozen_of_row w g j _ _ h1
theorem RowI.set {w : World} {g n : Nat} {f : Nat → Nat} (h : RowI w g n f) (i x : Nat) : RowI (w.setCell ⟨g, i, none⟩ (.int .i64 (x : Int))) g n (upd f i x) := by
  obtain ⟨cur, h1, h2⟩ := h
  refine ⟨cur.setIfInBounds i (.int .i64 (x : Int)), heap_setCell_same w g _ cur _ _ h1, fun j hj => ?_⟩
  have hs : j < cur.size := by
    rcases Nat.lt_or_ge j cur.size with h | h
    · exact h
    · have := h2 j hj; rw [Array.getElem?_eq_none h] at this; cases this
  simp only [Array.getElem?_setIfInBounds, upd]
  by_cases e : j = i
  · subst e; rw [if_pos rfl, if_pos hs, if_pos rfl]
  · rw [if_neg (fun h => e h.symm), if_neg e]; exact h2 j hj
theorem RowI.below {w w' : World} {g n B : Nat} {f : Nat → Nat} (h : RowI w g n f) (hb : Below B w w') (hg : g < B) : RowI w' g n f := by
  obtain ⟨cur, h1, h2⟩ := h; exact ⟨cur, (hb.block g hg).trans h1, h2⟩
theorem RowI.ext {w : World} {g n : Nat} {f f' : Nat → Nat} (h : RowI w g n f) (e : ∀ j, j < n → f j = f' j) : RowI w g n f' := by
  obtain ⟨cur, h1, h2⟩ := h; exact ⟨cur, h1, fun j hj => by rw [← e j hj]; exact h2 j hj⟩
theorem rowI_made (w : World) (n : Nat) : RowI (w.alloc (.cells (madeCells #[.int .i64 0] n) 3)) w.heap.size n (fun _ => 0) := by
  refine ⟨_, heap_alloc_new w _, fun j hj => ?_⟩
  unfold madeCells
  have e1 : j % 1 = 0 := by omega
  simp [hj, e1]
theorem rowI_one (w : World) (n k : Nat) : RowI (w.alloc (.cells ((madeCells #[.int .i64 0] n).setIfInBounds k (.int .i64 1)) 3)) w.heap.size n (upd (fun _ => 0) k 1) := by
  refine ⟨_, heap_alloc_new w _, fun j hj => ?_⟩
  have e1 : j % 1 = 0 := by omega
  simp only [Array.getElem?_setIfInBounds, upd, size_madeCells]
  by_cases e : j = k
  · subst e; rw [if_pos rfl, if_pos hj, if_pos rfl]; rfl
  · rw [if_neg (fun h => e h.symm), if_neg e]
    unfold madeCells
    simp [hj, e1]
theorem make_ints (n : Nat) (h : n ≤ 1000) : ∀ u : World, (Instr.makeSlice 23 (.int .i64 (n : Int)) (.int .i64 (n : Int))).run Try.prog u =
      .ok (.slice (some ⟨u.heap.size, 0, none⟩) n n) (u.alloc (.cells (madeCells #[.int .i64 0] n) 3)) := fun u => by
  obtain ⟨i0, hi, hz0, hz1, hz2⟩ := info_parts infoInt
  have h := run_make (P := Try.prog) u 23 3 i0 (.int .i64 0) Try.underlying23 hi hz0 .i64 .i64 (n : Int) (n : Int) (by omega) (Int.le_refl _) (by rw [hz2]; omega) (by omega)
  rw [Int.toNat_natCast] at h
  simpa [hz1, Value.cells] using h
theorem OwnP.fresh {w : World} {base c n m : Nat} {A : Option Addr} {W : Nat → Nat} {C : Nat → Nat → Nat} (h : OwnP w base A c n m W C) {b : Nat} (hb : w.heap.size ≤ b) : some b ≠ (Value.slice A m c).ownBlock := by
  obtain ⟨cs, h1, _⟩ := h
  intro e
  have := (h1.lt b e.symm).2
  omega
set_option maxRecDepth 100000 in
set_option maxHeartbeats 4000000 in
theorem first_any (w : World) (A : Option Addr) (c : Nat) (l : List Int) (hr : RdI w w.heap.size A l) (A2 : Option Addr) (c2 : Nat) (L : List Nat) (hr2 : RdI w w.heap.size A2 (natsI L)) (hn : L.length ≤ 400)
    (hL : ∀ j, j < L.length → L.getD j 0 < l.length ∧ 0 < l.getD (L.getD j 0) 0) (hb : ∀ j, j < l.length → -9223372036854775808 ≤ l.getD j 0 ∧ l.getD j 0 ≤ 9223372036854775807) (hll : l.length ≤ 1000) :
    Calls Try.prog 36 #[.slice A l.length c, .slice A2 L.length c2] w fun e w' => ∃ A' c', e = .returned (.slice A' L.length c') ∧ Below w.heap.size w w' ∧
      OwnP w' w.heap.size A' c' L.length L.length (fun t => freqN l (L.getD t 0)) (fun t i => if i = t then 1 else 0) := by
  have HR := Lib.hid hr
  have HR2 := Lib.hid hr2
  have HL := Lib.hid hL
  have HBD := Lib.hid hb
  have hmk := make_ints L.length (by omega)
  have HML := natsI_length L
  clear hr hr2 hL hb
  obtain ⟨n, hn0⟩ : ∃ n, n = L.length := ⟨_, rfl⟩
  obtain ⟨W, hW⟩ : ∃ W : Nat → Nat, W = fun t => freqN l (L.getD t 0) := ⟨_, rfl⟩
  obtain ⟨C, hC⟩ : ∃ C : Nat → Nat → Nat, C = fun t i => if i = t then 1 else 0 := ⟨_, rfl⟩
  rw [← hn0] at hn HL HML hmk ⊢
  rw [← hW, ← hC]
  obtain ⟨N, hN0⟩ : ∃ N, N = l.length := ⟨_, rfl⟩
  rw [← hN0] at HL HBD hll ⊢
  have HN := Lib.hid hn0; have HNN := Lib.hid hN0; have HW := Lib.hid hW; have HC := Lib.hid hC; have HM := Lib.hid HML
  clear hn0 hN0 hW hC HML
  go_enter Try.func36, Try.ntmps36
  go_wp2
  go_loopw [5, 6, 7] (fun o i _ wr => ∃ (k : Nat) (Ao : Option Addr) (co : Nat), k ≤ n ∧ i = .int .i64 k ∧ o = .slice Ao k co ∧ OwnP wr w.heap.size Ao co n k W C ∧ Below w.heap.size w wr) (fun _ i _ _ => n - (intOf i).toNat)
  case atStart => exact ⟨0, none, 0, Nat.zero_le _, rfl, rfl, OwnP.none_ _ _ _ _ _, Below.refl _ _⟩
  case round =>
    obtain ⟨k, Ao, co, hk, rfl, rfl, hown, hbw⟩ := hrel
    by_cases hlt : k < n
    · have hfr := hown.fresh (Nat.le_refl _)
      obtain ⟨U, hU⟩ : ∃ U, U = wr.alloc (.cells ((madeCells #[.int .i64 0] n).setIfInBounds k (.int .i64 1)) 3) := ⟨_, rfl⟩
      have hmade := rowI_made wr n
      have hbU : Below wr.heap.size wr U := by rw [hU]; exact (Below.refl _ _).alloc (Nat.le_refl _) _
      have hsU : U.heap.size = wr.heap.size + 1 := by rw [hU]; simp
      have hrow : RowI U wr.heap.size n (C k) := by
        rw [hU]
        exact (rowI_one wr n k).ext (fun j _ => by rw [HC.out]; rfl)
      have hsz := hbw.size
      have hown2 := hown.after hbU
      have hbw2 := hbw.trans (hbU.mono hsz)
      obtain ⟨b2, o2, rfl, hb2, hc2⟩ := (HR2.out.below hbw2 (Nat.le_refl _)).at (k := k) (by rw [HM.out]; exact hlt)
      have hcell2 := hc2 k (by rw [HM.out]; exact hlt)
      rw [natsI_get] at hcell2
      have hj := HL.out k hlt
      obtain ⟨j, hj0⟩ : ∃ j, j = L.getD k 0 := ⟨_, rfl⟩
      rw [← hj0] at hj hcell2
      obtain ⟨hj1, hj2⟩ := hj
      obtain ⟨b1, o1, rfl, hb1, hc1⟩ := (HR.out.below hbw2 (Nat.le_refl _)).at (k := j) (by rw [← HNN.out]; exact hj1)
      have hcell1 := hc1 j (by rw [← HNN.out]; exact hj1)
      have hx : l.getD j 0 = (W k : Int) := by
        rw [HW.out]
        show l.getD j 0 = ((freqN l (L.getD k 0) : Nat) : Int)
        rw [← hj0]; unfold freqN; omega
      have hxb := (HBD.out j hj1).2
      rw [hx] at hcell1 hxb
      obtain ⟨Ac, cc, wc, r1, ho, hbc⟩ := run_par U w.heap.size Ao co n k W C hown2 wr.heap.size (by omega) hfr (fun i hi => hrow.cell hi) (by omega) hbw2.size
      rw [hsU] at r1
      have hfz := hmade.frozen k
      have HC0 := hmade.cell hlt
      have R1 := Lib.hid r1; have OWN := Lib.hid ho; have HBC := Lib.hid (hbw2.trans (hbc.mono (Nat.le_refl _)))
      clear hsU hown hbw hmade hbU hrow hown2 hbw2 hc1 hc2 hx hj0 r1 ho hbc hfr hj2
      subst hU
      go_wp2_with (at_builtin; refine wpList_append_run rfl (.tmp 20) (.tmp 30) 66 rfl (.slice Ao k co) (.slice (some ⟨wr.heap.size + 1, 0, none⟩) 1 1) (.slice Ac (k + 1) cc) wc rfl rfl R1.out ?_)
      go_roundw
      case rel => exact ⟨k + 1, Ac, cc, by omega, by go_num, rfl, OWN.out, HBC.out⟩
      case measure => simp [intOf]; omega
    · obtain rfl : k = n := by omega
      have HO := Lib.hid hown; have HB := Lib.hid hbw
      clear hown hbw hlt hk
      go_wp2
      go_ret
      exact ⟨Ao, co, rfl, HB.out, HO.out⟩
end Go.Proofs.Ytgppikhfkikknaa
