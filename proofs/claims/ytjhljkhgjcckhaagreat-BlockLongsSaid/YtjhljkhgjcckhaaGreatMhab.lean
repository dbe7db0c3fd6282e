/-
  Layer 3 (canon), numbers alone: what lengths count, where each symbol's code begins, and what follows of it.
-/
import Derived.OneCell
import Derived.BigQuiet
import Derived.Deep.RegionLaw
import Derived.Lib.AppendZeros
import Derived.BigRegion
import Derived.Test.YtjhljkhgjcckhaaGreatMhaa
namespace Go.Proofs.YtjhljkhgjcckhaaGreat
open Go.RowKit
/-- A row of int of the call's own. -/
def RowI (w : World) (g n : Nat) (f : Nat → Nat) : Prop := ∃ cur : Array Value, w.heap[g]? = some (.cells cur 3 (0, 0)) ∧ ∀ j, j < n → cur[j]? = some (.int .i64 (f j : Int))
theorem RowI.lt {w : World} {g n : Nat} {f : Nat → Nat} (h : RowI w g n f) : g < w.heap.size := by
  obtain ⟨cur, h1, _⟩ := h; exact (Array.getElem?_eq_some_iff.1 h1).1
theorem RowI.cell {w : World} {g n : Nat} {f : Nat → Nat} (h : RowI w g n f) {j : Nat} (hj : j < n) : w.cell? ⟨g, j, none⟩ = some (.int .i64 (f j : Int)) := by
  obtain ⟨cur, h1, h2⟩ := h
  rw [cell_of_row w g _ _ _ (0, 0) h1]; exact h2 j hj
theorem RowI.frozen {w : World} {g n : Nat} {f : Nat → Nat} (h : RowI w g n f) (j : Nat) : w.frozen? ⟨g, j, none⟩ = false := by
  obtain ⟨cur, h1, _⟩ := h; exact frozen_of_row w g j _ _ h1
theorem RowI.set {w : World} {g n : Nat} {f : Nat → Nat} (h : RowI w g n f) (i x : Nat) : RowI (w.setCell ⟨g, i, none⟩ (.int .i64 (x : Int))) g n (upd f i x) := by
  obtain ⟨cur, h1, h2⟩ := h
  refine ⟨cur.setIfInBounds i (.int .i64 (x : Int)), heap_setCell_same w g _ cur _ _ h1, fun j hj => ?_⟩
  have hs : j < cur.size := by
    rcases Nat.lt_or_ge j cur.size with h | h
    · exact h
    · have := h2 j hj; rw [Array.getElem?_eq_none h] at this; cases this
  simp only [Array.getElem?_setIfInBounds, upd]
  by_cases e : j = i
  · subst e; rw [if_pos rfl, if_pos hs, if_pos rfl]
  · rw [if_neg (fun h => e h.symm), if_neg e]; exact h2 j hj
theorem RowI.below {w w' : World} {g n B : Nat} {f : Nat → Nat} (h : RowI w g n f) (hb : Below B w w') (hg : g < B) : RowI w' g n f := by
  obtain ⟨cur, h1, h2⟩ := h; exact ⟨cur, (hb.block g hg).trans h1, h2⟩
theorem RowI.ext {w : World} {g n : Nat} {f f' : Nat → Nat} (h : RowI w g n f) (e : ∀ j, j < n → f j = f' j) : RowI w g n f' := by
  obtain ⟨cur, h1, h2⟩ := h; exact ⟨cur, h1, fun j hj => by rw [← e j hj]; exact h2 j hj⟩
theorem rowI_made (w : World) (n : Nat) : RowI (w.alloc (.cells (madeCells #[.int .i64 0] n) 3)) w.heap.size n (fun _ => 0) := by
  refine ⟨_, heap_alloc_new w _, fun j hj => ?_⟩
  unfold madeCells
  have e1 : j % 1 = 0 := by omega
  simp [hj, e1]
theorem rowI_one (w : World) (n k : Nat) : RowI (w.alloc (.cells ((madeCells #[.int .i64 0] n).setIfInBounds k (.int .i64 1)) 3)) w.heap.size n (upd (fun _ => 0) k 1) := by
  refine ⟨_, heap_alloc_new w _, fun j hj => ?_⟩
  have e1 : j % 1 = 0 := by omega
  simp only [Array.getElem?_setIfInBounds, upd, size_madeCells]
  by_cases e : j = k
  · subst e; rw [if_pos rfl, if_pos hj, if_pos rfl]; rfl
  · rw [if_neg (fun h => e h.symm), if_neg e]
    unfold madeCells
    simp [hj, e1]
theorem make_ints (n : Nat) (h : n ≤ 1000) : ∀ u : World, (Instr.makeSlice 116 (.int .i64 (n : Int)) (.int .i64 (n : Int))).run Tryz.prog u =
      .ok (.slice (some ⟨u.heap.size, 0, none⟩) n n) (u.alloc (.cells (madeCells #[.int .i64 0] n) 3)) := fun u => by
  obtain ⟨i0, hi, hz0, hz1, hz2⟩ := info_parts infoInt
  have h := run_make (P := Tryz.prog) u 116 3 i0 (.int .i64 0) Tryz.underlying116 hi hz0 .i64 .i64 (n : Int) (n : Int) (by omega) (Int.le_refl _) (by rw [hz2]; omega) (by omega)
  rw [Int.toNat_natCast] at h
  simpa [hz1, Value.cells] using h
theorem OwnP.fresh {w : World} {base c n m : Nat} {A : Option Addr} {W : Nat → Nat} {C : Nat → Nat → Nat} (h : OwnP w base A c n m W C) {b : Nat} (hb : w.heap.size ≤ b) : some b ≠ (Value.slice A m c).ownBlock := by
  obtain ⟨cs, h1, _⟩ := h
  intro e
  have := (h1.lt b e.symm).2
  omega
set_option maxRecDepth 100000 in
set_option maxHeartbeats 4000000 in
theorem first_any (w : World) (A : Option Addr) (c : Nat) (l : List Int) (hr : RdI w w.heap.size A l) (A2 : Option Addr) (c2 : Nat) (L : List Nat) (hr2 : RdI w w.heap.size A2 (natsI L)) (hn : L.length ≤ 400)
    (hL : ∀ j, j < L.length → L.getD j 0 < l.length ∧ 0 < l.getD (L.getD j 0) 0) (hb : ∀ j, j < l.length → -9223372036854775808 ≤ l.getD j 0 ∧ l.getD j 0 ≤ 9223372036854775807) (_hll : l.length ≤ 1000) :
    Calls Tryz.prog 110 #[.slice A l.length c, .slice A2 L.length c2] w fun e w' => ∃ A' c', e = .returned (.slice A' L.length c') ∧ Below w.heap.size w w' ∧
      OwnP w' w.heap.size A' c' L.length L.length (fun t => freqN l (L.getD t 0)) (fun t i => if i = t then 1 else 0) := by
  have HR := Lib.hid hr
  have HR2 := Lib.hid hr2
  have HL := Lib.hid hL
  have HBD := Lib.hid hb
  have hmk := make_ints L.length (by omega)
  have HML := natsI_length L
  clear hr hr2 hL hb
  obtain ⟨n, hn0⟩ : ∃ n, n = L.length := ⟨_, rfl⟩
  obtain ⟨W, hW⟩ : ∃ W : Nat → Nat, W = fun t => freqN l (L.getD t 0) := ⟨_, rfl⟩
  obtain ⟨C, hC⟩ : ∃ C : Nat → Nat → Nat, C = fun t i => if i = t then 1 else 0 := ⟨_, rfl⟩
  rw [← hn0] at hn HL HML hmk ⊢
  rw [← hW, ← hC]
  obtain ⟨N, hN0⟩ : ∃ N, N = l.length := ⟨_, rfl⟩
  rw [← hN0] at HL HBD _hll ⊢
  have HN := Lib.hid hn0; have HNN := Lib.hid hN0; have HW := Lib.hid hW; have HC := Lib.hid hC; have HM := Lib.hid HML
  clear hn0 hN0 hW hC HML
  go_enter Tryz.func110, Tryz.ntmps110
  go_wp2
  go_loopw [5, 6, 7] (fun o i _ wr => ∃ (k : Nat) (Ao : Option Addr) (co : Nat), k ≤ n ∧ i = .int .i64 k ∧ o = .slice Ao k co ∧ OwnP wr w.heap.size Ao co n k W C ∧ Below w.heap.size w wr) (fun _ i _ _ => n - (intOf i).toNat)
  case atStart => exact ⟨0, none, 0, Nat.zero_le _, rfl, rfl, OwnP.none_ _ _ _ _ _, Below.refl _ _⟩
  case round =>
    obtain ⟨k, Ao, co, hk, rfl, rfl, hown, hbw⟩ := hrel
    by_cases hlt : k < n
    · have hfr := hown.fresh (Nat.le_refl _)
      obtain ⟨U, hU⟩ : ∃ U, U = wr.alloc (.cells ((madeCells #[.int .i64 0] n).setIfInBounds k (.int .i64 1)) 3) := ⟨_, rfl⟩
      have hmade := rowI_made wr n
      have hbU : Below wr.heap.size wr U := by rw [hU]; exact (Below.refl _ _).alloc (Nat.le_refl _) _
      have hsU : U.heap.size = wr.heap.size + 1 := by rw [hU]; simp
      have hrow : RowI U wr.heap.size n (C k) := by
        rw [hU]
        exact (rowI_one wr n k).ext (fun j _ => by rw [HC.out]; rfl)
      have hsz := hbw.size
      have hown2 := hown.after hbU
      have hbw2 := hbw.trans (hbU.mono hsz)
      obtain ⟨b2, o2, rfl, hb2, hc2⟩ := (HR2.out.below hbw2 (Nat.le_refl _)).at (k := k) (by rw [HM.out]; exact hlt)
      have hcell2 := hc2 k (by rw [HM.out]; exact hlt)
      rw [natsI_get] at hcell2
      have hj := HL.out k hlt
      obtain ⟨j, hj0⟩ : ∃ j, j = L.getD k 0 := ⟨_, rfl⟩
      rw [← hj0] at hj hcell2
      obtain ⟨hj1, hj2⟩ := hj
      obtain ⟨b1, o1, rfl, hb1, hc1⟩ := (HR.out.below hbw2 (Nat.le_refl _)).at (k := j) (by rw [← HNN.out]; exact hj1)
      have hcell1 := hc1 j (by rw [← HNN.out]; exact hj1)
      have hx : l.getD j 0 = (W k : Int) := by
        rw [HW.out]
        show l.getD j 0 = ((freqN l (L.getD k 0) : Nat) : Int)
        rw [← hj0]; unfold freqN; omega
      have hxb := (HBD.out j hj1).2
      rw [hx] at hcell1 hxb
      obtain ⟨Ac, cc, wc, r1, ho, hbc⟩ := run_par U w.heap.size Ao co n k W C hown2 wr.heap.size (by omega) hfr (fun i hi => hrow.cell hi) (by omega) hbw2.size
      rw [hsU] at r1
      have hfz := hmade.frozen k
      have HC0 := hmade.cell hlt
      have R1 := Lib.hid r1; have OWN := Lib.hid ho; have HBC := Lib.hid (hbw2.trans (hbc.mono (Nat.le_refl _)))
      clear hsU hown hbw hmade hbU hrow hown2 hbw2 hc1 hc2 hx hj0 r1 ho hbc hfr hj2
      subst hU
      go_wp2_with (at_builtin; refine wpList_append_run rfl (.tmp 20) (.tmp 30) 183 rfl (.slice Ao k co) (.slice (some ⟨wr.heap.size + 1, 0, none⟩) 1 1) (.slice Ac (k + 1) cc) wc rfl rfl R1.out ?_)
      go_roundw
      case rel => exact ⟨k + 1, Ac, cc, by omega, by go_num, rfl, OWN.out, HBC.out⟩
      case measure => simp [intOf]; omega
    · obtain rfl : k = n := by omega
      have HO := Lib.hid hown; have HB := Lib.hid hbw
      clear hown hbw hlt hk
      go_wp2
      go_ret
      exact ⟨Ao, co, rfl, HB.out, HO.out⟩
end Go.Proofs.YtjhljkhgjcckhaaGreat

namespace Go.Proofs.YtjhljkhgjcckhaaGreat
open Go.RowKit
theorem OwnP.away {w : World} {base c n m : Nat} {A : Option Addr} {W : Nat → Nat} {C : Nat → Nat → Nat} (h : OwnP w base A c n m W C) {b : Nat} (hb : b < base) : some b ≠ (Value.slice A m c).ownBlock := by
  obtain ⟨cs, h1, _⟩ := h
  intro e
  have := (h1.lt b e.symm).1
  omega
theorem OwnP.drawn {w : World} {base c n m : Nat} {A : Option Addr} {W : Nat → Nat} {C : Nat → Nat → Nat} (h : OwnP w base A c n m W C) (q : Nat) : OwnP (w.drewN q) base A c n m W C := h
theorem below_drew4 {B : Nat} {a w : World} (h : Below B a w) (n : Nat) : Below B a (w.drewN n) := ⟨h.os, h.tape, h.output, h.size, h.block⟩
set_option maxRecDepth 100000 in
set_option maxHeartbeats 4000000 in
theorem merged_any (w : World) (A : Option Addr) (c n : Nat) (W1 : Nat → Nat) (C1 : Nat → Nat → Nat) (hr : RdP w w.heap.size A n n W1 C1) (A2 : Option Addr) (c2 m : Nat) (W2 : Nat → Nat) (C2 : Nat → Nat → Nat) (hr2 : RdP w w.heap.size A2 n m W2 C2) (hnm : n + m ≤ 900) :
    Calls Tryz.prog 111 #[.slice A n c, .slice A2 m c2] w fun e w' => ∃ A' c', e = .returned (.slice A' (n + m) c') ∧ Below w.heap.size w w' ∧
      OwnP w' w.heap.size A' c' n (n + m) (mrg n m W1 W2) (fun t i => mrgOf n m W1 W2 (fun s => C1 s i) (fun s => C2 s i) t) := by
  have HR := Lib.hid hr
  have HR2 := Lib.hid hr2
  clear hr hr2
  obtain ⟨W, hW⟩ : ∃ W : Nat → Nat, W = mrg n m W1 W2 := ⟨_, rfl⟩
  obtain ⟨C, hC⟩ : ∃ C : Nat → Nat → Nat, C = fun t i => mrgOf n m W1 W2 (fun s => C1 s i) (fun s => C2 s i) t := ⟨_, rfl⟩
  rw [← hW, ← hC]
  have HW := Lib.hid hW; have HC := Lib.hid hC
  clear hW hC
  go_enter Tryz.func111, Tryz.ntmps111
  go_wp2
  go_loopw [5, 6, 7] (fun o i k wr => ∃ (x y : Nat) (Ao : Option Addr) (co : Nat), x ≤ n ∧ y ≤ m ∧ i = .int .i64 x ∧ k = .int .i64 y ∧ o = .slice Ao (x + y) co ∧ stepI n m W1 W2 (x + y) = x ∧ OwnP wr w.heap.size Ao co n (x + y) W C ∧ Below w.heap.size w wr) (fun _ i k _ => n + m - (intOf i).toNat - (intOf k).toNat)
  case atStart => exact ⟨0, 0, none, 0, Nat.zero_le _, Nat.zero_le _, rfl, rfl, rfl, rfl, OwnP.none_ _ _ _ _ _, Below.refl _ _⟩
  case round =>
    obtain ⟨x, y, Ao, co, hx, hy, rfl, rfl, rfl, hst, hown, hbw⟩ := hrel
    have hsz := hbw.size
    have hs : stepI n m W1 W2 (x + y + 1) = if pickB n m W1 W2 x y = true then x + 1 else x := by
      show (if pickB n m W1 W2 (stepI n m W1 W2 (x + y)) (x + y - stepI n m W1 W2 (x + y)) = true then stepI n m W1 W2 (x + y) + 1 else stepI n m W1 W2 (x + y)) = _
      rw [hst, show x + y - x = y by omega]
    have hw : W (x + y) = if pickB n m W1 W2 x y = true then W1 x else W2 y := by
      rw [HW.out]; unfold mrg; rw [hst, show x + y - x = y by omega]
    have hc : ∀ i, C (x + y) i = if pickB n m W1 W2 x y = true then C1 x i else C2 y i := fun i => by
      rw [HC.out]; show mrgOf _ _ _ _ _ _ _ = _; unfold mrgOf; rw [hst, show x + y - x = y by omega]
    by_cases hdone : x < n ∨ y < m
    · by_cases hp : pickB n m W1 W2 x y = true
      · rw [if_pos hp] at hs hw
        have hxn : x < n := by have := of_decide_eq_true hp; omega
        have hpp := of_decide_eq_true hp
        obtain ⟨a, o, rfl, ha, hcc⟩ := (HR.out.below hbw (Nat.le_refl _)).at (by omega)
        obtain ⟨b, h1, h2, hb, h3⟩ := hcc x hxn
        have hnx : ((x : Int) < (n : Int)) := by omega
        have HO := Lib.hid hown; have HB := Lib.hid hbw; have HS := Lib.hid hs; have HC1 := Lib.hid hc; have HH := Lib.hid h3; have HP := Lib.hid hp
        rw [← hw] at h1
        obtain ⟨g, hg⟩ : ∃ g, g = W (x + y) := ⟨_, rfl⟩
        rw [← hg] at h1 hw
        have HG := Lib.hid hg
        by_cases hym : y = m
        · have heq : ((y : Int) == (m : Int)) = true := by simp; omega
          clear hown hbw hs hc h3 hst hp hg hcc hdone hw hpp hym
          go_wp2
          go_quiet (fail)
          obtain ⟨V, hV⟩ : ∃ V, V = wr.drewN nq := ⟨_, rfl⟩
          have e1 : V.cell? ⟨a, o + x * 2, none⟩ = some (.int .i64 (g : Int)) := by rw [hV]; exact h1
          have e2 : V.cell? ⟨a, o + x * 2 + 1, none⟩ = some (.slice (some ⟨b, 0, none⟩) n n) := by rw [hV]; exact h2
          have hVs : V.heap.size = wr.heap.size := by rw [hV]; rfl
          have hVo : OwnP V w.heap.size Ao co n (x + y) W C := by rw [hV]; exact HO.out.drawn nq
          have hVb : Below w.heap.size w V := by rw [hV]; exact below_drew4 HB.out nq
          have hcv : ∀ i, i < n → V.cell? ⟨b, i, none⟩ = some (.int .i64 (C (x + y) i : Int)) := fun i hi => by rw [hV, HC1.out i, if_pos HP.out]; exact HH.out i hi
          rw [← hV]
          have hvz := hVb.size
          have hvb : b < V.heap.size := by omega
          clear hV h1 h2
          obtain ⟨Ac, cc, wc, r1, ho, hbc⟩ := run_par V w.heap.size Ao co n (x + y) W C hVo b (by omega) (hVo.away hb) hcv (by omega) hVb.size
          rw [← HG.out] at r1
          have R1 := Lib.hid r1; have OWN := Lib.hid ho; have HBC := Lib.hid (hVb.trans hbc)
          clear r1 ho hbc hVo hVb hcv hVs hvb
          go_wp2_with (at_builtin; refine wpList_append_run rfl (.tmp 41) (.tmp 46) 183 rfl (.slice Ao (x + y) co) (.slice (some ⟨V.heap.size, 0, none⟩) 1 1) (.slice Ac (x + y + 1) cc) wc rfl rfl R1.out ?_)
          go_roundw
          case rel =>
            refine ⟨x + 1, y, Ac, cc, by omega, hy, by go_num, rfl, by rw [show x + 1 + y = x + y + 1 by omega], by rw [show x + 1 + y = x + y + 1 by omega]; exact HS.out, ?_, HBC.out⟩
            rw [show x + 1 + y = x + y + 1 by omega]; exact OWN.out
          case measure => simp [intOf]; omega
        · have heq : ((y : Int) == (m : Int)) = false := by simp; omega
          obtain ⟨a2, o2, rfl, ha2, hcc2⟩ := (HR2.out.below hbw (Nat.le_refl _)).at (by omega)
          obtain ⟨_, h4, _, _, _⟩ := hcc2 y (by omega)
          obtain ⟨g2, hg2⟩ : ∃ g2, g2 = W2 y := ⟨_, rfl⟩
          have hle : decide ((g : Int) ≤ (g2 : Int)) = true := by simp; omega
          have hle2 : decide (g ≤ g2) = true := by simpa using hle
          rw [← hg2] at h4
          have HG2 := Lib.hid hg2
          clear hown hbw hs hc h3 hst hp hg hcc hcc2 hg2 hdone hw hpp
          go_wp2
          go_quiet (fail)
          obtain ⟨V, hV⟩ : ∃ V, V = wr.drewN nq := ⟨_, rfl⟩
          have e1 : V.cell? ⟨a, o + x * 2, none⟩ = some (.int .i64 (g : Int)) := by rw [hV]; exact h1
          have e2 : V.cell? ⟨a, o + x * 2 + 1, none⟩ = some (.slice (some ⟨b, 0, none⟩) n n) := by rw [hV]; exact h2
          have hVs : V.heap.size = wr.heap.size := by rw [hV]; rfl
          have hVo : OwnP V w.heap.size Ao co n (x + y) W C := by rw [hV]; exact HO.out.drawn nq
          have hVb : Below w.heap.size w V := by rw [hV]; exact below_drew4 HB.out nq
          have hcv : ∀ i, i < n → V.cell? ⟨b, i, none⟩ = some (.int .i64 (C (x + y) i : Int)) := fun i hi => by rw [hV, HC1.out i, if_pos HP.out]; exact HH.out i hi
          rw [← hV]
          have hvz := hVb.size
          have hvb : b < V.heap.size := by omega
          clear hV h1 h2
          obtain ⟨Ac, cc, wc, r1, ho, hbc⟩ := run_par V w.heap.size Ao co n (x + y) W C hVo b (by omega) (hVo.away hb) hcv (by omega) hVb.size
          rw [← HG.out] at r1
          have R1 := Lib.hid r1; have OWN := Lib.hid ho; have HBC := Lib.hid (hVb.trans hbc)
          clear r1 ho hbc hVo hVb hcv hVs hvb
          go_wp2_with (at_builtin; refine wpList_append_run rfl (.tmp 41) (.tmp 46) 183 rfl (.slice Ao (x + y) co) (.slice (some ⟨V.heap.size, 0, none⟩) 1 1) (.slice Ac (x + y + 1) cc) wc rfl rfl R1.out ?_)
          go_roundw
          case rel =>
            refine ⟨x + 1, y, Ac, cc, by omega, hy, by go_num, rfl, by rw [show x + 1 + y = x + y + 1 by omega], by rw [show x + 1 + y = x + y + 1 by omega]; exact HS.out, ?_, HBC.out⟩
            rw [show x + 1 + y = x + y + 1 by omega]; exact OWN.out
          case measure => simp [intOf]; omega
      · have hpf : pickB n m W1 W2 x y = false := by simpa using hp
        have hpp := of_decide_eq_false hpf
        rw [if_neg hp] at hs hw
        have hym : y < m := by omega
        obtain ⟨a, o, rfl, ha, hcc⟩ := (HR2.out.below hbw (Nat.le_refl _)).at (by omega)
        obtain ⟨b, h1, h2, hb, h3⟩ := hcc y hym
        have HO := Lib.hid hown; have HB := Lib.hid hbw; have HS := Lib.hid hs; have HC1 := Lib.hid hc; have HH := Lib.hid h3; have HP := Lib.hid hp
        rw [← hw] at h1
        obtain ⟨g, hg⟩ : ∃ g, g = W (x + y) := ⟨_, rfl⟩
        rw [← hg] at h1 hw
        have HG := Lib.hid hg
        have hmy : ((y : Int) < (m : Int)) := by omega
        have heq : ((y : Int) == (m : Int)) = false := by simp; omega
        by_cases hxn : x < n
        · obtain ⟨a2, o2, rfl, ha2, hcc2⟩ := (HR.out.below hbw (Nat.le_refl _)).at (by omega)
          obtain ⟨_, h4, _, _, _⟩ := hcc2 x hxn
          obtain ⟨g2, hg2⟩ : ∃ g2, g2 = W1 x := ⟨_, rfl⟩
          have hle : decide ((g2 : Int) ≤ (g : Int)) = false := by simp; omega
          have hnx : ((x : Int) < (n : Int)) := by omega
          have hle2 : decide (g2 ≤ g) = false := by simp at hle ⊢; omega
          rw [← hg2] at h4
          have HG2 := Lib.hid hg2
          clear hown hbw hs hc h3 hst hp hg hcc hcc2 hg2 hdone hw hpp hpf
          go_wp2
          go_quiet (fail)
          obtain ⟨V, hV⟩ : ∃ V, V = wr.drewN nq := ⟨_, rfl⟩
          have e1 : V.cell? ⟨a, o + y * 2, none⟩ = some (.int .i64 (g : Int)) := by rw [hV]; exact h1
          have e2 : V.cell? ⟨a, o + y * 2 + 1, none⟩ = some (.slice (some ⟨b, 0, none⟩) n n) := by rw [hV]; exact h2
          have hVs : V.heap.size = wr.heap.size := by rw [hV]; rfl
          have hVo : OwnP V w.heap.size Ao co n (x + y) W C := by rw [hV]; exact HO.out.drawn nq
          have hVb : Below w.heap.size w V := by rw [hV]; exact below_drew4 HB.out nq
          have hcv : ∀ i, i < n → V.cell? ⟨b, i, none⟩ = some (.int .i64 (C (x + y) i : Int)) := fun i hi => by rw [hV, HC1.out i, if_neg HP.out]; exact HH.out i hi
          rw [← hV]
          have hvz := hVb.size
          have hvb : b < V.heap.size := by omega
          clear hV h1 h2
          obtain ⟨Ac, cc, wc, r1, ho, hbc⟩ := run_par V w.heap.size Ao co n (x + y) W C hVo b (by omega) (hVo.away hb) hcv (by omega) hVb.size
          rw [← HG.out] at r1
          have R1 := Lib.hid r1; have OWN := Lib.hid ho; have HBC := Lib.hid (hVb.trans hbc)
          clear r1 ho hbc hVo hVb hcv hVs hvb
          go_wp2_with (at_builtin; refine wpList_append_run rfl (.tmp 50) (.tmp 55) 183 rfl (.slice Ao (x + y) co) (.slice (some ⟨V.heap.size, 0, none⟩) 1 1) (.slice Ac (x + y + 1) cc) wc rfl rfl R1.out ?_)
          go_roundw
          case rel =>
            exact ⟨x, y + 1, Ac, cc, hx, by omega, rfl, by go_num, rfl, HS.out, OWN.out, HBC.out⟩
          case measure => simp [intOf]; omega
        · obtain rfl : x = n := by omega
          have d1 : decide ((x : Int) < (x : Int)) = false := by simp
          clear hown hbw hs hc h3 hst hp hg hcc hdone hw hpp hpf hxn
          go_wp2
          go_quiet (fail)
          obtain ⟨V, hV⟩ : ∃ V, V = wr.drewN nq := ⟨_, rfl⟩
          have e1 : V.cell? ⟨a, o + y * 2, none⟩ = some (.int .i64 (g : Int)) := by rw [hV]; exact h1
          have e2 : V.cell? ⟨a, o + y * 2 + 1, none⟩ = some (.slice (some ⟨b, 0, none⟩) x x) := by rw [hV]; exact h2
          have hVs : V.heap.size = wr.heap.size := by rw [hV]; rfl
          have hVo : OwnP V w.heap.size Ao co x (x + y) W C := by rw [hV]; exact HO.out.drawn nq
          have hVb : Below w.heap.size w V := by rw [hV]; exact below_drew4 HB.out nq
          have hcv : ∀ i, i < x → V.cell? ⟨b, i, none⟩ = some (.int .i64 (C (x + y) i : Int)) := fun i hi => by rw [hV, HC1.out i, if_neg HP.out]; exact HH.out i hi
          rw [← hV]
          have hvz := hVb.size
          have hvb : b < V.heap.size := by omega
          clear hV h1 h2
          obtain ⟨Ac, cc, wc, r1, ho, hbc⟩ := run_par V w.heap.size Ao co x (x + y) W C hVo b (by omega) (hVo.away hb) hcv (by omega) hVb.size
          rw [← HG.out] at r1
          have R1 := Lib.hid r1; have OWN := Lib.hid ho; have HBC := Lib.hid (hVb.trans hbc)
          clear r1 ho hbc hVo hVb hcv hVs hvb
          go_wp2_with (at_builtin; refine wpList_append_run rfl (.tmp 50) (.tmp 55) 183 rfl (.slice Ao (x + y) co) (.slice (some ⟨V.heap.size, 0, none⟩) 1 1) (.slice Ac (x + y + 1) cc) wc rfl rfl R1.out ?_)
          go_roundw
          case rel =>
            exact ⟨x, y + 1, Ac, cc, Nat.le_refl _, by omega, rfl, by go_num, rfl, HS.out, OWN.out, HBC.out⟩
          case measure => simp [intOf]; omega
    · obtain rfl : x = n := by omega
      obtain rfl : y = m := by omega
      have HO := Lib.hid hown; have HB := Lib.hid hbw
      clear hown hbw hdone hs hw hc hst
      have d1 : decide ((x : Int) < (x : Int)) = false := by simp
      have d2 : decide ((y : Int) < (y : Int)) = false := by simp
      go_wp2
      go_ret
      exact ⟨Ao, co, rfl, HB.out, HO.out⟩
end Go.Proofs.YtjhljkhgjcckhaaGreat

namespace Go.Proofs.YtjhljkhgjcckhaaGreat
open Go.RowKit
/-- An append whose run is known, as one step of a statement whose order is open. -/
theorem step_app {ops : Array Oper} {o : Oper} {a : Act} {w : World} {K : Act → World → Prop} {Q : Exit → Act → World → Prop} {E : Prop} (hgd : o.guard = none) (s x : Operand) (t tn : TypeId)
    (ho : o.op = .call { callee := .builtin .append, args := #[s, x], argTypes := #[t, tn] }) (vs vx : Value) (hs : a.eval s = vs) (hx : a.eval x = vx)
    (v' : Value) (w' : World) (hr : (Builtin.append_ #[t, tn] o.type #[vs, vx]).run Tryz.prog w = .ok v' w') (h : K (a.put o.dst v') w') :
    if Region.wanted o (yielded ops a.tmps) = true then Oper.wp Tryz.prog o a w K Q else E := by
  have hw : Region.wanted o (yielded ops a.tmps) = true := by simp [Region.wanted, hgd]
  rw [if_pos hw]
  exact Go.Lib.wp_append_run w s x t tn ho vs vx hs hx v' w' hr h
end Go.Proofs.YtjhljkhgjcckhaaGreat

namespace Go.Proofs.YtjhljkhgjcckhaaGreat
open Go.RowKit
def sumN (f g : Nat → Nat) (j i : Nat) : Nat := if i < j then f i + g i else 0
theorem sum_step (f g : Nat → Nat) (j : Nat) : upd (sumN f g j) j (f j + g j) = sumN f g (j + 1) := by
  funext i
  unfold upd sumN
  by_cases e : i = j
  · subst e; rw [if_pos rfl, if_pos (by omega)]
  · rw [if_neg e]
    by_cases h : i < j
    · rw [if_pos h, if_pos (by omega)]
    · rw [if_neg h, if_neg (by omega)]
set_option maxRecDepth 100000 in
set_option maxHeartbeats 4000000 in
theorem pairs_any (w : World) (A : Option Addr) (c n m : Nat) (W : Nat → Nat) (C : Nat → Nat → Nat) (hr : RdP w w.heap.size A n m W C) (hn : n ≤ 400) (hm : m ≤ 900)
    (hw : ∀ t, t < m → W t ≤ 1125899906842624) (hc : ∀ t i, t < m → C t i ≤ 1000) :
    Calls Tryz.prog 112 #[.slice A m c] w fun e w' => ∃ A' c', e = .returned (.slice A' (m / 2) c') ∧ Below w.heap.size w w' ∧
      OwnP w' w.heap.size A' c' n (m / 2) (prs W) (fun t i => prs (fun s => C s i) t) := by
  have HR := Lib.hid hr
  have HW := Lib.hid hw
  have HC := Lib.hid hc
  have hmk := make_ints n (by omega)
  clear hr hw hc
  obtain ⟨PW, hPW⟩ : ∃ PW : Nat → Nat, PW = prs W := ⟨_, rfl⟩
  obtain ⟨PC, hPC⟩ : ∃ PC : Nat → Nat → Nat, PC = fun t i => prs (fun s => C s i) t := ⟨_, rfl⟩
  rw [← hPW, ← hPC]
  have HPW := Lib.hid hPW; have HPC := Lib.hid hPC
  clear hPW hPC
  go_enter Tryz.func112, Tryz.ntmps112
  go_wp2
  go_loopw [3, 4, 5, 6] (fun o i _ _ wr => ∃ (t i0 : Nat) (Ao : Option Addr) (co : Nat), i0 = 2 * t ∧ i0 ≤ m ∧ i = .int .i64 i0 ∧ o = .slice Ao t co ∧ OwnP wr w.heap.size Ao co n t PW PC ∧ Below w.heap.size w wr) (fun _ i _ _ _ => m - (intOf i).toNat)
  case atStart => exact ⟨0, 0, none, 0, rfl, Nat.zero_le _, rfl, rfl, OwnP.none_ _ _ _ _ _, Below.refl _ _⟩
  case round =>
    obtain ⟨t, i0, Ao, co, hti, him, rfl, rfl, hown, hbw⟩ := hrel
    obtain ⟨wo, rfl⟩ : ∃ wo : World, wo = wr := ⟨_, rfl⟩
    have hsz := hbw.size
    by_cases hlt : i0 + 1 < m
    · obtain ⟨a, o, rfl, ha, hcc⟩ := (HR.out.below hbw (Nat.le_refl _)).at (by omega)
      obtain ⟨b1, h1, h2, hb1, h3⟩ := hcc i0 (by omega)
      obtain ⟨b2, h4, h5, hb2, h6⟩ := hcc (i0 + 1) hlt
      have HT := Lib.hid hti
      have HO := Lib.hid hown; have HB := Lib.hid hbw; have H1 := Lib.hid h1; have H2 := Lib.hid h2; have H3 := Lib.hid h3; have H4 := Lib.hid h4; have H5 := Lib.hid h5; have H6 := Lib.hid h6
      have hlti : ((i0 : Int) + 1 < (m : Int)) := by omega
      clear hown hbw hcc h1 h3 h4 h5 h6 hti
      go_wp2
      clear h2
      have HMADE := Lib.hid (rowI_made wo n)
      have HBA := Lib.hid ((Below.refl wo.heap.size wo).alloc (Nat.le_refl _) (.cells (madeCells #[.int .i64 0] n) 3))
      go_loopw [6] (fun k wi => ∃ j : Nat, j ≤ n ∧ k = .int .i64 j ∧ RowI wi wo.heap.size n (sumN (C i0) (C (i0 + 1)) j) ∧ Below wo.heap.size wo wi ∧ wo.heap.size < wi.heap.size) (fun k _ => n - (intOf k).toNat)
      case atStart => exact ⟨0, Nat.zero_le _, rfl, HMADE.out.ext (fun j _ => by unfold sumN; rw [if_neg (by omega)]), HBA.out, by simp⟩
      case round =>
        obtain ⟨j, hj, rfl, hrow, hbi, hszi⟩ := hrel
        obtain ⟨wi, rfl⟩ : ∃ wi : World, wi = wr := ⟨_, rfl⟩
        by_cases hjn : j < n
        · have c1 : wi.cell? ⟨a, o + i0 * 2 + 1, none⟩ = some (.slice (some ⟨b1, 0, none⟩) n n) := by rw [hbi.cell (p := ⟨a, o + i0 * 2 + 1, none⟩) (by show a < wo.heap.size; omega)]; exact H2.out
          have c2 : wi.cell? ⟨a, o + (i0 + 1) * 2 + 1, none⟩ = some (.slice (some ⟨b2, 0, none⟩) n n) := by rw [hbi.cell (p := ⟨a, o + (i0 + 1) * 2 + 1, none⟩) (by show a < wo.heap.size; omega)]; exact H5.out
          have c3 : wi.cell? ⟨b1, j, none⟩ = some (.int .i64 (C i0 j : Int)) := by rw [hbi.cell (p := ⟨b1, j, none⟩) (by show b1 < wo.heap.size; omega)]; exact H3.out j hjn
          have c4 : wi.cell? ⟨b2, j, none⟩ = some (.int .i64 (C (i0 + 1) j : Int)) := by rw [hbi.cell (p := ⟨b2, j, none⟩) (by show b2 < wo.heap.size; omega)]; exact H6.out j hjn
          have hcell := hrow.cell hjn
          have hfz := hrow.frozen j
          have hx1 := HC.out i0 j (by omega)
          have hx2 := HC.out (i0 + 1) j hlt
          obtain ⟨x1, hx1e⟩ : ∃ x, x = C i0 j := ⟨_, rfl⟩
          obtain ⟨x2, hx2e⟩ : ∃ x, x = C (i0 + 1) j := ⟨_, rfl⟩
          rw [← hx1e] at c3 hx1
          rw [← hx2e] at c4 hx2
          have X1 := Lib.hid hx1e; have X2 := Lib.hid hx2e
          have HROW := Lib.hid hrow; have HBI := Lib.hid hbi
          clear hrow hbi hx1e hx2e
          go_wp2
          go_region
          go_wp2
          go_roundw
          case rel =>
            have hset := HROW.out.set j (x1 + x2)
            rw [X1.out, X2.out, sum_step, ← X1.out, ← X2.out, Int.natCast_add] at hset
            refine ⟨j + 1, by omega, by go_num, hset, (HBI.out.setCell (Nat.le_refl _) _).drew, ?_⟩
            show wo.heap.size < (wi.setCell _ _).heap.size
            simpa [World.setCell] using hszi
          case measure => simp [intOf]; omega
        · obtain rfl : j = n := by omega
          have c1 : wi.cell? ⟨a, o + i0 * 2, none⟩ = some (.int .i64 (W i0 : Int)) := by rw [hbi.cell (p := ⟨a, o + i0 * 2, none⟩) (by show a < wo.heap.size; omega)]; exact H1.out
          have c2 : wi.cell? ⟨a, o + (i0 + 1) * 2, none⟩ = some (.int .i64 (W (i0 + 1) : Int)) := by rw [hbi.cell (p := ⟨a, o + (i0 + 1) * 2, none⟩) (by show a < wo.heap.size; omega)]; exact H4.out
          have hx1 := HW.out i0 (by omega)
          have hx2 := HW.out (i0 + 1) hlt
          have hpw : PW t = W i0 + W (i0 + 1) := by rw [HPW.out, HT.out]; rfl
          have hpc : ∀ i, i < j → PC t i = sumN (C i0) (C (i0 + 1)) j i := fun i hi => by rw [HPC.out, HT.out]; unfold sumN; rw [if_pos hi]; rfl
          have hvo := HO.out.after hbi
          have hvb := HB.out.trans (hbi.mono hsz)
          have hht := HT.out
          obtain ⟨Ac, cc, wc, r1, ho, hbc⟩ := run_par wi.drew w.heap.size Ao co j t PW PC hvo wo.heap.size hszi (HO.out.fresh (Nat.le_refl _)) (fun i hi => by rw [hpc i hi]; exact hrow.cell hi) (by omega) hvb.size
          rw [hpw, Int.natCast_add] at r1
          obtain ⟨x1, hx1e⟩ : ∃ x, x = W i0 := ⟨_, rfl⟩
          obtain ⟨x2, hx2e⟩ : ∃ x, x = W (i0 + 1) := ⟨_, rfl⟩
          rw [← hx1e] at c1 hx1 r1
          rw [← hx2e] at c2 hx2 r1
          have R1 := Lib.hid r1; have OWN := Lib.hid ho; have HBC := Lib.hid (hvb.drew.trans hbc)
          have hi0m : i0 < m := by omega
          have hp0 : (0 : Int) ≤ (i0 : Int) + 1 := by omega
          have hq1 : IntKind.i64.wrap ((i0 : Int) + 1) = (i0 : Int) + 1 := by rw [IntKind.wrap_i64]; omega
          have hq2 : IntKind.i64.wrap ((x1 : Int) + (x2 : Int)) = (x1 : Int) + (x2 : Int) := by rw [IntKind.wrap_i64]; omega
          clear r1 ho hbc hvo hvb hpw hpc hx1e hx2e hrow hbi hht hjn hj
          go_wp2
          go_region_law ((refine step_app rfl (.tmp 48) (.tmp 63) 183 183 rfl (.slice Ao t co) (.slice (some ⟨wi.heap.size, 0, none⟩) 1 1) rfl rfl (.slice Ac (t + 1) cc) wc R1.out ?_))
          all_goals (
            go_wp2
            refine ⟨⟨t + 1, i0 + 2, Ac, cc, by have := HT.out; omega, by omega, by go_num, rfl, OWN.out, HBC.out⟩, ?_⟩
            simp [intOf]; omega)
    · have hti2 : t = m / 2 := by omega
      have hf : decide ((i0 : Int) + 1 < (m : Int)) = false := by simp; omega
      have HO := Lib.hid hown; have HB := Lib.hid hbw; have HT := Lib.hid hti2
      clear hown hbw hti2 hti
      go_wp2
      rw [HT.out]
      go_ret
      exact ⟨Ao, co, rfl, HB.out, by rw [← HT.out]; exact HO.out⟩
end Go.Proofs.YtjhljkhgjcckhaaGreat

namespace Go.Proofs.YtjhljkhgjcckhaaGreat
open Go.RowKit
/-- Of symbol i, after t parcels and k items of the next: how often it was counted. -/
def outB (F : Nat → Nat) (N K t k i : Nat) : Nat :=
  if i < N ∧ 0 < F i then sm (fun s => conN (nI F N) (itemW F N) K s (rankN F N i)) t + (if rankN F N i < k then conN (nI F N) (itemW F N) K t (rankN F N i) else 0) else 0
theorem outB_start (F : Nat → Nat) (N K i : Nat) : outB F N K 0 0 i = 0 := by
  unfold outB
  split
  · rw [if_neg (by omega)]; rfl
  · rfl
theorem outB_next (F : Nat → Nat) (N K t i : Nat) : outB F N K t (nI F N) i = outB F N K (t + 1) 0 i := by
  unfold outB
  by_cases h : i < N ∧ 0 < F i
  · rw [if_pos h, if_pos h, if_pos (rank_at h.1 h.2).1, if_neg (by omega)]; rfl
  · rw [if_neg h, if_neg h]
theorem outB_at {F : Nat → Nat} {N k : Nat} (hk : k < nI F N) (K t : Nat) : outB F N K t k ((itemsL F N).getD k 0) = sm (fun s => conN (nI F N) (itemW F N) K s k) t := by
  have h := rank_of hk
  unfold outB
  rw [if_pos h.2, h.1, if_neg (by omega)]; rfl
theorem outB_step {F : Nat → Nat} {N k : Nat} (hk : k < nI F N) (K t : Nat) : upd (outB F N K t k) ((itemsL F N).getD k 0) (sm (fun s => conN (nI F N) (itemW F N) K s k) t + conN (nI F N) (itemW F N) K t k) = outB F N K t (k + 1) := by
  have h := rank_of hk
  funext i
  unfold upd
  by_cases e : i = (itemsL F N).getD k 0
  · subst e
    rw [if_pos rfl]
    unfold outB
    rw [if_pos h.2, h.1, if_pos (by omega)]
  · rw [if_neg e]
    unfold outB
    by_cases hi : i < N ∧ 0 < F i
    · rw [if_pos hi, if_pos hi]
      have hr := rank_at hi.1 hi.2
      have hne : rankN F N i ≠ k := fun h2 => e (by rw [← h2]; exact hr.2.symm)
      by_cases h3 : rankN F N i < k
      · rw [if_pos h3, if_pos (by omega)]
      · rw [if_neg h3, if_neg (by omega)]
    · rw [if_neg hi, if_neg hi]
theorem sm_con_le {n : Nat} {w : Nat → Nat} {K t k : Nat} (h : t < rowLen n K) : sm (fun s => conN n w K s k) t + conN n w K t k ≤ K + 1 := by
  have h1 := sm_con (n := n) (w := w) k K (t + 1) h
  have h2 := cnt_le n w K (t + 1) k
  have e : sm (fun s => conN n w K s k) (t + 1) = sm (fun s => conN n w K s k) t + conN n w K t k := rfl
  omega
theorem outB_end {F : Nat → Nat} {N L : Nat} (h2 : 2 ≤ nI F N) (hL : 0 < L) (hn : nI F N ≤ 2 ^ L) {i : Nat} (hi : i < N) : outB F N (L - 1) (2 * nI F N - 2) 0 i = lenB F N L i := by
  unfold outB lenB
  by_cases h : 0 < F i
  · rw [if_pos ⟨hi, h⟩, if_neg (by omega), if_neg (by omega), if_neg (by omega), sm_con _ _ _ (rowLen_enough hL hn)]; rfl
  · rw [if_neg (fun hh => h hh.2), if_pos (by omega)]
theorem rowW_made (w : World) (n : Nat) : RowW (w.alloc (.cells (madeCells #[.int .u8 0] n) 5)) w.heap.size n (fun _ => 0) := by
  refine ⟨_, heap_alloc_new w _, fun j hj => ?_⟩
  unfold madeCells
  have e1 : j % 1 = 0 := by omega
  simp [hj, e1]
theorem make_u8 (n : Nat) (h : n ≤ 1000) : ∀ u : World, (Instr.makeSlice 22 (.int .i64 (n : Int)) (.int .i64 (n : Int))).run Tryz.prog u =
      .ok (.slice (some ⟨u.heap.size, 0, none⟩) n n) (u.alloc (.cells (madeCells #[.int .u8 0] n) 5)) := fun u => by
  obtain ⟨i0, hi, hz0, hz1, hz2⟩ := info_parts infoU8
  have h := run_make (P := Tryz.prog) u 22 5 i0 (.int .u8 0) Tryz.underlying22 hi hz0 .i64 .i64 (n : Int) (n : Int) (by omega) (Int.le_refl _) (by rw [hz2]; omega) (by omega)
  rw [Int.toNat_natCast] at h
  simpa [hz1, Value.cells] using h
theorem rowLen_few {n : Nat} (h2 : 2 ≤ n) (hn : n ≤ 400) (K : Nat) : rowLen n K ≤ 800 ∧ n + rowLen n K / 2 ≤ 900 := by
  have := rowLen_le (n := n) (by omega) K
  omega
/-- The first row. -/
theorem first_it (w : World) (A : Option Addr) (c : Nat) (l : List Int) (hr : RdI w w.heap.size A l) (A2 : Option Addr) (c2 : Nat) (hr2 : RdI w w.heap.size A2 (natsI (itemsL (freqN l) l.length))) (N n : Nat) (hN : N = l.length) (hnn : n = nI (freqN l) l.length) (hl : N ≤ 400)
    (hb : ∀ j, j < l.length → 0 ≤ l.getD j 0 ∧ l.getD j 0 ≤ 1073741824) :
    Calls Tryz.prog 110 #[.slice A N c, .slice A2 n c2] w fun e w' => ∃ A' c', e = .returned (.slice A' n c') ∧ Below w.heap.size w w' ∧ RdP w' w'.heap.size A' n n (rowW n (itemW (freqN l) N) 0) (conN n (itemW (freqN l) N) 0) := by
  have hle := nI_le (freqN l) l.length
  have hil := items_length (freqN l) l.length
  rw [← hnn] at hil
  have h := first_any w A c l hr A2 c2 (itemsL (freqN l) l.length) hr2 (by omega) (fun j hj => by
    have h := rank_of (F := freqN l) (n := l.length) (r := j) (by omega)
    refine ⟨h.2.1, ?_⟩
    have h3 : 0 < (l.getD ((itemsL (freqN l) l.length).getD j 0) 0).toNat := h.2.2
    omega) (fun j hj => by have := hb j hj; omega) (by omega)
  rw [hil, ← hN] at h
  exact h.mono fun e w' ⟨A', c', h1, h2, h3⟩ => ⟨A', c', h1, h2, by rw [hN] at h3 ⊢; exact h3.rd⟩
/-- The pairs of a row. -/
theorem pairs_it (w : World) (A : Option Addr) (c n K : Nat) (W : Nat → Nat) (hr : RdP w w.heap.size A n (rowLen n K) (rowW n W K) (conN n W K)) (h2 : 2 ≤ n) (hn : n ≤ 400) (hK : K ≤ 15) (hW : ∀ i, i < n → W i ≤ 1073741824) :
    Calls Tryz.prog 112 #[.slice A (rowLen n K) c] w fun e w' => ∃ A' c', e = .returned (.slice A' (rowLen n K / 2) c') ∧ Below w.heap.size w w' ∧ RdP w' w'.heap.size A' n (rowLen n K / 2) (prs (rowW n W K)) (fun t i => prs (fun s => conN n W K s i) t) := by
  have hf := rowLen_few h2 hn K
  have hp : 2 ^ K ≤ 2 ^ 15 := Nat.pow_le_pow_right (by decide) hK
  refine (pairs_any w A c n (rowLen n K) (rowW n W K) (conN n W K) hr hn (by omega) (fun t ht => ?_) (fun t i ht => ?_)).mono fun e w' ⟨A', c', h1, h2, h3⟩ => ⟨A', c', h1, h2, h3.rd⟩
  · have h1 := row_le hW K t ht
    have h3 : 2 ^ K * 1073741824 ≤ 2 ^ 15 * 1073741824 := Nat.mul_le_mul_right _ hp
    omega
  · have := con_le (w := W) ht i; omega
/-- A row out of the first and the pairs of the one before. -/
theorem merged_it (w : World) (A : Option Addr) (c n K : Nat) (W : Nat → Nat) (hr : RdP w w.heap.size A n n (rowW n W 0) (conN n W 0)) (A2 : Option Addr) (c2 : Nat) (hr2 : RdP w w.heap.size A2 n (rowLen n K / 2) (prs (rowW n W K)) (fun t i => prs (fun s => conN n W K s i) t)) (h2 : 2 ≤ n) (hn : n ≤ 400) :
    Calls Tryz.prog 111 #[.slice A n c, .slice A2 (rowLen n K / 2) c2] w fun e w' => ∃ A' c', e = .returned (.slice A' (rowLen n (K + 1)) c') ∧ Below w.heap.size w w' ∧ RdP w' w'.heap.size A' n (rowLen n (K + 1)) (rowW n W (K + 1)) (conN n W (K + 1)) := by
  have hf := rowLen_few h2 hn K
  exact (merged_any w A c n (rowW n W 0) (conN n W 0) hr A2 c2 (rowLen n K / 2) (prs (rowW n W K)) _ hr2 hf.2).mono fun e w' ⟨A', c', h1, h2, h3⟩ => ⟨A', c', h1, h2, h3.rd⟩
end Go.Proofs.YtjhljkhgjcckhaaGreat

namespace Go.Proofs.YtjhljkhgjcckhaaGreat
open Go.RowKit
set_option maxRecDepth 100000 in
set_option maxHeartbeats 8000000 in
theorem least_any (w : World) (A : Option Addr) (c : Nat) (l : List Int) (hr : RdI w w.heap.size A l) (A2 : Option Addr) (c2 : Nat) (hr2 : RdI w w.heap.size A2 (natsI (itemsL (freqN l) l.length))) (L : Nat) (hL1 : 1 ≤ L) (hL2 : L ≤ 15)
    (N n : Nat) (hN : N = l.length) (hnn : n = nI (freqN l) l.length) (h2 : 2 ≤ n) (hn : n ≤ 2 ^ L) (hl : N ≤ 400) (hb : ∀ j, j < l.length → 0 ≤ l.getD j 0 ∧ l.getD j 0 ≤ 1073741824) :
    Calls Tryz.prog 99 #[.slice A N c, .slice A2 n c2, .int .i64 (L : Int)] w fun e w' => ∃ g, e = .returned (.slice (some ⟨g, 0, none⟩) N N) ∧ w.heap.size ≤ g ∧ Below w.heap.size w w' ∧ RowW w' g N (lenB (freqN l) N L) := by
  have hnle := nI_le (freqN l) l.length
  rw [← hnn, ← hN] at hnle
  have hmk := make_u8 N (by omega)
  have hLB : ∀ j, j < n → rankN (freqN l) N ((itemsL (freqN l) N).getD j 0) = j ∧ (itemsL (freqN l) N).getD j 0 < N ∧ 0 < freqN l ((itemsL (freqN l) N).getD j 0) := fun j hj => by
    rw [hN]; exact rank_of (by omega)
  have hil : (natsI (itemsL (freqN l) l.length)).length = n := by rw [natsI_length, items_length, hnn]
  have hWM : ∀ i, i < n → itemW (freqN l) N i ≤ 1073741824 := fun i hi => by
    have h := (hLB i hi).2.1
    have hb2 := hb ((itemsL (freqN l) N).getD i 0) (by omega)
    show (l.getD ((itemsL (freqN l) N).getD i 0) 0).toNat ≤ _
    omega
  have hrow := rowLen_enough (n := n) hL1 hn
  have hfew := rowLen_few h2 (by omega : n ≤ 400) (L - 1)
  have HR := Lib.hid hr; have HR2 := Lib.hid hr2; have HBD := Lib.hid hb; have HP := Lib.hid hn; have HN := Lib.hid hN; have HNN := Lib.hid hnn; have HLB := Lib.hid hLB; have HIL := Lib.hid hil; have HWM := Lib.hid hWM; have HROW := Lib.hid hrow; have HFEW := Lib.hid hfew
  clear hr hr2 hb hn hN hnn hLB hil hWM hrow hfew
  go_enter Tryz.func99, Tryz.ntmps99
  go_wp2_with (go_at_call 110; refine (first_it _ A c l HR.out A2 c2 HR2.out N n HN.out HNN.out hl HBD.out).mono ?_; rintro e w1 ⟨Ao, co, rfl, hb1, hone⟩; have HB1 := Lib.hid hb1; have HONE := Lib.hid hone; clear hb1 hone)
  go_loopw [8, 9] (fun r k wr => ∃ (K : Nat) (Ar : Option Addr) (cr : Nat), K + 1 ≤ L ∧ k = .int .i64 (K + 1 : Nat) ∧ r = .slice Ar (rowLen n K) cr ∧ RdP wr wr.heap.size Ar n (rowLen n K) (rowW n (itemW (freqN l) N) K) (conN n (itemW (freqN l) N) K) ∧ Below w1.heap.size w1 wr ∧ Below w.heap.size w wr) (fun _ k _ => L - (intOf k).toNat)
  case atStart => exact ⟨0, Ao, co, hL1, rfl, rfl, HONE.out, Below.refl _ _, HB1.out⟩
  case round =>
    obtain ⟨K, Ar, cr, hK, rfl, rfl, hrd, hb1, hb⟩ := hrel
    obtain ⟨wo, rfl⟩ : ∃ wo : World, wo = wr := ⟨_, rfl⟩
    have HRD := Lib.hid hrd; have HB2 := Lib.hid hb1; have HB := Lib.hid hb
    clear hrd hb1 hb
    by_cases hlt : K + 1 < L
    · have hlt2 : ((K + 1 : Nat) : Int) < (L : Int) := by omega
      obtain ⟨K1, hK1⟩ : ∃ K1, K1 = K + 1 := ⟨_, rfl⟩
      rw [← hK1] at hlt2 hlt hK ⊢
      go_wp2_with (first
        | (go_at_call 112; refine (pairs_it _ Ar cr n K _ HRD.out h2 (by omega) (by omega) HWM.out).mono ?_; rintro e w3 ⟨Ap, cp, rfl, hb3, hpr⟩; have HB3 := Lib.hid hb3; have HPR := Lib.hid hpr; clear hb3 hpr)
        | (go_at_call 111; refine (merged_it _ Ao co n K _ ((HONE.out.below (HB2.out.trans (HB3.out.mono HB2.out.size)) (Nat.le_refl _)).more (HB2.out.trans (HB3.out.mono HB2.out.size)).size) Ap cp HPR.out h2 (by omega)).mono ?_; rintro e w4 ⟨Am, cm, rfl, hb4, hmr⟩; have HB4 := Lib.hid hb4; have HMR := Lib.hid hmr; clear hb4 hmr))
      go_roundw
      case rel =>
        have b3 := HB2.out.trans (HB3.out.mono HB2.out.size)
        have b4 := b3.trans (HB4.out.mono b3.size)
        have b5 := HB.out.trans (HB3.out.mono HB.out.size)
        exact ⟨K + 1, Am, cm, by omega, val_int (by omega), rfl, HMR.out, b4, b5.trans (HB4.out.mono b5.size)⟩
      case measure => simp [intOf]; omega
    · obtain rfl : L = K + 1 := by omega
      have hsz := HB.out.size
      obtain ⟨ar, orr, rfl, har, hcc⟩ := HRD.out.at (by have := HROW.out; rw [Nat.add_sub_cancel] at this; omega)
      have HCC := Lib.hid hcc
      have HMADE := Lib.hid (rowW_made wo N)
      have HBA := Lib.hid ((Below.refl wo.heap.size wo).alloc (Nat.le_refl _) (.cells (madeCells #[.int .u8 0] N) 5))
      have hRL : 2 * n - 2 ≤ rowLen n K := by have := HROW.out; rwa [Nat.add_sub_cancel] at this
      have HFW := HFEW.out.1
      rw [Nat.add_sub_cancel] at HFW
      clear hcc HROW HFEW
      obtain ⟨m, hm⟩ : ∃ m, m = rowLen n K := ⟨_, rfl⟩
      rw [← hm] at hRL HFW HCC ⊢
      have HM := Lib.hid hm
      clear hm
      go_wp2
      go_loopw [11, 12] (fun i _ wr => ∃ t : Nat, t ≤ 2 * n - 2 ∧ i = .int .i64 t ∧ RowW wr wo.heap.size N (outB (freqN l) N K t 0) ∧ Below wo.heap.size wo wr ∧ wo.heap.size < wr.heap.size) (fun i _ _ => 2 * n - (intOf i).toNat)
      case atStart => exact ⟨0, Nat.zero_le _, rfl, HMADE.out.ext (fun j _ => (outB_start _ _ _ _).symm), HBA.out, by simp⟩
      case round =>
        obtain ⟨t, ht, rfl, hrow, hbi, hszi⟩ := hrel
        by_cases htn : t < 2 * n - 2
        · have htni : (t : Int) < 2 * (n : Int) - 2 := by omega
          have HROW := Lib.hid hrow; have HBI := Lib.hid hbi
          clear hrow hbi
          go_wp2
          go_loopw [12] (fun k wi => ∃ j : Nat, j ≤ n ∧ k = .int .i64 j ∧ RowW wi wo.heap.size N (outB (freqN l) N K t j) ∧ Below wo.heap.size wo wi ∧ wo.heap.size < wi.heap.size) (fun k _ => n - (intOf k).toNat)
          case atStart => exact ⟨0, Nat.zero_le _, rfl, HROW.out, HBI.out, hszi⟩
          case round =>
            obtain ⟨j, hj, rfl, hrow, hbi, hszi⟩ := hrel
            obtain ⟨wi, rfl⟩ : ∃ wi : World, wi = wr := ⟨_, rfl⟩
            by_cases hjn : j < n
            · have hbw := HB.out.trans (hbi.mono hsz)
              obtain ⟨b2, o2, rfl, hb2, hc2⟩ := (HR2.out.below hbw (Nat.le_refl _)).at (k := j) (by rw [HIL.out]; exact hjn)
              have c1 := hc2 j (by rw [HIL.out]; exact hjn)
              rw [natsI_get, ← HN.out] at c1
              obtain ⟨b, _, g2, hbb, g3⟩ := HCC.out t (by omega)
              have c2 : wi.cell? ⟨ar, orr + t * 2 + 1, none⟩ = some (.slice (some ⟨b, 0, none⟩) n n) := by rw [hbi.cell (p := ⟨ar, orr + t * 2 + 1, none⟩) har]; exact g2
              have c3 : wi.cell? ⟨b, j, none⟩ = some (.int .i64 (conN n (itemW (freqN l) N) K t j : Int)) := by rw [hbi.cell (p := ⟨b, j, none⟩) hbb]; exact g3 j hjn
              obtain ⟨hs1, hs2, hs3⟩ := HLB.out j hjn
              have hoa := outB_at (F := freqN l) (N := N) (k := j) (by rw [HN.out, ← HNN.out]; exact hjn) K t
              have hos := outB_step (F := freqN l) (N := N) (k := j) (by rw [HN.out, ← HNN.out]; exact hjn) K t
              have hnn2 : nI (freqN l) N = n := by rw [HN.out]; exact HNN.out.symm
              rw [hnn2] at hoa hos
              have hsm := sm_con_le (n := n) (w := itemW (freqN l) N) (K := K) (t := t) (k := j) (by rw [← HM.out]; omega)
              obtain ⟨s, hs⟩ : ∃ s, s = (itemsL (freqN l) N).getD j 0 := ⟨_, rfl⟩
              obtain ⟨x, hx⟩ : ∃ x, x = conN n (itemW (freqN l) N) K t j := ⟨_, rfl⟩
              obtain ⟨y, hy⟩ : ∃ y, y = sm (fun s => conN n (itemW (freqN l) N) K s j) t := ⟨_, rfl⟩
              rw [← hs] at c1 hs1 hs2 hs3 hoa hos
              rw [← hx] at c3 hos hsm
              rw [← hy] at hoa hos hsm
              have c4 := hrow.cell hs2
              rw [hoa] at c4
              have hfz := hrow.frozen s
              have HROW2 := Lib.hid hrow; have HBI2 := Lib.hid hbi; have HOS := Lib.hid hos
              have hx2 : x ≤ 15 := by omega
              have hxy : x + y ≤ 15 := by omega
              have hbsz : b2 < wo.heap.size := by omega
              clear hrow hbi hos hoa hs hx hy hs1 hs3 hsm hc2 g2 g3 hnn2 hbw
              go_wp2
              go_region
              go_wp2
              go_roundw
              case rel =>
                have hset := HROW2.out.set s (y + x)
                rw [HOS.out, Int.natCast_add] at hset
                refine ⟨j + 1, by omega, by go_num, hset, (HBI2.out.setCell (Nat.le_refl _) _).drew, ?_⟩
                show wo.heap.size < (wi.setCell _ _).heap.size
                simpa [World.setCell] using hszi
              case measure => simp [intOf]; omega
            · obtain rfl : j = n := by omega
              have HROW2 := Lib.hid hrow; have HBI2 := Lib.hid hbi
              clear hrow hbi hjn hj
              go_wp2
              go_roundw
              case rel => exact ⟨t + 1, by omega, by go_num, HROW2.out.ext (fun i _ => by rw [← outB_next, HN.out, ← HNN.out]), HBI2.out, hszi⟩
              case measure => simp [intOf]; omega
        · obtain rfl : t = 2 * n - 2 := by omega
          have hte : decide (((2 * n - 2 : Nat) : Int) < 2 * (n : Int) - 2) = false := by simp; omega
          have HROW := Lib.hid hrow; have HBI := Lib.hid hbi
          clear hrow hbi
          go_wp2
          go_ret
          refine ⟨_, rfl, hsz, HB.out.trans (HBI.out.mono hsz), HROW.out.ext fun i hi => ?_⟩
          have h := outB_end (F := freqN l) (N := N) (L := K + 1) (i := i) (by rw [HN.out, ← HNN.out]; exact h2) (by omega) (by rw [HN.out, ← HNN.out]; exact HP.out) hi
          rw [← h, HN.out, ← HNN.out, Nat.add_sub_cancel]
end Go.Proofs.YtjhljkhgjcckhaaGreat

namespace Go.Proofs.YtjhljkhgjcckhaaGreat
open Go.RowKit
theorem len_none {F : Nat → Nat} {N L i : Nat} (h0 : nI F N = 0) (hi : i < N) : lenB F N L i = 0 := by
  unfold lenB
  by_cases h : 0 < F i
  · have := nI_pos hi h; omega
  · rw [if_pos (by omega)]
theorem len_one {F : Nat → Nat} {N L i : Nat} (h1 : nI F N = 1) (hi : i < N) : lenB F N L i = upd (fun _ => 0) ((itemsL F N).getD 0 0) 1 i := by
  unfold lenB upd
  have hr := rank_of (F := F) (n := N) (r := 0) (by omega)
  by_cases h : 0 < F i
  · rw [if_neg (by omega), if_pos h1]
    have h2 := rank_at hi h
    have h3 : rankN F N i = 0 := by omega
    rw [h3] at h2
    rw [if_pos h2.2.symm]
  · rw [if_pos (by omega), if_neg]
    intro e
    rw [e] at h; omega
/-- What is asked of frequencies that are right. -/
theorem ask_right {l : List Int} {most : Int} (h : askE l most = 0) : 1 ≤ most ∧ most ≤ 15 ∧ l.length ≤ 320 ∧ (∀ j, j < l.length → 0 ≤ l.getD j 0 ∧ l.getD j 0 ≤ 1073741824) ∧ nI (freqN l) l.length ≤ 2 ^ most.toNat := by
  unfold askE at h
  split at h
  · cases h
  · split at h
    · cases h
    · split at h
      · cases h
      · rename_i h1 h2 h3
        split at h
        · cases h
        · refine ⟨by omega, by omega, by omega, fun j hj => ?_, by omega⟩
          have h4 : ¬ badI (l.getD j 0) = true := fun hb => h3 (badL_yes hj hb)
          have h5 := of_decide_eq_false (Bool.not_eq_true _ ▸ h4)
          omega
theorem rowW_one (w : World) (n k : Nat) : RowW (w.alloc (.cells ((madeCells #[.int .u8 0] n).setIfInBounds k (.int .u8 1)) 5)) w.heap.size n (upd (fun _ => 0) k 1) := by
  refine ⟨_, heap_alloc_new w _, fun j hj => ?_⟩
  have e1 : j % 1 = 0 := by omega
  simp only [Array.getElem?_setIfInBounds, upd, size_madeCells]
  by_cases e : j = k
  · subst e; rw [if_pos rfl, if_pos hj, if_pos rfl]; rfl
  · rw [if_neg (fun h => e h.symm), if_neg e]
    unfold madeCells
    simp [hj, e1]
set_option maxRecDepth 100000 in
set_option maxHeartbeats 4000000 in
theorem made4_any (w : World) (A : Option Addr) (c : Nat) (l : List Int) (hr : RdI w w.heap.size A l) (L : Nat) (hL1 : 1 ≤ L) (hL2 : L ≤ 15) (N : Nat) (hN : N = l.length) (hn : nI (freqN l) l.length ≤ 2 ^ L) (hl : N ≤ 400)
    (hb : ∀ j, j < l.length → 0 ≤ l.getD j 0 ∧ l.getD j 0 ≤ 1073741824) :
    Calls Tryz.prog 78 #[.slice A N c, .int .i64 (L : Int)] w fun e w' => ∃ g, e = .returned (.slice (some ⟨g, 0, none⟩) N N) ∧ w.heap.size ≤ g ∧ Below w.heap.size w w' ∧ RowW w' g N (lenB (freqN l) N L) := by
  have HR := Lib.hid hr; have HBD := Lib.hid hb; have HP := Lib.hid hn; have HN := Lib.hid hN
  have hit := items_any w A c l hr (by omega) (fun j hj => by have := hb j hj; omega)
  have hmk := make_u8 N (by omega)
  have hnle := nI_le (freqN l) l.length
  obtain ⟨n, hnn⟩ : ∃ n, n = nI (freqN l) l.length := ⟨_, rfl⟩
  rw [← hnn, ← hN] at hit
  rw [← hnn, ← hN] at hnle
  have HIT := Lib.hid hit
  have HNN := Lib.hid hnn
  clear hr hb hn hN hit hnn
  go_enter Tryz.func78, Tryz.ntmps78
  by_cases h2 : 2 ≤ n
  · have hd : decide ((2 : Int) ≤ (n : Int)) = true := by simp; omega
    go_wp2_with (first
      | (go_at_call 98; refine HIT.out.mono ?_; rintro e w1 ⟨Ai, ci, rfl, hb1, hown⟩; have HB1 := Lib.hid hb1; have HI := Lib.hid (rdI_nats hown); clear hb1 hown)
      | (go_at_call 99; refine (least_any _ A c l ((HR.out.below HB1.out (Nat.le_refl _)).more HB1.out.size) Ai ci (by have h := HI.out; rw [HN.out] at h; exact h) L hL1 hL2 N n HN.out HNN.out h2 (by have := HP.out; rw [HNN.out]; exact this) hl HBD.out).mono ?_; rintro e w2 ⟨g, rfl, hg, hb2, hrow⟩; have HB2 := Lib.hid hb2; have HROW := Lib.hid hrow; have HG := Lib.hid hg; clear hb2 hrow hg))
    go_ret
    have hs := HB1.out.size
    have hg := HG.out
    exact ⟨g, rfl, by omega, HB1.out.trans (HB2.out.mono hs), HROW.out⟩
  · have hd : decide ((2 : Int) ≤ (n : Int)) = false := by simp; omega
    by_cases h1 : n = 1
    · subst h1
      have hlt := rank_of (F := freqN l) (n := l.length) (r := 0) (by have := HNN.out; omega)
      obtain ⟨s, hs⟩ : ∃ s, s = (itemsL (freqN l) l.length).getD 0 0 := ⟨_, rfl⟩
      have hsN : s < N := by have := HN.out; rw [hs, this]; exact hlt.2.1
      have HS := Lib.hid hs
      clear hs hlt h2 hd
      go_wp2_with (go_at_call 98; refine HIT.out.mono ?_; rintro e w1 ⟨Ai, ci, rfl, hb1, hown⟩; have hi := rdI_nats hown; obtain ⟨b, o, rfl, hbl, hc⟩ := hi.at (k := 0) (by rw [natsI_length, items_length, HN.out, ← HNN.out]; omega); have c0 := hc 0 (by rw [natsI_length, items_length, HN.out, ← HNN.out]; omega); rw [natsI_get, HN.out, ← HS.out, Nat.add_zero] at c0; have HB1 := Lib.hid hb1; have hmade := (rowW_made w1 N).cell hsN; have hfz := (rowW_made w1 N).frozen s; have c1 : (w1.alloc (.cells (madeCells #[.int .u8 0] N) 5)).cell? ⟨b, o, none⟩ = some (.int .i64 (s : Int)) := (((Below.refl w1.heap.size w1).alloc (Nat.le_refl _) (.cells (madeCells #[.int .u8 0] N) 5)).cell (p := ⟨b, o, none⟩) hbl).trans c0; clear hb1 hown hi hc)
      go_ret
      have hs := HB1.out.size
      exact ⟨w1.heap.size, rfl, hs, HB1.out.trans ((Below.refl _ _).alloc hs _), (rowW_one w1 N s).ext fun i hi => by rw [HS.out, HN.out]; exact (len_one HNN.out.symm (by rw [← HN.out]; exact hi)).symm⟩
    · obtain rfl : n = 0 := by omega
      clear h2
      go_wp2_with (go_at_call 98; refine HIT.out.mono ?_; rintro e w1 ⟨Ai, ci, rfl, hb1, hown⟩; have HB1 := Lib.hid hb1; clear hb1 hown)
      go_ret
      have hs := HB1.out.size
      exact ⟨w1.heap.size, rfl, hs, HB1.out.trans ((Below.refl _ _).alloc hs _), (rowW_made w1 N).ext fun i hi => by rw [HN.out]; exact (len_none HNN.out.symm (by rw [← HN.out]; exact hi)).symm⟩
/-- What comes back of frequencies: so many lengths, these. -/
def lenO (l : List Int) (most : Int) : Nat := if askE l most = 0 then l.length else 0
def outL (l : List Int) (most : Int) (j : Nat) : Nat := if askE l most = 0 then lenB (freqN l) l.length most.toNat j else 0
theorem outL_lt (l : List Int) (most : Int) (j : Nat) : outL l most j < 256 := by
  unfold outL
  split
  · rename_i h
    obtain ⟨h1, h2, _⟩ := ask_right h
    have := lenB_le (freqN l) (n := l.length) (L := most.toNat) (by omega) j
    omega
  · omega
end Go.Proofs.YtjhljkhgjcckhaaGreat

namespace Go.Proofs.YtjhljkhgjcckhaaGreat
/-- What a length counts, of 2^15. -/
def pt (m : Nat) : Nat := 32768 / 2 ^ m
theorem pt_mul {a b : Nat} (h : a ≤ b) (hb : b ≤ 15) : pt a = pt b * 2 ^ (b - a) := by
  unfold pt
  have e : (32768 : Nat) = 2 ^ (15 - b) * 2 ^ b := by rw [← Nat.pow_add, show 15 - b + b = 15 by omega]
  have e2 : (2 : Nat) ^ b = 2 ^ (b - a) * 2 ^ a := by rw [← Nat.pow_add, show b - a + a = b by omega]
  have ha : 0 < 2 ^ a := Nat.two_pow_pos a
  have hb0 : 0 < 2 ^ b := Nat.two_pow_pos b
  rw [e, Nat.mul_div_cancel _ hb0]
  rw [e2, ← Nat.mul_assoc, Nat.mul_div_cancel _ ha]
theorem pt_pos {m : Nat} (h : m ≤ 15) : 0 < pt m := by
  have := pt_mul h (Nat.le_refl 15)
  rw [this]; exact Nat.mul_pos (by decide) (Nat.two_pow_pos _)
theorem pt_le (m : Nat) : pt m ≤ 32768 := Nat.div_le_self _ _
theorem pt_half (m : Nat) : pt (m + 1) = pt m / 2 := by unfold pt; rw [Nat.pow_succ, Nat.div_div_eq_div_mul]
theorem pt_dvd {a b : Nat} (h : a ≤ b) (hb : b ≤ 15) : pt b ∣ pt a := ⟨2 ^ (b - a), pt_mul h hb⟩
/-- What the first n lengths count together; how many have a code; and what those of length m count. -/
def allN (f : Nat → Nat) : Nat → Nat
  | 0 => 0
  | n + 1 => allN f n + if 0 < f n then pt (f n) else 0
def usedN (f : Nat → Nat) : Nat → Nat
  | 0 => 0
  | n + 1 => usedN f n + if 0 < f n then 1 else 0
def inN (f : Nat → Nat) (m : Nat) : Nat → Nat
  | 0 => 0
  | n + 1 => inN f m n + if f n = m then pt m else 0
/-- What those of the lengths 1 to m count. -/
def sumTo (f : Nat → Nat) (n : Nat) : Nat → Nat
  | 0 => 0
  | m + 1 => sumTo f n m + inN f (m + 1) n
/-- Where the code of symbol i, of length m, begins, of 2^15. -/
def stN (f : Nat → Nat) (n m i : Nat) : Nat := sumTo f n (m - 1) + inN f m i
def codeB (f : Nat → Nat) (n i : Nat) : Nat := if f i = 0 then 0 else stN f n (f i) i / pt (f i)
theorem inN_mono (f : Nat → Nat) (m : Nat) {a b : Nat} (h : a ≤ b) : inN f m a ≤ inN f m b := by
  induction b with
  | zero => rw [show a = 0 by omega]; exact Nat.le_refl _
  | succ b ih =>
    rcases Nat.eq_or_lt_of_le h with h | h
    · subst h; exact Nat.le_refl _
    · exact Nat.le_trans (ih (by omega)) (Nat.le_add_right _ _)
theorem inN_step {f : Nat → Nat} {m a b : Nat} (h : a < b) (hf : f a = m) : inN f m a + pt m ≤ inN f m b := by
  have := inN_mono f m (show a + 1 ≤ b by omega)
  simp only [inN, hf, if_true] at this
  exact this
theorem sumTo_mono (f : Nat → Nat) (n : Nat) {a b : Nat} (h : a ≤ b) : sumTo f n a ≤ sumTo f n b := by
  induction b with
  | zero => rw [show a = 0 by omega]; exact Nat.le_refl _
  | succ b ih =>
    rcases Nat.eq_or_lt_of_le h with h | h
    · subst h; exact Nat.le_refl _
    · exact Nat.le_trans (ih (by omega)) (Nat.le_add_right _ _)
theorem sumTo_more (f : Nat → Nat) (n : Nat) : ∀ M, sumTo f (n + 1) M = sumTo f n M + if 0 < f n ∧ f n ≤ M then pt (f n) else 0
  | 0 => by rw [if_neg (by omega)]; rfl
  | M + 1 => by
    simp only [sumTo, inN]
    rw [sumTo_more f n M]
    by_cases h1 : f n = M + 1
    · rw [if_pos h1, if_neg (by omega), if_pos (by omega), h1]; omega
    · by_cases h2 : 0 < f n ∧ f n ≤ M
      · rw [if_neg h1, if_pos h2, if_pos (by omega)]; omega
      · rw [if_neg h1, if_neg h2, if_neg (by omega)]; omega
theorem sumTo_none (f : Nat → Nat) : ∀ M, sumTo f 0 M = 0
  | 0 => rfl
  | M + 1 => by simp only [sumTo, inN]; rw [sumTo_none f M]
theorem allN_sum (f : Nat → Nat) : ∀ n, (∀ j, j < n → f j ≤ 15) → allN f n = sumTo f n 15
  | 0, _ => (sumTo_none f 15).symm
  | n + 1, h => by
    rw [sumTo_more, ← allN_sum f n (fun j hj => h j (by omega))]
    simp only [allN]
    have := h n (by omega)
    by_cases h1 : 0 < f n
    · rw [if_pos h1, if_pos ⟨h1, this⟩]
    · rw [if_neg h1, if_neg (fun g => h1 g.1)]
theorem st_end {f : Nat → Nat} {n m i : Nat} (hi : i < n) (hf : f i = m) (hm : 0 < m) : stN f n m i + pt m ≤ sumTo f n m := by
  obtain ⟨k, rfl⟩ : ∃ k, m = k + 1 := ⟨m - 1, by omega⟩
  have := inN_step hi hf
  unfold stN
  rw [Nat.add_sub_cancel]
  simp only [sumTo]; omega
theorem st_all {f : Nat → Nat} {n i : Nat} (hi : i < n) (h : ∀ j, j < n → f j ≤ 15) (hp : 0 < f i) : stN f n (f i) i + pt (f i) ≤ allN f n := by
  rw [allN_sum f n h]
  exact Nat.le_trans (st_end hi rfl hp) (sumTo_mono f n (h i hi))
theorem inN_dvd (f : Nat → Nat) (m : Nat) : ∀ n, pt m ∣ inN f m n
  | 0 => ⟨0, rfl⟩
  | n + 1 => by
    simp only [inN]
    refine Nat.dvd_add (inN_dvd f m n) ?_
    split
    · exact Nat.dvd_refl _
    · exact ⟨0, rfl⟩
theorem sumTo_dvd (f : Nat → Nat) (n : Nat) {b : Nat} (hb : b ≤ 15) : ∀ m, m ≤ b → pt b ∣ sumTo f n m
  | 0, _ => ⟨0, rfl⟩
  | m + 1, h => Nat.dvd_add (sumTo_dvd f n hb m (by omega)) (Nat.dvd_trans (pt_dvd h hb) (inN_dvd f (m + 1) n))
theorem st_dvd (f : Nat → Nat) (n i : Nat) {m : Nat} (hm : m ≤ 15) : pt m ∣ stN f n m i :=
  Nat.dvd_add (sumTo_dvd f n hm (m - 1) (by omega)) (inN_dvd f m i)
theorem codeB_st {f : Nat → Nat} {n i : Nat} (hp : 0 < f i) (h : f i ≤ 15) : codeB f n i * pt (f i) = stN f n (f i) i := by
  unfold codeB
  rw [if_neg (by omega)]
  exact Nat.div_mul_cancel (st_dvd f n i h)
/-! ### what is refused -/
def bigB (f : Nat → Nat) (n : Nat) (most : Int) : Bool := decide (∃ j, j < n ∧ most < (f j : Int))
def endE (all used : Nat) : Int := if 32768 < all then 30 else if all = 32768 ∨ used = 0 ∨ (used = 1 ∧ all = 16384) then 0 else 31
def checkE (f : Nat → Nat) (n : Nat) (most : Int) : Int :=
  if most < 1 ∨ 15 < most then 2 else if 320 < n then 4 else if bigB f n most = true then 2 else endE (allN f n) (usedN f n)
theorem bigB_false {f : Nat → Nat} {n : Nat} {most : Int} (h : bigB f n most = false) : ∀ j, j < n → (f j : Int) ≤ most := by
  intro j hj
  have := of_decide_eq_false h
  have h2 : ¬ (most < (f j : Int)) := fun g => this ⟨j, hj, g⟩
  omega
/-- What holds of lengths that may be. -/
theorem check_ok {f : Nat → Nat} {n : Nat} {most : Int} (h : checkE f n most = 0) :
    1 ≤ most ∧ most ≤ 15 ∧ n ≤ 320 ∧ (∀ j, j < n → (f j : Int) ≤ most) ∧ allN f n ≤ 32768 ∧ (allN f n = 32768 ∨ usedN f n = 0 ∨ (usedN f n = 1 ∧ allN f n = 16384)) := by
  unfold checkE at h
  by_cases h1 : most < 1 ∨ 15 < most
  · rw [if_pos h1] at h; cases h
  · rw [if_neg h1] at h
    by_cases h2 : 320 < n
    · rw [if_pos h2] at h; cases h
    · rw [if_neg h2] at h
      cases h3 : bigB f n most with
      | true => rw [h3, if_pos rfl] at h; cases h
      | false =>
        rw [h3, if_neg (by decide)] at h
        unfold endE at h
        by_cases h4 : 32768 < allN f n
        · rw [if_pos h4] at h; cases h
        · rw [if_neg h4] at h
          by_cases h5 : allN f n = 32768 ∨ usedN f n = 0 ∨ (usedN f n = 1 ∧ allN f n = 16384)
          · exact ⟨by omega, by omega, by omega, bigB_false h3, by omega, h5⟩
          · rw [if_neg h5] at h; cases h
theorem fits_code {f : Nat → Nat} {n i : Nat} (hi : i < n) (h : ∀ j, j < n → f j ≤ 15) (ha : allN f n ≤ 32768) : codeB f n i < 2 ^ f i := by
  by_cases h0 : 0 < f i
  · have h1 := st_all hi h h0
    have h2 := codeB_st (n := n) h0 (h i hi)
    have h3 := pt_mul (h i hi) (Nat.le_refl 15)
    have h4 : pt (f i) * 2 ^ f i = 32768 := by
      rw [h3, show pt 15 = 1 from rfl, Nat.one_mul, ← Nat.pow_add, show 15 - f i + f i = 15 by have := h i hi; omega]
    have hp := pt_pos (h i hi)
    rw [← h2] at h1
    refine Nat.lt_of_mul_lt_mul_right (a := pt (f i)) ?_
    rw [Nat.mul_comm (2 ^ f i), h4]
    omega
  · have : f i = 0 := by omega
    unfold codeB
    rw [if_pos this, this]; decide
theorem bigB_mk {f : Nat → Nat} {n : Nat} {most : Int} (h : ∀ j, j < n → (f j : Int) ≤ most) : bigB f n most = false := by
  apply decide_eq_false
  rintro ⟨j, hj, hl⟩
  have := h j hj; omega
theorem bigB_yes {f : Nat → Nat} {n k : Nat} {most : Int} (hk : k < n) (h : most < (f k : Int)) : bigB f n most = true := decide_eq_true ⟨k, hk, h⟩
/-- How many codes are told. -/
def lenC (f : Nat → Nat) (n : Nat) (most : Int) : Nat := if checkE f n most = 0 then n else 0
theorem codeB_lt {f : Nat → Nat} {n : Nat} {most : Int} (h : checkE f n most = 0) (j : Nat) (hj : j < n) : codeB f n j < 4294967296 := by
  obtain ⟨_, h15, _, hb, ha, _⟩ := check_ok h
  have := fits_code hj (fun j hj => by have := hb j hj; omega) ha
  have h2 : (2 : Nat) ^ f j ≤ 2 ^ 15 := Nat.pow_le_pow_right (by omega) (by have := hb j hj; omega)
  have h3 : (2 : Nat) ^ 15 = 32768 := rfl
  omega
/-- The codes, and 0 where there is no symbol. -/
def codeX (f : Nat → Nat) (n : Nat) (most : Int) (j : Nat) : Nat := if checkE f n most = 0 ∧ j < n then codeB f n j else 0
theorem codeX_in {f : Nat → Nat} {n : Nat} {most : Int} (h : checkE f n most = 0) (j : Nat) (hj : j < n) : codeX f n most j = codeB f n j := by
  unfold codeX; rw [if_pos ⟨h, hj⟩]
end Go.Proofs.YtjhljkhgjcckhaaGreat

