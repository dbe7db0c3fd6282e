/-
  Layer 4 (build): the program's parcels: rows of a weight and a symbol each, in memory; the first row; a row's pairs.
-/
import Derived.Test.YtgppikhfkikknaaImpOrd
import Derived.Test.YtgppikhfkikknaaBuildMd
namespace Go.Proofs.Ytgppikhfkikknaa
open Go.RowKit
/-- Weight and symbol by turns. -/
def parN (W : Nat → Nat) (Z : Nat → Int) (j : Nat) : Int := if j % 2 = 0 then (W (j / 2) : Int) else Z (j / 2)
theorem parN_a (W : Nat → Nat) (Z : Nat → Int) (t : Nat) : parN W Z (t * 2) = (W t : Int) := by
  unfold parN; rw [if_pos (by omega), show t * 2 / 2 = t by omega]
theorem parN_b (W : Nat → Nat) (Z : Nat → Int) (t : Nat) : parN W Z (t * 2 + 1) = Z t := by
  unfold parN; rw [if_neg (by omega), show (t * 2 + 1) / 2 = t by omega]
theorem parN_ext {W W' : Nat → Nat} {Z Z' : Nat → Int} {m : Nat} (h : ∀ t, t < m → W t = W' t ∧ Z t = Z' t) : ∀ j, j < m * 2 → parN W Z j = parN W' Z' j := fun j hj => by
  have := h (j / 2) (by omega)
  unfold parN; rw [this.1, this.2]
def parL (m : Nat) (W : Nat → Nat) (Z : Nat → Int) : List Value := (List.range (m * 2)).map fun j => .int .i64 (parN W Z j)
theorem parL_get (m : Nat) (W : Nat → Nat) (Z : Nat → Int) (j : Nat) : (parL m W Z)[j]? = if j < m * 2 then some (.int .i64 (parN W Z j)) else none := by
  unfold parL
  by_cases h : j < m * 2 <;> simp [h]
theorem parL_one (m : Nat) (W : Nat → Nat) (Z : Nat → Int) : ∀ u ∈ parL m W Z, u.oneCell' = true := by
  intro u hu
  simp only [parL, List.mem_map] at hu
  obtain ⟨j, _, rfl⟩ := hu
  rfl
theorem parL_length (m : Nat) (W : Nat → Nat) (Z : Nat → Int) : (parL m W Z).length = m * 2 := by simp [parL]
/-- m parcels at A, in a block from lo on, below B. -/
def RdQ (w : World) (lo B : Nat) (A : Option Addr) (m : Nat) (W : Nat → Nat) (Z : Nat → Int) : Prop :=
  0 < m → ∃ b o, A = some ⟨b, o, none⟩ ∧ lo ≤ b ∧ b < B ∧ ∀ j, j < m * 2 → w.cell? ⟨b, o + j, none⟩ = some (.int .i64 (parN W Z j))
theorem RdQ.below {w w' : World} {lo B B' m : Nat} {A : Option Addr} {W : Nat → Nat} {Z : Nat → Int} (h : RdQ w lo B A m W Z) (hb : Below B' w w') (hB : B ≤ B') : RdQ w' lo B A m W Z := fun hm => by
  obtain ⟨b, o, h1, h2, h3, h4⟩ := h hm
  exact ⟨b, o, h1, h2, h3, fun j hj => by rw [hb.cell (p := ⟨b, o + j, none⟩) (by show b < B'; omega)]; exact h4 j hj⟩
theorem RdQ.more {w : World} {lo lo' B B' m : Nat} {A : Option Addr} {W : Nat → Nat} {Z : Nat → Int} (h : RdQ w lo B A m W Z) (hl : lo' ≤ lo) (hB : B ≤ B') : RdQ w lo' B' A m W Z := fun hm => by
  obtain ⟨b, o, h1, h2, h3, h4⟩ := h hm
  exact ⟨b, o, h1, by omega, by omega, h4⟩
theorem RdQ.ext {w : World} {lo B m : Nat} {A : Option Addr} {W W' : Nat → Nat} {Z Z' : Nat → Int} (h : RdQ w lo B A m W Z) (e : ∀ t, t < m → W t = W' t ∧ Z t = Z' t) : RdQ w lo B A m W' Z' := fun hm => by
  obtain ⟨b, o, h1, h2, h3, h4⟩ := h hm
  exact ⟨b, o, h1, h2, h3, fun j hj => by rw [h4 j hj, parN_ext e j hj]⟩
theorem RdQ.src {w : World} {lo B m : Nat} {A : Option Addr} {W : Nat → Nat} {Z : Nat → Int} (h : RdQ w lo B A m W Z) : SrcL w B 2 A m (parL m W Z) := by
  refine ⟨parL_length m W Z, fun hm => ?_⟩
  obtain ⟨b, o, h1, _, h3, h4⟩ := h hm
  refine ⟨b, o, h1, h3, fun j u hu => ?_⟩
  rw [parL_get] at hu
  by_cases hj : j < m * 2
  · rw [if_pos hj] at hu; injection hu with hu; rw [← hu]; exact h4 j hj
  · rw [if_neg hj] at hu; cases hu
/-- A block of ints of any type, from its start. -/
def RowE (e : TypeId) (w : World) (g M : Nat) (v : Nat → Int) : Prop := ∃ cur : Array Value, w.heap[g]? = some (.cells cur e (0, 0)) ∧ ∀ j, j < M → cur[j]? = some (.int .i64 (v j))
section
variable {e : TypeId} {w w' : World} {g M : Nat} {v v' : Nat → Int}
theorem RowE.lt (h : RowE e w g M v) : g < w.heap.size := by
  obtain ⟨cur, h1, _⟩ := h; exact (Array.getElem?_eq_some_iff.1 h1).1
theorem RowE.cell (h : RowE e w g M v) {j : Nat} (hj : j < M) : w.cell? ⟨g, j, none⟩ = some (.int .i64 (v j)) := by
  obtain ⟨cur, h1, h2⟩ := h
  rw [cell_of_row w g j _ _ (0, 0) h1]; exact h2 j hj
theorem RowE.frozen (h : RowE e w g M v) (j : Nat) : w.frozen? ⟨g, j, none⟩ = false := by
  obtain ⟨cur, h1, _⟩ := h; exact frozen_of_row w g j _ _ h1
theorem RowE.set (h : RowE e w g M v) (i : Nat) (x : Int) : RowE e (w.setCell ⟨g, i, none⟩ (.int .i64 x)) g M (fun j => if j = i then x else v j) := by
  obtain ⟨cur, h1, h2⟩ := h
  refine ⟨cur.setIfInBounds i (.int .i64 x), heap_setCell_same w g i cur _ _ h1, fun j hj => ?_⟩
  rw [Array.getElem?_setIfInBounds]
  have hs : j < cur.size := by
    rcases Nat.lt_or_ge j cur.size with h | h
    · exact h
    · have := h2 j hj; rw [Array.getElem?_eq_none h] at this; cases this
  by_cases e : i = j
  · subst e; simp [hs]
  · have e' : ¬ j = i := fun h => e h.symm
    simp [e, e', h2 j hj]
theorem RowE.drew (h : RowE e w g M v) : RowE e w.drew g M v := h
theorem RowE.below {B : Nat} (h : RowE e w g M v) (hb : Below B w w') (hg : g < B) : RowE e w' g M v := by
  obtain ⟨cur, h1, h2⟩ := h; exact ⟨cur, (hb.block g hg).trans h1, h2⟩
theorem RowE.ext (h : RowE e w g M v) (h2 : ∀ j, j < M → v j = v' j) : RowE e w g M v' := by
  obtain ⟨cur, h1, h3⟩ := h; exact ⟨cur, h1, fun j hj => by rw [h3 j hj, h2 j hj]⟩
end
theorem RowE.rdQ {e : TypeId} {w : World} {g m : Nat} {W : Nat → Nat} {Z : Nat → Int} (h : RowE e w g (m * 2) (parN W Z)) {lo : Nat} (hlo : lo ≤ g) : RdQ w lo w.heap.size (some ⟨g, 0, none⟩) m W Z :=
  fun _ => ⟨g, 0, rfl, hlo, h.lt, fun j hj => by rw [Nat.zero_add]; exact h.cell hj⟩
theorem infoPrc : (Try.prog.info? 58).map (fun i => (i.zero, i.size, i.bytes)) = some (some (.agg #[.int .i64 0, .int .i64 0]), 2, 16) := by kernel_rfl
theorem make_prc (n : Nat) (h : n ≤ 2000) : ∀ u : World, (Instr.makeSlice 44 (.int .i64 (n : Int)) (.int .i64 (n : Int))).run Try.prog u =
      .ok (.slice (some ⟨u.heap.size, 0, none⟩) n n) (u.alloc (.cells (madeCells #[.int .i64 0, .int .i64 0] (n * 2)) 58)) := fun u => by
  obtain ⟨i0, hi, hz0, hz1, hz2⟩ := info_parts infoPrc
  have h := run_make (P := Try.prog) u 44 58 i0 _ Try.underlying44 hi hz0 .i64 .i64 (n : Int) (n : Int) (by omega) (Int.le_refl _) (by rw [hz2]; omega) (by omega)
  rw [Int.toNat_natCast] at h
  rw [hz1] at h
  exact h
theorem rowE_made (w : World) (n : Nat) : RowE 58 (w.alloc (.cells (madeCells #[.int .i64 0, .int .i64 0] (n * 2)) 58)) w.heap.size (n * 2) (fun _ => 0) := by
  refine ⟨_, heap_alloc_new w _, fun j hj => ?_⟩
  unfold madeCells
  have e1 : j % 2 = 0 ∨ j % 2 = 1 := by omega
  rcases e1 with e1 | e1 <;> simp [hj, e1]
/-- One more parcel laid. -/
def upto (t : Nat) (W : Nat → Nat) (Z : Nat → Int) (j : Nat) : Int := if j < t * 2 then parN W Z j else 0
theorem upto_step (t : Nat) (W : Nat → Nat) (Z : Nat → Int) : (fun j => if j = t * 2 + 1 then Z t else (fun j => if j = t * 2 then (W t : Int) else upto t W Z j) j) = upto (t + 1) W Z := by
  funext j
  show (if j = t * 2 + 1 then Z t else if j = t * 2 then (W t : Int) else upto t W Z j) = _
  unfold upto
  by_cases h1 : j = t * 2 + 1
  · rw [if_pos h1, if_pos (by omega), h1, parN_b]
  · rw [if_neg h1]
    by_cases h2 : j = t * 2
    · rw [if_pos h2, if_pos (by omega), h2, parN_a]
    · rw [if_neg h2]
      by_cases h3 : j < t * 2
      · rw [if_pos h3, if_pos (by omega)]
      · rw [if_neg h3, if_neg (by omega)]
theorem upto_start (W : Nat → Nat) (Z : Nat → Int) : (fun _ => 0) = upto 0 W Z := by
  funext j; unfold upto; rw [if_neg (by omega)]
set_option maxRecDepth 100000 in
set_option maxHeartbeats 4000000 in
theorem parcels_any (w : World) (A : Option Addr) (c : Nat) (l : List Int) (hr : RdI w w.heap.size A l) (A2 : Option Addr) (c2 : Nat) (L : List Nat) (hr2 : RdI w w.heap.size A2 (natsI L)) (hL : ∀ j, j < L.length → L.getD j 0 < l.length) (N n : Nat) (hN : N = l.length) (hn : n = L.length) (hl : n ≤ 400)
    (hb : ∀ j, j < l.length → 0 ≤ l.getD j 0 ∧ l.getD j 0 ≤ 1073741824) :
    Calls Try.prog 20 #[.slice A N c, .slice A2 n c2] w fun e w' => ∃ A' c', e = .returned (.slice A' n c') ∧ Below w.heap.size w w' ∧ n ≤ c' ∧ (A' = none → c' = 0) ∧ RdQ w' w.heap.size w'.heap.size A' n (fun t => freqN l (L.getD t 0)) (fun t => ((L.getD t 0 : Nat) : Int)) := by
  have HR := Lib.hid hr; have HR2 := Lib.hid hr2; have HBD := Lib.hid hb; have HLL := Lib.hid hL; have HN := Lib.hid hN; have HNN := Lib.hid hn
  obtain ⟨W, hW⟩ : ∃ W : Nat → Nat, W = fun t => freqN l (L.getD t 0) := ⟨_, rfl⟩
  obtain ⟨Z, hZ⟩ : ∃ Z : Nat → Int, Z = fun t => ((L.getD t 0 : Nat) : Int) := ⟨_, rfl⟩
  rw [← hW, ← hZ]
  have HW := Lib.hid hW; have HZ := Lib.hid hZ
  have hmk := make_prc n (by omega)
  have hbase := rowE_made w n
  rw [upto_start W Z] at hbase
  have hbl : Below w.heap.size w (w.alloc (.cells (madeCells #[.int .i64 0, .int .i64 0] (n * 2)) 58)) := (Below.refl _ w).alloc (Nat.le_refl _) _
  obtain ⟨u, hu⟩ : ∃ u, u = w.alloc (.cells (madeCells #[.int .i64 0, .int .i64 0] (n * 2)) 58) := ⟨_, rfl⟩
  rw [← hu] at hbase hbl
  have HU := Lib.hid hu; have HB0 := Lib.hid hbl; have HBASE := Lib.hid hbase
  clear hr hr2 hb hL hN hn hW hZ hu hbase hbl
  go_enter Try.func20, Try.ntmps20
  go_wp2
  rw [← HU.out]
  clear hmk
  go_loopw [13] (fun i wr => ∃ t : Nat, t ≤ n ∧ i = .int .i64 (t : Int) ∧ Below w.heap.size w wr ∧ RowE 58 wr w.heap.size (n * 2) (upto t W Z)) (fun i _ => n - (intOf i).toNat)
  case atStart => exact ⟨0, Nat.zero_le _, rfl, HB0.out, HBASE.out⟩
  case round =>
    obtain ⟨t, ht, rfl, hbw, hrow⟩ := hrel
    by_cases hlt : t < n
    · have hlti : (t : Int) < (n : Int) := by omega
      obtain ⟨b2, o2, rfl, hb2, hc2⟩ := (HR2.out.below hbw (Nat.le_refl _)).at (k := t) (by rw [natsI_length, ← HNN.out]; exact hlt)
      have c2' := hc2 t (by rw [natsI_length, ← HNN.out]; exact hlt)
      rw [natsI_get] at c2'
      have hsN := HLL.out t (by rw [← HNN.out]; exact hlt)
      obtain ⟨s, hs⟩ : ∃ s, s = L.getD t 0 := ⟨_, rfl⟩
      rw [← hs] at c2' hsN
      obtain ⟨b1, o1, rfl, hb1, hc1⟩ := (HR.out.below hbw (Nat.le_refl _)).at (k := s) hsN
      have c1 := hc1 s hsN
      have hx := HBD.out s hsN
      have hwt : l.getD s 0 = (W t : Int) := by rw [HW.out]; show _ = (((l.getD (L.getD t 0) 0).toNat : Nat) : Int); rw [← hs]; omega
      have hzt : (s : Int) = Z t := by rw [HZ.out, hs]
      obtain ⟨x, hxx⟩ : ∃ x, x = l.getD s 0 := ⟨_, rfl⟩
      rw [← hxx] at c1 hx hwt
      have hsN2 : s < N := by rw [HN.out]; exact hsN
      have f1 := hrow.frozen (t * 2)
      have f2 := hrow.frozen (t * 2 + 1)
      have g1 := hrow.cell (show t * 2 < n * 2 by omega)
      have g2 := (hrow.set (t * 2) x).cell (show t * 2 + 1 < n * 2 by omega)
      have hset := (hrow.set (t * 2) x).set (t * 2 + 1) (s : Int)
      have HSET := Lib.hid hset; have HB := Lib.hid hbw; have HWT := Lib.hid hwt; have HZT := Lib.hid hzt
      clear hc1 hc2 hrow hset hbw hs hwt hzt hxx hsN
      go_wp2
      go_roundw
      case rel =>
        refine ⟨t + 1, by omega, by go_num, (HB.out.setCell (p := ⟨w.heap.size, t * 2, none⟩) (Nat.le_refl _) _).setCell (p := ⟨w.heap.size, t * 2 + 1, none⟩) (Nat.le_refl _) _, ?_⟩
        have h := HSET.out
        rw [HWT.out, HZT.out, upto_step] at h
        rw [HWT.out, HZT.out]
        exact h
      case measure => simp [intOf]; omega
    · obtain rfl : t = n := by omega
      have hlti : ¬ (t : Int) < (t : Int) := by omega
      have HROW := Lib.hid hrow; have HB := Lib.hid hbw
      clear hrow hbw
      go_wp2
      go_ret
      exact ⟨some ⟨w.heap.size, 0, none⟩, t, rfl, HB.out, Nat.le_refl _, (fun h => by cases h), (RowE.ext HROW.out (fun j hj => by unfold upto; rw [if_pos hj])).rdQ (Nat.le_refl _)⟩
set_option maxRecDepth 100000 in
set_option maxHeartbeats 4000000 in
theorem pairUp_any (w : World) (lo : Nat) (A : Option Addr) (c m : Nat) (W : Nat → Nat) (Z : Nat → Int) (hr : RdQ w lo w.heap.size A m W Z) (hm : m ≤ 1000) (hb : ∀ j, j < m → W j ≤ 70368744177664) :
    Calls Try.prog 29 #[.slice A m c] w fun e w' => ∃ A' c', e = .returned (.slice A' (m / 2) c') ∧ Below w.heap.size w w' ∧ m / 2 ≤ c' ∧ (A' = none → c' = 0) ∧ RdQ w' w.heap.size w'.heap.size A' (m / 2) (prs W) (fun _ => -1) := by
  have HR := Lib.hid hr; have HBD := Lib.hid hb
  obtain ⟨n, hn⟩ : ∃ n, n = m / 2 := ⟨_, rfl⟩
  have en : (m : Int) / 2 = (n : Int) := by omega
  have hnm : 2 * n ≤ m := by omega
  rw [← hn]
  obtain ⟨P, hP⟩ : ∃ P : Nat → Nat, P = prs W := ⟨_, rfl⟩
  obtain ⟨Y, hY⟩ : ∃ Y : Nat → Int, Y = fun _ => -1 := ⟨_, rfl⟩
  rw [← hP, ← hY]
  have HP := Lib.hid hP; have HY := Lib.hid hY
  have hmk := make_prc n (by omega)
  have hbase := rowE_made w n
  rw [upto_start P Y] at hbase
  have hbl : Below w.heap.size w (w.alloc (.cells (madeCells #[.int .i64 0, .int .i64 0] (n * 2)) 58)) := (Below.refl _ w).alloc (Nat.le_refl _) _
  obtain ⟨u, hu⟩ : ∃ u, u = w.alloc (.cells (madeCells #[.int .i64 0, .int .i64 0] (n * 2)) 58) := ⟨_, rfl⟩
  rw [← hu] at hbase hbl
  have HU := Lib.hid hu; have HB0 := Lib.hid hbl; have HBASE := Lib.hid hbase
  clear hr hb hP hY hu hbase hbl hn
  go_enter Try.func29, Try.ntmps29
  go_wp2
  rw [← HU.out]
  clear hmk
  go_loopw [11] (fun i wr => ∃ t : Nat, t ≤ n ∧ i = .int .i64 (t : Int) ∧ Below w.heap.size w wr ∧ RowE 58 wr w.heap.size (n * 2) (upto t P Y)) (fun i _ => n - (intOf i).toNat)
  case atStart => exact ⟨0, Nat.zero_le _, rfl, HB0.out, HBASE.out⟩
  case round =>
    obtain ⟨t, ht, rfl, hbw, hrow⟩ := hrel
    by_cases hlt : t < n
    · have hlti : (t : Int) < (n : Int) := by omega
      obtain ⟨b1, o1, rfl, _, hb1, hc1⟩ := (HR.out.below hbw (Nat.le_refl _)) (by omega)
      obtain ⟨p, hp⟩ : ∃ p, p = 2 * t := ⟨_, rfl⟩
      have ep : 2 * (t : Int) = (p : Int) := by omega
      have c1 := hc1 (p * 2) (by omega)
      have c2 := hc1 ((p + 1) * 2) (by omega)
      rw [parN_a] at c1 c2
      have hpm : p + 1 < m := by omega
      have hx := HBD.out p (by omega)
      have hy := HBD.out (p + 1) (by omega)
      have hs : P t = W p + W (p + 1) := by rw [HP.out]; unfold prs; rw [hp]
      obtain ⟨x, hxx⟩ : ∃ x, x = W p := ⟨_, rfl⟩
      obtain ⟨y, hyy⟩ : ∃ y, y = W (p + 1) := ⟨_, rfl⟩
      rw [← hxx] at c1 hx hs
      rw [← hyy] at c2 hy hs
      have c1' : wr.cell? ⟨b1, o1 + p * 2, none⟩ = some (.int .i64 (x : Int)) := c1
      have f1 := hrow.frozen (t * 2)
      have f2 := hrow.frozen (t * 2 + 1)
      have g1 := hrow.cell (show t * 2 < n * 2 by omega)
      have g2 := (hrow.set (t * 2) ((x : Int) + (y : Int))).cell (show t * 2 + 1 < n * 2 by omega)
      have hset := (hrow.set (t * 2) ((x : Int) + (y : Int))).set (t * 2 + 1) (-1)
      obtain ⟨z1, hz1⟩ : ∃ z1, z1 = upto t P Y (t * 2) := ⟨_, rfl⟩
      rw [← hz1] at g1
      obtain ⟨z2, hz2⟩ : ∃ z2 : Int, z2 = (if t * 2 + 1 = t * 2 then ((x : Int) + (y : Int)) else upto t P Y (t * 2 + 1)) := ⟨_, rfl⟩
      rw [← hz2] at g2
      have HSET := Lib.hid hset; have HB := Lib.hid hbw; have HS := Lib.hid hs
      clear hc1 hrow hset hbw hs hxx hyy hp c1 hz1 hz2
      go_wp2
      go_region
      go_wp2
      go_roundw
      case rel =>
        refine ⟨t + 1, by omega, by go_num, ((HB.out.setCell (p := ⟨w.heap.size, t * 2, none⟩) (Nat.le_refl _) _).setCell (p := ⟨w.heap.size, t * 2 + 1, none⟩) (Nat.le_refl _) _).drew, ?_⟩
        have h := HSET.out.drew
        have e1 : (x : Int) + (y : Int) = (P t : Int) := by have := HS.out; omega
        have e2 : (-1 : Int) = Y t := by rw [HY.out]
        rw [e1, e2, upto_step] at h
        rw [e1, e2]
        exact h
      case measure => simp [intOf]; omega
    · obtain rfl : t = n := by omega
      have hlti : ¬ (t : Int) < (t : Int) := by omega
      have HROW := Lib.hid hrow; have HB := Lib.hid hbw
      clear hrow hbw
      go_wp2
      go_ret
      exact ⟨some ⟨w.heap.size, 0, none⟩, t, rfl, HB.out, Nat.le_refl _, (fun h => by cases h), (RowE.ext HROW.out (fun j hj => by unfold upto; rw [if_pos hj])).rdQ (Nat.le_refl _)⟩
end Go.Proofs.Ytgppikhfkikknaa
