/-
  Layer 9 (reach), the landed code: filled; the kinds of lengths and of distances.
-/
import Derived.Deep.DeepCutAuto
import Derived.BigRegion
import Derived.BigQuiet
import Derived.Great.BuildSlice
import Derived.Test.YtjhljkhgjcckhaaGreatMhaa
import Derived.Test.YtjhljkhgjcckhaaGreatMhad
import Derived.Test.YtjhljkhgjcckhaaGreatMhaf
import Derived.Test.YtjhljkhgjcckhaaGreatMhal
import Derived.Test.YtjhljkhgjcckhaaGreatMhaq
namespace Go.Proofs.YtjhljkhgjcckhaaGreat
open Go.RowKit Go.Shelf
attribute [local go_sem] Oper.semAt_some
/-- Is parcel t of row K + 1 an item? -/
def itK (n : Nat) (W : Nat → Nat) : Nat → Nat → Bool
  | 0, _ => true
  | K + 1, t => pickB n (rowLen n K / 2) W (prs (rowW n W K)) (takeI n W (K + 1) t) (t - takeI n W (K + 1) t)
theorem takeI_succ (n : Nat) (W : Nat → Nat) : ∀ K t, takeI n W K (t + 1) = if itK n W K t = true then takeI n W K t + 1 else takeI n W K t
  | 0, _ => rfl
  | _ + 1, _ => rfl
theorem zK_eq (n : Nat) (W : Nat → Nat) (Z : Nat → Int) : ∀ K t, zK n W Z K t = if itK n W K t = true then Z (takeI n W K t) else -1
  | 0, _ => rfl
  | _ + 1, _ => rfl
/-- The most that may be taken of the rows ahead. -/
def capN (n : Nat) : Nat → Nat
  | 0 => 0
  | K + 1 => rowLen n K
theorem takeI_bd (n : Nat) (W : Nat → Nat) : ∀ K t, t ≤ rowLen n K → takeI n W K t ≤ n ∧ takeI n W K t ≤ t ∧ 2 * (t - takeI n W K t) ≤ capN n K
  | 0, t, h => ⟨h, Nat.le_refl _, by show 2 * (t - t) ≤ 0; omega⟩
  | K + 1, t, h => by
    have hb := stepI_bd (n := n) (m := rowLen n K / 2) (w := W) (p := prs (rowW n W K)) t h
    refine ⟨hb.1, hb.2.2, ?_⟩
    show 2 * (t - stepI n (rowLen n K / 2) W (prs (rowW n W K)) t) ≤ rowLen n K
    omega
theorem takeI_zero (n : Nat) (W : Nat → Nat) : ∀ K, takeI n W K 0 = 0
  | 0 => rfl
  | _ + 1 => rfl
theorem takeI_mono (n : Nat) (W : Nat → Nat) (K t : Nat) : ∀ d, takeI n W K t ≤ takeI n W K (t + d)
  | 0 => Nat.le_refl _
  | d + 1 => by
    have ih := takeI_mono n W K t d
    rw [← Nat.add_assoc, takeI_succ]
    split <;> omega
/-- What the rows that are left count. -/
def remN (n : Nat) (W : Nat → Nat) : Nat → Nat → Nat → Nat
  | 0, _, _ => 0
  | K + 1, T, i => cntN n W K T i
theorem rem_step (n : Nat) (W : Nat → Nat) (i : Nat) : ∀ K T, remN n W (K + 1) T i = (if i < takeI n W K T then 1 else 0) + remN n W K (2 * (T - takeI n W K T)) i
  | 0, _ => rfl
  | _ + 1, _ => rfl
/-- By symbol. -/
def cntY (F : Nat → Nat) (N : Nat) (c : Nat → Nat) (s : Nat) : Nat := if s < N ∧ 0 < F s then c (rankN F N s) else 0
theorem cntY_at {F : Nat → Nat} {N k : Nat} (hk : k < nI F N) (c : Nat → Nat) : cntY F N c ((itemsL F N).getD k 0) = c k := by
  have h := rank_of hk
  unfold cntY
  rw [if_pos h.2, h.1]
theorem cntY_ext {F : Nat → Nat} {N : Nat} {c d : Nat → Nat} (h : ∀ i, i < nI F N → c i = d i) (s : Nat) : cntY F N c s = cntY F N d s := by
  unfold cntY
  split
  · rename_i hs
    exact h _ (rank_at hs.1 hs.2).1
  · rfl
theorem cntY_upd {F : Nat → Nat} {N k : Nat} (hk : k < nI F N) (c : Nat → Nat) (x : Nat) (hx : x = c k + 1) (d : Nat → Nat) (hd : ∀ i, d i = if i = k then c i + 1 else c i) : upd (cntY F N c) ((itemsL F N).getD k 0) x = cntY F N d := by
  have h := rank_of hk
  funext i
  unfold upd cntY
  by_cases e : i = (itemsL F N).getD k 0
  · subst e
    rw [if_pos rfl, if_pos h.2, h.1, hd, if_pos rfl]; exact hx
  · rw [if_neg e]
    by_cases hi : i < N ∧ 0 < F i
    · rw [if_pos hi, if_pos hi, hd, if_neg]
      intro h2
      have hr := rank_at hi.1 hi.2
      rw [h2] at hr
      exact e hr.2.symm
    · rw [if_neg hi, if_neg hi]
theorem cntY_len {F : Nat → Nat} {N L : Nat} (h2 : 2 ≤ nI F N) {s : Nat} (hs : s < N) : cntY F N (cntN (nI F N) (itemW F N) (L - 1) (2 * nI F N - 2)) s = lenB F N L s := by
  unfold cntY lenB
  by_cases h : 0 < F s
  · rw [if_pos ⟨hs, h⟩, if_neg (by omega), if_neg (by omega)]
  · rw [if_neg (fun hh => h hh.2), if_pos (by omega)]
theorem grown_blk {W W' : World} {row : Option Nat} {B k : Nat} (hg : W.grownBy W' row) (hr : ∀ r, row = some r → B ≤ r ∧ ∃ o : Obj, W.heap[r]? = some o ∧ o.isCells = false) (hk : k < B) (hs : B ≤ W.heap.size) : W'.heap[k]? = W.heap[k]? :=
  hg.block k (by omega) (fun e => by have := (hr k e.symm).1; omega)
theorem rowLen_ge4 (n : Nat) : ∀ K, n ≤ rowLen n K
  | 0 => Nat.le_refl _
  | _ + 1 => Nat.le_add_right _ _
/-- Where the rows lie, and the iterator's own slice. -/
def SKp (lo B : Nat) (k : Nat) : Prop := (lo ≤ k ∧ k < B) ∨ k = B + 2
/-- Between two rounds. -/
def CntI (w u : World) (g N cN n L : Nat) (F : Nat → Nat) (lo : Nat) (j : Nat) (W : World) : Prop :=
  Boxed W w.heap.size 22 (.slice (some ⟨g, 0, none⟩) N cN) ∧ KpS (SKp lo w.heap.size) u W ∧ Below g w W ∧ u.heap.size ≤ W.heap.size ∧
  ∃ (T : Nat) (c : Nat → Nat), Boxed W (w.heap.size + 1) 3 (.int .i64 (T : Int)) ∧ T ≤ capN n (L - j) ∧ (∀ i, i < n → c i + remN n (itemW F N) (L - j) T i = cntN n (itemW F N) (L - 1) (2 * n - 2) i) ∧ RowW W g N (cntY F N c)
theorem CntI.own (w u : World) (g N cN n L : Nat) (F : Nat → Nat) (lo : Nat) (hu : u.heap.size = w.heap.size + 3) (hg : g < w.heap.size) : OwnFrom u.heap.size (CntI w u g N cN n L F lo) := by
  rintro j W W' row ⟨h1, h2, h3, h4, T, c, h5, h6, h7, cur, h8, h9⟩ hgr hr
  have hk : ∀ k, k < u.heap.size → W'.heap[k]? = W.heap[k]? := fun k hk => grown_blk hgr hr hk h4
  refine ⟨(hk _ (by omega)).trans h1, fun k hS => (hk k ?_).trans (h2 k hS), h3.grown hgr ?_ (fun r e => ?_), Nat.le_trans h4 hgr.size, T, c, (hk _ (by omega)).trans h5, h6, h7, cur, (hk _ (by omega)).trans h8, h9⟩
  · rcases hS with hS | hS <;> omega
  · omega
  · have := (hr r e).1; omega
set_option maxRecDepth 100000 in
set_option maxHeartbeats 8000000 in
theorem count4_any (w : World) (g N cN : Nat) (F : Nat → Nat) (hrow : RowW w g N (cntY F N (fun _ => 0))) (lo : Nat) (A : Option Addr) (c n L : Nat) (hn : n = nI F N) (h2' : 2 ≤ n) (hL1 : 1 ≤ L) (hL2 : L ≤ 15) (hp : n ≤ 2 ^ L) (hN : N ≤ 400) (hg : g < lo)
    (hr : RdR w lo w.heap.size A L n (itemW F N) (fun t => (((itemsL F N).getD t 0 : Nat) : Int))) (T0 : Nat) (hT0 : T0 = 2 * n - 2) :
    Calls Tryz.prog 86 #[.slice (some ⟨g, 0, none⟩) N cN, .slice A L c, .int .i64 (T0 : Int)] w fun e w' => e = .returned (.tuple #[]) ∧ Below g w w' ∧ RowW w' g N (lenB F N L) := by
  obtain ⟨b, o, rfl, hb1, hb2, hcc⟩ := hr
  refine (callsIn_wide (n := 5)).1 ?_
  refine callsIn_of_wp_marks Tryz.func86 rfl trivial ?_ rfl
  simp only [Tryz.ntmps86, List.size_toArray, List.length_cons, List.length_nil, Nat.reduceAdd, Nat.reduceSub, Array.replicate_succ, Array.replicate_zero, List.push_toArray, List.append_toArray, List.nil_append, List.cons_append]
  have HROW := Lib.hid hrow; have HCC := Lib.hid hcc; have HN := Lib.hid hn; have HP := Lib.hid hp; have HT := Lib.hid hT0
  clear hrow hcc hn hp hT0
  gi_wp2_with (refine ⟨trivial, ?_⟩; gi_at_call 106; refine (bwd_in _ _ trivial rfl _ _ _ _).mono ?_; rintro e w' ⟨rfl, rfl⟩)
  have HSK : g < w.heap.size := by omega
  have hn4 : n ≤ 400 := by rw [HN.out]; exact Nat.le_trans (nI_le F N) hN
  obtain ⟨fA, hfA⟩ := Classical.axiomOfChoice (r := fun (K : Nat) (y : Option Addr × Nat) => K < L → w.cell? ⟨b, o + K, none⟩ = some (.slice y.1 (rowLen n K) y.2) ∧ rowLen n K ≤ y.2 ∧ RdQ w lo w.heap.size y.1 (rowLen n K) (rowW n (itemW F N) K) (zK n (itemW F N) (fun t => (((itemsL F N).getD t 0 : Nat) : Int)) K)) (fun K => by
    by_cases hK : K < L
    · obtain ⟨AK, cK, q⟩ := HCC.out K hK
      exact ⟨(AK, cK), fun _ => q⟩
    · exact ⟨(none, 0), fun h => absurd h hK⟩)
  obtain ⟨u, hu⟩ : ∃ u, u = ((w.alloc (.cells #[.slice (some ⟨g, 0, none⟩) N cN] 22)).alloc (.cells #[.int .i64 (T0 : Int)] 3)).alloc (.cells #[.slice (some ⟨b, o, none⟩) L c] 150) := ⟨_, rfl⟩
  have husz : u.heap.size = w.heap.size + 3 := by rw [hu]; simp
  have hbu : Below w.heap.size w u := by rw [hu]; exact (((Below.refl _ w).alloc (Nat.le_refl _) _).alloc (by simp) _).alloc (by simp; omega) _
  have hx1 : Boxed u w.heap.size 22 (.slice (some ⟨g, 0, none⟩) N cN) := by rw [hu]; exact ((Boxed.new w _ _).alloc _).alloc _
  have hx2 : Boxed u (w.heap.size + 1) 3 (.int .i64 (T0 : Int)) := by
    rw [hu]
    have h := (Boxed.new (w.alloc (.cells #[.slice (some ⟨g, 0, none⟩) N cN] 22)) 3 (.int .i64 (T0 : Int))).alloc (.cells #[.slice (some ⟨b, o, none⟩) L c] 150)
    rwa [World.size_alloc] at h
  have hx3 : u.cell? ⟨w.heap.size + 1 + 1, 0, none⟩ = some (.slice (some ⟨b, o, none⟩) L c) := by
    rw [hu]
    have h := (Boxed.new ((w.alloc (.cells #[.slice (some ⟨g, 0, none⟩) N cN] 22)).alloc (.cells #[.int .i64 (T0 : Int)] 3)) 150 (.slice (some ⟨b, o, none⟩) L c)).cell
    rwa [World.size_alloc, World.size_alloc] at h
  have hrowu : RowW u g N (cntY F N (fun _ => 0)) := HROW.out.below hbu HSK
  rw [← hu]
  clear hu HCC
  refine wpIn_range_tied (L := L) rfl (by omega) (gf := 116) (lb := #[.pointer (some ⟨w.heap.size + 1 + 1, 0, none⟩)]) rfl trivial (enters_of Tryz.func116 (by kernel_rfl) rfl)
    (bwd_tied _ _ trivial rfl (by omega) (w.heap.size + 1 + 1) b o L c (fun K => (fA K).1) (rowLen n) (fun K => (fA K).2) (SKp lo w.heap.size) (.inr rfl) (.inl ⟨hb1, hb2⟩) (by omega) u hx3 (by omega) (by omega) (fun K hK => by
      rw [hbu.cell (p := ⟨b, o + K, none⟩) hb2]; exact (hfA K hK).1))
    (fun h k => h.tr k) (fun W l ob ob' hl _ _ _ k hS => World.putObj_heap_other (by rcases hS with hS | hS <;> omega)) (fun _ => rfl)
    (CntI w u g N cN n L F lo) (CntI.own w u g N cN n L F lo husz HSK) ?start
    (fun j => { tmps := #[.slice (some ⟨g, 0, none⟩) N cN, .slice (some ⟨b, o, none⟩) L c, .int .i64 (T0 : Int), .pointer (some ⟨w.heap.size, 0, none⟩), undef, .pointer (some ⟨w.heap.size + 1, 0, none⟩), undef, .slice (fA (L - 1 - j)).1 (rowLen n (L - 1 - j)) (fA (L - 1 - j)).2, undef, undef, undef, .slice (some ⟨b, o, none⟩) L c,
      .func (.func 116) #[] #[.pointer (some ⟨w.heap.size + 1 + 1, 0, none⟩)], .int .i64 ((L - 1 - j : Nat) : Int), .slice (fA (L - 1 - j)).1 (rowLen n (L - 1 - j)) (fA (L - 1 - j)).2, undef, undef, undef, undef, undef, undef, undef, undef, undef, undef, undef, undef, undef, undef, undef, undef, undef, undef, undef, undef, undef, undef], defers := [] }) ?assign ?body ?done
  case start =>
    refine ⟨hx1, KpS.refl _ _, hbu.mono (by omega), Nat.le_refl _, T0, fun _ => 0, hx2, ?_, fun i hi => ?_, hrowu⟩
    · have := rowLen_enough (n := n) hL1 HP.out
      obtain ⟨K, rfl⟩ : ∃ K, L = K + 1 := ⟨L - 1, by omega⟩
      rw [HT.out]
      exact this
    · obtain ⟨K, rfl⟩ : ∃ K, L = K + 1 := ⟨L - 1, by omega⟩
      rw [HT.out, Nat.zero_add]
      rfl
  case assign =>
    intro l j W K hK
    gi_wp2
    exact hK
  case done =>
    rintro D W hD ⟨h1, h2, h3, h4, T, c', h5, h6, h7, h8⟩ hK
    gi_wp2
    refine ⟨by simp, .inl ⟨_, _, rfl, run_takeDeferred hK, ?_⟩⟩
    refine ⟨_, results_none rfl _ _ _, rfl, h3.grown (grownBy_putObj' W D _) (by omega) (fun r e => by cases e; omega), ?_⟩
    have hgD : g ≠ D := by omega
    obtain ⟨cur, q1, q2⟩ := h8
    refine RowW.ext ⟨cur, (World.putObj_heap_other hgD).trans q1, q2⟩ fun s hs => ?_
    rw [← cntY_len (by rw [← HN.out]; exact h2') hs, ← HN.out]
    refine cntY_ext (fun i hi => ?_) s
    have h := h7 i (by rw [HN.out]; exact hi)
    rw [Nat.sub_self] at h
    exact h
  case body =>
    rintro l j W ⟨h1, h2, h3, h4, T, c', h5, h6, h7, h8⟩ hj
    obtain ⟨K, hK⟩ : ∃ K, K = L - 1 - j := ⟨_, rfl⟩
    rw [← hK]
    have hLj : L - j = K + 1 := by omega
    have hKL : K < L := by omega
    rw [hLj] at h6 h7
    obtain ⟨q1, q2, q3⟩ := hfA K hKL
    obtain ⟨AK, hAK⟩ : ∃ AK, AK = (fA K).1 := ⟨_, rfl⟩
    obtain ⟨cK, hcK⟩ : ∃ cK, cK = (fA K).2 := ⟨_, rfl⟩
    rw [← hAK] at q1 q3 ⊢
    rw [← hcK] at q1 q2 ⊢
    have hfew := rowLen_few h2' hn4 K
    have htk : T ≤ rowLen n K := h6
    have hfin := takeI_bd n (itemW F N) K T htk
    have hge := rowLen_ge4 n K
    obtain ⟨bk, ok, rfl, hlo, hbk, hcells⟩ := q3 (by omega)
    have hcW : ∀ i, i < rowLen n K * 2 → W.cell? ⟨bk, ok + i, none⟩ = some (.int .i64 (parN (rowW n (itemW F N) K) (zK n (itemW F N) (fun t => (((itemsL F N).getD t 0 : Nat) : Int)) K) i)) := fun i hi => by
      rw [h2.cell (p := ⟨bk, ok + i, none⟩) (.inl ⟨hlo, hbk⟩), hbu.cell (p := ⟨bk, ok + i, none⟩) hbk]; exact hcells i hi
    have hTc : T ≤ cK := by omega
    have hT8 : T ≤ 800 := by omega
    obtain ⟨m, hm⟩ : ∃ m, m = rowLen n K := ⟨_, rfl⟩
    rw [← hm] at htk ⊢
    have hb5 := h5.cell
    have hf5 := h5.frozen
    have HCW := Lib.hid hcW; have HM := Lib.hid hm; have H1 := Lib.hid h1; have H2 := Lib.hid h2; have H3 := Lib.hid h3; have H5 := Lib.hid h5; have H7 := Lib.hid h7; have H8 := Lib.hid h8; have HKK := Lib.hid hK; have HFIN := Lib.hid hfin; have HFA := Lib.hid hfA
    clear hcW hm h1 h2 h3 h5 h7 h8 hK hfin hcells q1 q2 q3 hAK hcK hLj h6 hx1 hx2 hx3 hrowu hbu hfA hge
    gi_wp2
    gi_loopw [8, 19] (fun v8 v19 wr => ∃ t d : Nat, t ≤ T ∧ d ≤ 2000 ∧ v8 = .int .i64 (d : Int) ∧ v19 = .int .i64 (t : Int) ∧ Hid (d = 2 * (t - takeI n (itemW F N) K t)) ∧ Hid (RowW wr g N (cntY F N (fun i => c' i + if i < takeI n (itemW F N) K t then 1 else 0))) ∧ Hid (KeepsOthers W wr) ∧ Hid (∀ k, k < u.heap.size → k ≠ g → wr.heap[k]? = W.heap[k]?) ∧ Hid (Below g w wr) ∧ u.heap.size ≤ wr.heap.size) (fun _ v19 _ => T - (intOf v19).toNat)
    case atStart => exact ⟨0, 0, Nat.zero_le _, by omega, rfl, rfl, Lib.hid (by omega), Lib.hid (H8.out.ext fun s _ => cntY_ext (fun i _ => by rw [takeI_zero, if_neg (by omega)]; rfl) s), Lib.hid (KeepsOthers.refl _), Lib.hid (fun _ _ _ => rfl), H3, h4⟩
    case round =>
      obtain ⟨t, d, htT, hd2, rfl, rfl, HD, HR, HKO, HST, HB, hsz⟩ := hrel
      by_cases hlt : t < T
      · have hlti : (t : Int) < (T : Int) := by omega
        have hgw : g < wr.heap.size := by omega
        have hbw : w.heap.size < wr.heap.size := by omega
        have hbkw : bk < wr.heap.size := by omega
        have hsame : ∀ p : Addr, p.block < u.heap.size → p.block ≠ g → wr.cell? p = W.cell? p := fun p hp hne => by simp only [World.cell?, HST.out _ hp hne]
        have c1 := (hsame ⟨bk, ok + t * 2, none⟩ (by show bk < _; omega) (by show bk ≠ g; omega)).trans (HCW.out (t * 2) (by rw [← HM.out]; omega))
        have c2 := (hsame ⟨bk, ok + (t * 2 + 1), none⟩ (by show bk < _; omega) (by show bk ≠ g; omega)).trans (HCW.out (t * 2 + 1) (by rw [← HM.out]; omega))
        rw [parN_a] at c1
        rw [parN_b, zK_eq] at c2
        rw [← Nat.add_assoc] at c2
        have c3 := (hsame ⟨w.heap.size, 0, none⟩ (by show w.heap.size < _; omega) (by show w.heap.size ≠ g; omega)).trans H1.out.cell
        obtain ⟨x, hx⟩ : ∃ x, x = rowW n (itemW F N) K t := ⟨_, rfl⟩
        rw [← hx] at c1
        have hts := takeI_succ n (itemW F N) K t
        have hbd := takeI_bd n (itemW F N) K (t + 1) (by rw [← HM.out]; omega)
        obtain ⟨q, hq⟩ : ∃ q, q = takeI n (itemW F N) K t := ⟨_, rfl⟩
        rw [← hq] at HD HR hts c2
        by_cases hit : itK n (itemW F N) K t = true
        · rw [if_pos hit] at hts c2
          have hqn : q < n := by omega
          have hrk := rank_of (F := F) (n := N) (r := q) (by rw [← HN.out]; exact hqn)
          have hca := cntY_at (F := F) (N := N) (k := q) (by rw [← HN.out]; exact hqn) (fun i => c' i + if i < q then 1 else 0)
          have hup := cntY_upd (F := F) (N := N) (k := q) (by rw [← HN.out]; exact hqn) (fun i => c' i + if i < q then 1 else 0)
          have htot := H7.out q hqn
          have hcl := cnt_le n (itemW F N) (L - 1) (2 * n - 2) q
          have hrem := rem_step n (itemW F N) q K T
          have hmn := takeI_mono n (itemW F N) K (t + 1) (T - (t + 1))
          rw [show t + 1 + (T - (t + 1)) = T by omega] at hmn
          rw [if_pos (by omega)] at hrem
          obtain ⟨s, hs⟩ : ∃ s, s = (itemsL F N).getD q 0 := ⟨_, rfl⟩
          rw [← hs] at hrk hca hup c2
          have hsN : s < N := hrk.2.1
          have c4 := HR.out.cell hsN
          have f4 := HR.out.frozen s
          obtain ⟨y, hy⟩ : ∃ y, y = c' q := ⟨_, rfl⟩
          simp only [if_neg (Nat.lt_irrefl q), Nat.add_zero] at hca
          rw [hca, ← hy] at c4
          have hy15 : y + 1 ≤ 15 := by omega
          have hne : ((s : Int) == -1) = false := by simp
          have hset := HR.out.set s (y + 1)
          rw [show ((y + 1 : Nat) : Int) = (y : Int) + 1 by omega] at hset
          have HSET := Lib.hid hset; have HUP := Lib.hid hup; have HTS := Lib.hid hts; have HQ := Lib.hid hq; have HY := Lib.hid hy
          clear hx hts hbd hq hrk hca hup htot hcl hrem hmn hs hy hset hsame hit
          gi_wp2
          go_roundw
          case rel =>
            have hsu : (wr.setCell ⟨g, s, none⟩ (.int .u8 ((y : Int) + 1))).heap.size = wr.heap.size := by simp [World.setCell]
            refine ⟨t + 1, d, by omega, hd2, rfl, by go_num, Lib.hid ?_, Lib.hid ?_, Lib.hid ((HKO.out.trans (KeepsOthers.setCell _ _ _)).trans (KeepsOthers.alloc _ _)), Lib.hid (fun k hk hne => ?_), Lib.hid ((HB.out.setCell (p := ⟨g, s, none⟩) (Nat.le_refl _) _).alloc (by rw [hsu]; omega) _), by rw [World.size_alloc, hsu]; omega⟩
            · rw [HTS.out, HD.out]; omega
            · have h := HSET.out
              rw [HUP.out (y + 1) (by rw [HY.out, if_neg (Nat.lt_irrefl q)]) (fun i => c' i + if i < q + 1 then 1 else 0) (fun i => by
                by_cases e : i = q
                · rw [if_pos e, if_pos (by omega), if_neg (by omega)]
                · rw [if_neg e]
                  by_cases e2 : i < q
                  · rw [if_pos (by omega), if_pos e2]
                  · rw [if_neg (by omega), if_neg e2])] at h
              rw [HTS.out]
              exact h.below ((Below.refl _ _).alloc (Nat.le_refl _) _) (by rw [hsu]; omega)
            · exact ((Below.heap_alloc _ _ k (by rw [hsu]; omega)).trans (Below.heap_setCell wr _ _ k hne)).trans (HST.out k hk hne)
          case measure => simp [intOf]; omega
        · rw [if_neg hit] at hts c2
          have hm1 : ((-1 : Int) == -1) = true := rfl
          have HTS := Lib.hid hts; have HQ := Lib.hid hq
          have hdd := HD.out
          clear hx hts hq hsame hit c3
          gi_wp2
          go_roundw
          case rel =>
            refine ⟨t + 1, d + 2, by omega, by omega, by go_num, by go_num, Lib.hid ?_, Lib.hid ?_, Lib.hid (HKO.out.trans (KeepsOthers.alloc _ _)), Lib.hid (fun k hk hne => ?_), Lib.hid (HB.out.alloc (by omega) _), by rw [World.size_alloc]; omega⟩
            · have h1 := HTS.out; have h2 := HD.out; have h3 := HQ.out
              have h4 := hbd.2.1
              have h5 : q ≤ t := by rw [h3]; exact (takeI_bd n (itemW F N) K t (by rw [← HM.out]; omega)).2.1
              rw [h1]; omega
            · rw [HTS.out]
              exact HR.out.below ((Below.refl _ _).alloc (Nat.le_refl _) _) hgw
            · exact (Below.heap_alloc _ _ k (by omega)).trans (HST.out k hk hne)
          case measure => simp [intOf]; omega
      · obtain rfl : t = T := by omega
        have hlti : ¬ (t : Int) < (t : Int) := by omega
        have hb1w : w.heap.size + 1 < wr.heap.size := by omega
        have e5 := HST.out (w.heap.size + 1) (by omega) (by omega)
        have c5 : wr.cell? ⟨w.heap.size + 1, 0, none⟩ = some (.int .i64 (t : Int)) := by simp only [World.cell?, e5]; exact hb5
        have f5 : wr.frozen? ⟨w.heap.size + 1, 0, none⟩ = false := by simp only [World.frozen?, e5]; exact hf5
        have HE5 := Lib.hid e5
        clear e5 hb5 hf5
        gi_wp2
        have hLj : L - (j + 1) = K := by have := HKK.out; omega
        have hKp : KpS (SKp lo w.heap.size) W (wr.setCell ⟨w.heap.size + 1, 0, none⟩ (.int .i64 (d : Int))) := fun k hS => by
          have hne : k ≠ w.heap.size + 1 := by rcases hS with hS | hS <;> omega
          exact (Below.heap_setCell wr _ _ k hne).trans (HST.out k (by rcases hS with hS | hS <;> omega) (by rcases hS with hS | hS <;> omega))
        refine ⟨HKO.out.trans (KeepsOthers.setCell _ _ _), hKp, ?_, H2.out.tr hKp, HB.out.setCell (p := ⟨w.heap.size + 1, 0, none⟩) (by show g ≤ w.heap.size + 1; omega) _, by simp [World.setCell]; omega, d, (fun i => c' i + if i < takeI n (itemW F N) K t then 1 else 0), ?_, ?_, fun i hi => ?_, HR.out.other (by show g ≠ w.heap.size + 1; omega) _⟩
        · exact (Below.heap_setCell wr _ _ _ (by show w.heap.size ≠ w.heap.size + 1; omega)).trans ((HST.out _ (by omega) (by omega)).trans H1.out)
        · exact Boxed.set _ (HE5.out.trans H5.out)
        · rw [hLj, HD.out]; exact HFIN.out.2.2
        · rw [hLj, HD.out]
          have h := H7.out i hi
          rw [rem_step] at h
          show (c' i + if i < takeI n (itemW F N) K t then 1 else 0) + remN n (itemW F N) K (2 * (t - takeI n (itemW F N) K t)) i = _
          omega
end Go.Proofs.YtjhljkhgjcckhaaGreat

namespace Go.Proofs.YtjhljkhgjcckhaaGreat
open Go.RowKit
def chk4 (l : List Int) (most : Int) : Int := if most < 1 ∨ 15 < most then 2 else if 320 < l.length then 4 else if badL l l.length = true then 2 else 0
set_option maxRecDepth 100000 in
set_option maxHeartbeats 2000000 in
theorem check4_any (w : World) (A : Option Addr) (c : Nat) (l : List Int) (most : Int) (hr : RdI w w.heap.size A l) (hn : l.length ≤ 1000) (hm1 : -9223372036854775808 ≤ most) (hm2 : most ≤ 9223372036854775807) (hb : ∀ j, j < l.length → -9223372036854775808 ≤ l.getD j 0 ∧ l.getD j 0 ≤ 9223372036854775807) :
    Calls Tryz.prog 84 #[.slice A l.length c, .int .i64 most] w fun e w' => e = .returned (.int .i64 (chk4 l most)) ∧ w' = w := by
  have HR := Lib.hid hr; have HBD := Lib.hid hb
  clear hr hb
  obtain ⟨n, hn0⟩ : ∃ n, n = l.length := ⟨_, rfl⟩
  obtain ⟨E, hE⟩ : ∃ E, E = chk4 l most := ⟨_, rfl⟩
  rw [← hn0] at hn ⊢
  rw [← hE]
  unfold chk4 at hE
  rw [← hn0] at hE
  have HN := Lib.hid hn0
  clear hn0
  by_cases h1 : most < 1
  · rw [if_pos (.inl h1)] at hE
    subst hE
    have hd : decide (most < 1) = true := by simpa using h1
    go_enter Tryz.func84, Tryz.ntmps84
    go_wp2
    go_ret
    exact ⟨rfl, rfl⟩
  · have hd : decide (most < 1) = false := by simpa using h1
    by_cases h2 : 15 < most
    · rw [if_pos (.inr h2)] at hE
      subst hE
      go_enter Tryz.func84, Tryz.ntmps84
      go_wp2
      go_ret
      exact ⟨rfl, rfl⟩
    · rw [if_neg (by omega)] at hE
      have hd2 : decide (15 < most) = false := by simpa using h2
      by_cases h3 : 320 < n
      · rw [if_pos h3] at hE
        subst hE
        have hd3 : decide ((320 : Int) < (n : Int)) = true := by simp; omega
        have h3i : (320 : Int) < (n : Int) := by omega
        go_enter Tryz.func84, Tryz.ntmps84
        go_wp2
        go_ret
        exact ⟨rfl, rfl⟩
      · rw [if_neg h3] at hE
        have hd3 : decide ((320 : Int) < (n : Int)) = false := by simp; omega
        have h3i : ¬ (320 : Int) < (n : Int) := by omega
        have HE := Lib.hid hE
        clear hE
        go_enter Tryz.func84, Tryz.ntmps84
        go_wp2
        go_loopw [18] (fun i wr => ∃ k : Nat, k ≤ n ∧ i = .int .i64 (k : Int) ∧ wr = w ∧ Hid (∀ j, j < k → badI (l.getD j 0) = false)) (fun i _ => n - (intOf i).toNat)
        case atStart => exact ⟨0, Nat.zero_le _, rfl, rfl, Lib.hid (fun j hj => absurd hj (by omega))⟩
        case round =>
          obtain ⟨k, hk, rfl, rfl, HALL⟩ := hrel
          by_cases hlt : k < n
          · have hlti : (k : Int) < (n : Int) := by omega
            obtain ⟨b, o, rfl, hbl, hc⟩ := HR.out.at (k := k) (by rw [← HN.out]; exact hlt)
            have c1 := hc k (by rw [← HN.out]; exact hlt)
            have hxb := HBD.out k (by rw [← HN.out]; exact hlt)
            obtain ⟨x, hx⟩ : ∃ x, x = l.getD k 0 := ⟨_, rfl⟩
            rw [← hx] at c1 hxb
            have HX := Lib.hid hx
            clear hx hc
            by_cases g1 : x < 0
            · have hg1 : decide (x < 0) = true := by simpa using g1
              go_wp2
              go_ret
              have hbad : badL l l.length = true := badL_yes (k := k) (by rw [← HN.out]; exact hlt) (by rw [← HX.out]; exact decide_eq_true (.inl g1))
              have h := HE.out
              rw [HN.out, if_pos hbad] at h
              exact ⟨ret_int h.symm, rfl⟩
            · have hg1 : decide (x < 0) = false := by simpa using g1
              by_cases g2 : 1073741824 < x
              · have hg2 : decide (1073741824 < x) = true := by simpa using g2
                go_wp2
                go_ret
                have hbad : badL l l.length = true := badL_yes (k := k) (by rw [← HN.out]; exact hlt) (by rw [← HX.out]; exact decide_eq_true (.inr g2))
                have h := HE.out
                rw [HN.out, if_pos hbad] at h
                exact ⟨ret_int h.symm, rfl⟩
              · have hg2 : decide (1073741824 < x) = false := by simpa using g2
                go_wp2
                go_roundw
                case rel => exact ⟨k + 1, by omega, by go_num, trivial, Lib.hid (fun j hj => by
                  by_cases e : j = k
                  · rw [e, ← HX.out]; exact badI_no (by omega) (by omega)
                  · exact HALL.out j (by omega))⟩
                case measure => simp [intOf]; omega
          · obtain rfl : k = n := by omega
            have hlti : ¬ (k : Int) < (k : Int) := by omega
            go_wp2
            go_ret
            have hbad : badL l l.length = false := badL_no (fun j hj => HALL.out j (by rw [HN.out]; exact hj))
            have h := HE.out
            rw [HN.out, if_neg (by rw [hbad]; exact Bool.false_ne_true)] at h
            exact ⟨ret_int h.symm, rfl⟩
theorem ask_of_chk {l : List Int} {most : Int} (h : chk4 l most ≠ 0) : askE l most = chk4 l most := by
  unfold chk4 at h ⊢
  unfold askE
  split
  · rfl
  · rename_i h1
    rw [if_neg h1] at h
    split
    · rfl
    · rename_i h2
      rw [if_neg h2] at h
      split
      · rfl
      · rename_i h3
        rw [if_neg h3] at h
        exact absurd rfl h
theorem chk_right {l : List Int} {most : Int} (h : chk4 l most = 0) : 1 ≤ most ∧ most ≤ 15 ∧ l.length ≤ 320 ∧ (∀ j, j < l.length → 0 ≤ l.getD j 0 ∧ l.getD j 0 ≤ 1073741824) ∧ askE l most = if 2 ^ most.toNat < nI (freqN l) l.length then 4 else 0 := by
  unfold chk4 at h
  unfold askE
  split at h
  · cases h
  · rename_i h1
    rw [if_neg h1]
    split at h
    · cases h
    · rename_i h2
      rw [if_neg h2]
      split at h
      · cases h
      · rename_i h3
        rw [if_neg h3]
        refine ⟨by omega, by omega, by omega, fun j hj => ?_, rfl⟩
        have h4 : ¬ badI (l.getD j 0) = true := fun hb => h3 (badL_yes hj hb)
        have h5 := of_decide_eq_false (Bool.not_eq_true _ ▸ h4)
        omega
theorem lengths_room (w : World) (A : Option Addr) (c : Nat) (l : List Int) (most : Int) (hr : RdI w w.heap.size A l) (_hc : A = none → c = 0) (hn : l.length ≤ 1000) (hb : ∀ j, j < l.length → -9223372036854775808 ≤ l.getD j 0 ∧ l.getD j 0 ≤ 9223372036854775807)
    (hm1 : -9223372036854775808 ≤ most) (hm2 : most ≤ 9223372036854775807) :
    Calls Tryz.prog 58 #[.slice A l.length c, .int .i64 most] w fun e w' => ∃ A' c', e = .returned (.tuple #[.slice A' (lenO l most) c', .int .i64 (askE l most)]) ∧ Below w.heap.size w w' ∧ RdB w' w'.heap.size A' (lenO l most) (outL l most) ∧ lenO l most ≤ c' ∧ c' ≤ 1000 ∧ (A' = none → c' = 0) ∧ (∀ b o, A' = some ⟨b, o, none⟩ → w.heap.size ≤ b) := by
  have HCK := Lib.hid (check4_any w A c l most hr hn hm1 hm2 hb)
  have HR := Lib.hid hr; have HBD := Lib.hid hb
  by_cases hz : chk4 l most = 0
  · obtain ⟨k1, k2, k3, k4, k5⟩ := chk_right hz
    have HORD := order_any w A c l hr ⟨by omega, fun j hj => (k4 j hj).1⟩ hb
    obtain ⟨N, hN⟩ : ∃ N, N = l.length := ⟨_, rfl⟩
    obtain ⟨n, hnn⟩ : ∃ n, n = nI (freqN l) l.length := ⟨_, rfl⟩
    obtain ⟨L, hL⟩ : ∃ L : Nat, most = (L : Int) := ⟨most.toNat, by omega⟩
    subst hL
    rw [Int.toNat_natCast, ← hnn] at k5
    rw [hz] at HCK
    rw [← hnn, ← hN] at HORD
    rw [← hN] at HCK k3 ⊢
    obtain ⟨E, hE⟩ : ∃ E, E = askE l (L : Int) := ⟨_, rfl⟩
    obtain ⟨lo, hlo⟩ : ∃ lo, lo = lenO l (L : Int) := ⟨_, rfl⟩
    obtain ⟨ol, hol⟩ : ∃ ol, ol = outL l (L : Int) := ⟨_, rfl⟩
    rw [← hE, ← hlo, ← hol]
    have HEE := Lib.hid hE; have HLO := Lib.hid hlo; have HOL := Lib.hid hol; have HN := Lib.hid hN; have HNN := Lib.hid hnn; have HK4 := Lib.hid k4; have HK5 := Lib.hid k5
    have HOR := Lib.hid HORD
    have hL1 : 1 ≤ L := by omega
    have hL2 : L ≤ 15 := by omega
    have hnN : n ≤ N := by rw [hnn, hN]; exact nI_le _ _
    obtain ⟨Q, hQ⟩ : ∃ Q, Q = 2 ^ L := ⟨_, rfl⟩
    have hQ15 : Q ≤ 2 ^ 15 := by rw [hQ]; exact Nat.pow_le_pow_right (by decide) hL2
    have hQ32 : Q ≤ 32768 := hQ15
    have hcast : ((2 : Int) ^ L) = (Q : Int) := by rw [hQ, Int.natCast_pow]; rfl
    have hsh : wrap64 ((2 : Int) ^ L) = (Q : Int) := by rw [hcast]; unfold wrap64; omega
    have HQ := Lib.hid hQ
    clear hr hb hz hE hlo hol hN hnn k4 k5 HORD _hc hn hQ hQ15 hcast
    by_cases hmany : Q < n
    · have hmi : (Q : Int) < (n : Int) := by omega
      have hmd : decide ((Q : Int) < (n : Int)) = true := decide_eq_true hmi
      go_enter Tryz.func58, Tryz.ntmps58
      go_wp2_with (first
        | (go_at_call 84; refine HCK.out.mono ?_; rintro e w1 ⟨rfl, rfl⟩)
        | (go_at_call 85; refine HOR.out.mono ?_; rintro e w2 ⟨A1, c1, rfl, hb1, hr1⟩; have HB1 := Lib.hid hb1; have HR1 := Lib.hid hr1; clear hb1 hr1))
      go_ret2
      have he : E = 4 := by rw [HEE.out, HK5.out, if_pos (by rw [← HQ.out]; exact hmany)]
      have hl0 : lo = 0 := by rw [HLO.out]; unfold lenO; rw [← HEE.out, he, if_neg (by decide)]
      rw [he, hl0, HOL.out]
      exact ⟨none, 0, rfl, HB1.out, ⟨fun j => outL_lt l _ j, fun h => absurd h (by omega)⟩, by omega, by omega, fun _ => rfl, fun _ _ e => by cases e⟩
    · have hmi : ¬ (Q : Int) < (n : Int) := by omega
      have hmd : decide ((Q : Int) < (n : Int)) = false := decide_eq_false hmi
      have hnQ : n ≤ 2 ^ L := by rw [← HQ.out]; omega
      have he : E = 0 := by rw [HEE.out, HK5.out, if_neg (by omega)]
      have hl0 : lo = N := by rw [HLO.out]; unfold lenO; rw [← HEE.out, he, if_pos rfl, ← HN.out]
      have hol0 : ∀ j, ol j = lenB (freqN l) N L j := fun j => by rw [HOL.out]; unfold outL; rw [← HEE.out, he, if_pos rfl, ← HN.out, Int.toNat_natCast]
      have HOE := Lib.hid hol0; have HNQ := Lib.hid hnQ
      subst he; subst hl0
      have hmk := make_u8 lo (by omega)
      clear hmany hol0 hnQ
      by_cases h2 : 2 ≤ n
      · have hn1 : ((n : Int) == 1) = false := by simp; omega
        have hn2 : (1 : Int) < (n : Int) := by omega
        have hn2d : decide ((1 : Int) < (n : Int)) = true := decide_eq_true hn2
        have HNL := Lib.hid (show n = nI (freqN l) lo by rw [HN.out]; exact HNN.out)
        go_enter Tryz.func58, Tryz.ntmps58
        go_wp2_with (first
          | (go_at_call 84; refine HCK.out.mono ?_; rintro e w1 ⟨rfl, rfl⟩)
          | (go_at_call 85; refine HOR.out.mono ?_; rintro e w2 ⟨A1, c1, rfl, hb1, hr1⟩; have HBU := Lib.hid (show Below w1.heap.size w1 (w2.alloc (.cells (madeCells #[.int .u8 0] lo) 5)) from hb1.alloc hb1.size _); have HRU := Lib.hid (((HR.out.below HBU.out (Nat.le_refl _)).more HBU.out.size)); have HR1 := Lib.hid ((hr1.below ((Below.refl w2.heap.size w2).alloc (Nat.le_refl _) (.cells (madeCells #[.int .u8 0] lo) 5)) (Nat.le_refl _)).more (by simp : w2.heap.size ≤ (w2.alloc (.cells (madeCells #[.int .u8 0] lo) 5)).heap.size)); have HROW := Lib.hid (rowW_made w2 lo); have hsz1 := hb1.size; clear hb1 hr1; have HPRC := Lib.hid (parcels_any _ A c l HRU.out A1 c1 (itemsL (freqN l) lo) HR1.out (fun j hj => by have h := rank_of (F := freqN l) (n := lo) (r := j) (by rw [← items_length]; exact hj); have h2 := h.2.1; rw [HN.out] at h2 ⊢; exact h2) lo n HN.out (by rw [items_length]; exact HNL.out) (by omega) HK4.out))
          | (go_at_call 88; refine HPRC.out.mono ?_; rintro e w3 ⟨A3, c3, rfl, hb3, hc3, hA3, hr3⟩; have HB3 := Lib.hid hb3; have HC3 := Lib.hid hc3; have HA3 := Lib.hid hA3; have HR3 := Lib.hid hr3; clear hb3 hc3 hA3 hr3; have HRWS := Lib.hid (rows_any w3 _ A3 c3 n (itemW (freqN l) lo) (fun t => (((itemsL (freqN l) lo).getD t 0 : Nat) : Int)) HR3.out HB3.out.size HC3.out HA3.out L hL1 hL2 h2 (by omega) (fun i hi => by have h := rank_of (F := freqN l) (n := lo) (r := i) (by rw [← HNL.out]; exact hi); have h2 := HK4.out _ (by rw [← HN.out]; exact h.2.1); show (l.getD ((itemsL (freqN l) lo).getD i 0) 0).toNat ≤ _; omega)))
          | (go_at_call 87; refine HRWS.out.mono ?_; rintro e w4 ⟨A4, c4, rfl, hb4, hr4⟩; have HB4 := Lib.hid hb4; have HR4 := Lib.hid hr4; clear hb4 hr4))
        have hT : (2 * (n : Int) - 2) = ((2 * n - 2 : Nat) : Int) := by omega
        rw [hT]
        have hs3 := HB3.out.size
        have hs4 := HB4.out.size
        have hu1 : (w2.alloc (.cells (madeCells #[.int .u8 0] lo) 5)).heap.size = w2.heap.size + 1 := by simp
        have b4 : Below (w2.alloc (.cells (madeCells #[.int .u8 0] lo) 5)).heap.size (w2.alloc (.cells (madeCells #[.int .u8 0] lo) 5)) w4 := HB3.out.trans (HB4.out.mono hs3)
        have hrow4 : RowW w4 w2.heap.size lo (cntY (freqN l) lo (fun _ => 0)) := (HROW.out.below b4 (by omega)).ext (fun s _ => by unfold cntY; split <;> rfl)
        have hcnt := count4_any w4 w2.heap.size lo lo (freqN l) hrow4 (w2.alloc (.cells (madeCells #[.int .u8 0] lo) 5)).heap.size A4 c4 n L HNL.out h2 hL1 hL2 HNQ.out (by omega) (by omega) HR4.out (2 * n - 2) rfl
        have HCNT := Lib.hid hcnt
        clear hcnt hrow4 hT
        refine HCNT.out.mono ?_
        rintro e w5 ⟨rfl, hb5, hr5⟩
        have HB5 := Lib.hid hb5; have HR5 := Lib.hid hr5
        clear hb5 hr5
        go_wp2
        go_ret2
        have hr := HR5.out.ext (f' := ol) (fun j _ => (HOE.out j).symm)
        exact ⟨_, _, rfl, (HBU.out.trans (b4.mono HBU.out.size)).trans (HB5.out.mono hsz1), hr.rd (fun j => by rw [HOL.out]; exact outL_lt l _ j), Nat.le_refl _, by omega, (fun h => by cases h), (fun _ _ e => by injection e with e; injection e with e1; omega)⟩
      · have HNL := Lib.hid (show n = nI (freqN l) lo by rw [HN.out]; exact HNN.out)
        by_cases h1 : n = 1
        · have H1 := Lib.hid h1
          have hn1 : ((n : Int) == 1) = true := by simp; omega
          have hn2 : ¬ (1 : Int) < (n : Int) := by omega
          have hn2d : decide ((1 : Int) < (n : Int)) = false := decide_eq_false hn2
          have hn0 : 0 < n := by omega
          have hlt := rank_of (F := freqN l) (n := lo) (r := 0) (by have := HNL.out; omega)
          obtain ⟨s, hs⟩ : ∃ s, s = (itemsL (freqN l) lo).getD 0 0 := ⟨_, rfl⟩
          have hsN : s < lo := by rw [hs]; exact hlt.2.1
          have HS := Lib.hid hs
          clear hs hlt h2 h1
          go_enter Tryz.func58, Tryz.ntmps58
          go_wp2_with (first
            | (go_at_call 84; refine HCK.out.mono ?_; rintro e w1 ⟨rfl, rfl⟩)
            | (go_at_call 85; refine HOR.out.mono ?_; rintro e w2 ⟨A1, c1, rfl, hb1, hr1⟩; have hj1 := hr1; obtain ⟨b, o, rfl, hbl, hcc⟩ := hj1.at (k := 0) (by have h := HNL.out; rw [natsI_length, items_length, ← h]; exact hn0); have c0 := hcc 0 (by have h := HNL.out; rw [natsI_length, items_length, ← h]; exact hn0); rw [natsI_get, ← HS.out, Nat.add_zero] at c0; have HB1 := Lib.hid hb1; have hsz1 := hb1.size; have hmade := (rowW_made w2 lo).cell hsN; have hfz := (rowW_made w2 lo).frozen s; clear hj1 hcc hb1 hr1))
          go_ret2
          have hr := (rowW_one w2 lo s).ext (f' := ol) (fun j hj => by rw [HOE.out j, HS.out]; exact (len_one (HNL.out.symm.trans H1.out) hj).symm)
          exact ⟨_, _, rfl, HB1.out.alloc hsz1 _, hr.rd (fun j => by rw [HOL.out]; exact outL_lt l _ j), Nat.le_refl _, by omega, (fun h => by cases h), (fun _ _ e => by injection e with e; injection e with e1; omega)⟩
        · have h0 : n = 0 := by omega
          have H0 := Lib.hid h0
          have hn1 : ((n : Int) == 1) = false := by simp; omega
          have hn2 : ¬ (1 : Int) < (n : Int) := by omega
          have hn2d : decide ((1 : Int) < (n : Int)) = false := decide_eq_false hn2
          clear h0 h1 h2
          go_enter Tryz.func58, Tryz.ntmps58
          go_wp2_with (first
            | (go_at_call 84; refine HCK.out.mono ?_; rintro e w1 ⟨rfl, rfl⟩)
            | (go_at_call 85; refine HOR.out.mono ?_; rintro e w2 ⟨A1, c1, rfl, hb1, hr1⟩; have HB1 := Lib.hid hb1; have hsz1 := hb1.size; clear hb1 hr1))
          go_ret2
          have hr := (rowW_made w2 lo).ext (f' := ol) (fun j hj => by rw [HOE.out j]; exact (len_none (HNL.out.symm.trans H0.out) hj).symm)
          exact ⟨_, _, rfl, HB1.out.alloc hsz1 _, hr.rd (fun j => by rw [HOL.out]; exact outL_lt l _ j), Nat.le_refl _, by omega, (fun h => by cases h), (fun _ _ e => by injection e with e; injection e with e1; omega)⟩
  · have hck := HCK.out
    have hae := ask_of_chk hz
    have hE0 : askE l most ≠ 0 := by rw [hae]; exact hz
    obtain ⟨N, hN⟩ : ∃ N, N = l.length := ⟨_, rfl⟩
    obtain ⟨E, hE⟩ : ∃ E, E = askE l most := ⟨_, rfl⟩
    rw [← hae, ← hE, ← hN] at hck
    have hl0 : lenO l most = 0 := by unfold lenO; rw [if_neg hE0]
    rw [hl0, ← hE, ← hN]
    have HOL := Lib.hid (outL_lt l most)
    obtain ⟨ol, hol⟩ : ∃ ol, ol = outL l most := ⟨_, rfl⟩
    rw [← hol] at HOL ⊢
    have hEb : E ≠ 0 := by rw [hE]; exact hE0
    have hEd : (E == 0) = false := by simpa using hEb
    have HC := Lib.hid hck
    clear hck hr hb hz hE hN hol hae hE0 hl0 HCK HR HBD _hc hn hEb
    go_enter Tryz.func58, Tryz.ntmps58
    go_wp2_with (go_at_call 84; refine HC.out.mono ?_; rintro e w1 ⟨rfl, rfl⟩)
    go_ret2
    exact ⟨none, 0, rfl, Below.refl _ _, ⟨HOL.out, fun h => absurd h (by omega)⟩, by omega, by omega, fun _ => rfl, fun _ _ e => by cases e⟩
end Go.Proofs.YtjhljkhgjcckhaaGreat

namespace Go.Proofs.YtjhljkhgjcckhaaGreat
open Go.RowKit Go.ChangeShapes Go.WideShapes Go.ChangeAt Go.Joins
theorem cutN_least (f : Nat → Nat) (least : Nat) : ∀ n, n ≤ least → cutN f least n = least
  | 0, _ => rfl
  | k + 1, h => by simp only [cutN]; rw [if_neg (by omega)]; exact cutN_least f least k (by omega)
set_option maxRecDepth 100000 in
set_option maxHeartbeats 1000000 in
theorem cut11_any (w : World) (A : Option Addr) (n c : Nat) (f : Nat → Nat) (least : Nat) (hr : RdB w w.heap.size A n f) (hnc : n ≤ c) (hn : n ≤ 1000) (hl : least ≤ n) :
    Calls Tryz.prog 59 #[.slice A n c, .int .i64 (least : Int)] w fun e w' => e = .returned (.slice A (cutN f least n) c) ∧ w = w' := by
  have HR := Lib.hid hr
  obtain ⟨C, hC⟩ : ∃ C, C = cutN f least n := ⟨_, rfl⟩
  rw [← hC]
  have HC := Lib.hid hC
  clear hr hC
  go_enter Tryz.func59, Tryz.ntmps59
  go_wp2_with fail
  go_loopw [5] (fun nv wr => ∃ k : Nat, least ≤ k ∧ k ≤ n ∧ nv = .int .i64 (k : Int) ∧ Hid (C = cutN f least k) ∧ w = wr) (fun nv _ => (intOf nv).toNat)
  case atStart => exact ⟨n, hl, Nat.le_refl _, rfl, HC, rfl⟩
  case round =>
    obtain ⟨k, hk1, hk2, rfl, HK, rfl⟩ := hrel
    by_cases h1 : least < k
    · have hi1 : (least : Int) < (k : Int) := by omega
      obtain ⟨b, o, rfl, hb, hc⟩ := HR.out.2 (by omega)
      obtain ⟨j, rfl⟩ : ∃ j, k = j + 1 := ⟨k - 1, by omega⟩
      have c1 := hc j (by omega)
      have hj : ((j + 1 : Nat) : Int) - 1 = (j : Int) := by omega
      have hjn : (j : Int) < (n : Int) := by omega
      obtain ⟨x, hx⟩ : ∃ x, x = f j := ⟨_, rfl⟩
      have hxl : x < 256 := by rw [hx]; exact HR.out.1 j
      rw [← hx] at c1
      have HX := Lib.hid hx
      clear hc hx
      by_cases h2 : x = 0
      · subst h2
        have hcn : C = cutN f least j := by
          rw [HK.out]; simp only [cutN]; rw [if_neg (by rw [← HX.out]; omega)]
        have HCN := Lib.hid hcn
        clear hcn
        go_wp2
        go_roundw
        case rel => exact ⟨j, by omega, by omega, by go_num, HCN, trivial⟩
        case measure => simp [intOf]
      · have hxi : ((x : Int) == 0) = false := by rw [beq_eq_false_iff_ne]; omega
        have hcn : C = j + 1 := by
          rw [HK.out]; simp only [cutN]; rw [if_pos ⟨by omega, by rw [← HX.out]; exact h2⟩]
        subst hcn
        have hjc : ((j + 1 : Nat) : Int) ≤ (c : Int) := by omega
        have hjc2 : j + 1 ≤ c := by omega
        go_wp2
        go_ret
        exact ⟨rfl, rfl⟩
    · obtain rfl : k = least := by omega
      have hi1 : ¬ (k : Int) < (k : Int) := by omega
      have hcn : C = k := by rw [HK.out]; exact cutN_least f k k (Nat.le_refl _)
      subst hcn
      have hjc : (C : Int) ≤ (c : Int) := by omega
      have hjc2 : C ≤ c := by omega
      go_wp2
      go_ret
      exact ⟨rfl, rfl⟩
/-- What symbols cost. -/
def cstN (T f : Nat → Nat) : Nat → Nat
  | 0 => 0
  | i + 1 => cstN T f i + T i * f i
theorem cstN_le {T f : Nat → Nat} {M : Nat} (hT : ∀ i, T i ≤ M) (hf : ∀ i, f i ≤ 256) : ∀ n, cstN T f n ≤ n * (M * 256)
  | 0 => Nat.zero_le _
  | n + 1 => by
    have h1 := cstN_le hT hf n
    have h2 := Nat.mul_le_mul (hT n) (hf n)
    show cstN T f n + T n * f n ≤ _
    rw [Nat.add_mul, Nat.one_mul]; omega
/-- A row of numbers, somewhere. -/
def RdJ (w : World) (b o n : Nat) (T : Nat → Nat) : Prop := ∀ i, i < n → w.cell? ⟨b, o + i, none⟩ = some (.int .i64 ((T i : Nat) : Int))
set_option maxRecDepth 100000 in
set_option maxHeartbeats 1000000 in
theorem cost11_any (w : World) (b o n c : Nat) (T : Nat → Nat) (A2 : Option Addr) (m c2 : Nat) (f : Nat → Nat) (hT : RdJ w b o n T) (hb : b < w.heap.size) (hTb : ∀ i, T i ≤ 1000001) (hn : n ≤ 1000) (hr : RdB w w.heap.size A2 m f) (k : Nat) (hk : k = min m n) :
    Calls Tryz.prog 83 #[.slice (some ⟨b, o, none⟩) n c, .slice A2 m c2] w fun e w' => e = .returned (.int .i64 ((cstN T f k : Nat) : Int)) ∧ Below w.heap.size w w' := by
  have HT := Lib.hid hT; have HR := Lib.hid hr; have HTB := Lib.hid hTb
  clear hT hr hTb
  rcases Nat.lt_or_ge m n with hmn | hmn
  case' inl => (have hkm : k = m := by omega); clear hk; obtain rfl := hkm
  case' inr => (have hkm : k = n := by omega); clear hk; obtain rfl := hkm
  all_goals (
    go_enter Tryz.func83, Tryz.ntmps83
    go_wp2_with fail
    go_loopw [5, 12] (fun sv iv wr => ∃ i : Nat, i ≤ k ∧ iv = .int .i64 (i : Int) ∧ sv = .int .i64 ((cstN T f i : Nat) : Int) ∧ Hid (Below w.heap.size w wr)) (fun _ iv _ => k - (intOf iv).toNat)
    case atStart => exact ⟨0, Nat.zero_le _, rfl, rfl, Lib.hid (Below.refl _ _)⟩
    case round =>
      obtain ⟨i, hi, rfl, rfl, HB⟩ := hrel
      by_cases hlt : i < k
      · have hlti : (i : Int) < (k : Int) := by omega
        first | (have hltn : (i : Int) < (n : Int) := by omega) | skip
        first | (have hltm : (i : Int) < (m : Int) := by omega) | skip
        obtain ⟨b2, o2, rfl, hb2, hc2⟩ := HR.out.2 (by omega)
        have k1 : wr.cell? ⟨b, o + i, none⟩ = some (.int .i64 ((T i : Nat) : Int)) := (HB.out.cell (p := ⟨b, o + i, none⟩) hb).trans (HT.out i (by omega))
        have k2 : wr.cell? ⟨b2, o2 + i, none⟩ = some (.int .u8 ((f i : Nat) : Int)) := (HB.out.cell (p := ⟨b2, o2 + i, none⟩) hb2).trans (hc2 i (by omega))
        have hcl := cstN_le HTB.out (fun j => Nat.le_of_lt (HR.out.1 j)) i
        have hTi := HTB.out i
        have hfi := HR.out.1 i
        have hp := Nat.mul_le_mul hTi (Nat.le_of_lt hfi)
        have hS : cstN T f (i + 1) = cstN T f i + T i * f i := rfl
        obtain ⟨S, hSe⟩ : ∃ S, S = cstN T f i := ⟨_, rfl⟩
        obtain ⟨x, hx⟩ : ∃ x, x = T i := ⟨_, rfl⟩
        obtain ⟨y, hy⟩ : ∃ y, y = f i := ⟨_, rfl⟩
        rw [← hSe, ← hx, ← hy] at hS
        rw [← hSe] at hcl ⊢
        rw [← hx] at k1 hTi hp
        rw [← hy] at k2 hfi hp
        obtain ⟨z, hz⟩ : ∃ z, z = x * y := ⟨_, rfl⟩
        have hzi : (x : Int) * (y : Int) = (z : Int) := by rw [hz, Int.natCast_mul]
        rw [← hz] at hS hp
        have hSb : S ≤ 256001000000 := by
          have := Nat.mul_le_mul (show i ≤ 1000 by omega) (Nat.le_refl (1000001 * 256))
          omega
        have HS := Lib.hid hS
        have hw1 : IntKind.i64.wrap ((x : Int) * (y : Int)) = (z : Int) := by rw [hzi, IntWalk.i64_in _ ⟨by omega, by omega⟩]
        clear hS hcl hSe hx hy hz hc2
        go_wp2
        go_region
        go_wp2
        go_roundw
        case rel => exact ⟨i + 1, by omega, by go_num, by rw [HS.out]; go_num, Lib.hid HB.out.drew⟩
        case measure => simp [intOf]; omega
      · obtain rfl : i = k := by omega
        have hlti : ¬ (i : Int) < (i : Int) := by omega
        go_wp2
        go_ret
        exact ⟨rfl, HB.out⟩)
end Go.Proofs.YtjhljkhgjcckhaaGreat

namespace Go.Proofs.YtjhljkhgjcckhaaGreat
open Go.RowKit
/-- An array of bytes of the call's own. -/
def RowA (w : World) (g n : Nat) (f : Nat → Nat) : Prop := ∃ (cur : Array Value) (t : TypeId), w.heap[g]? = some (.cells cur t (0, 0)) ∧ ∀ j, j < n → cur[j]? = some (.int .u8 (f j : Int))
theorem RowA.lt {w : World} {g n : Nat} {f : Nat → Nat} (h : RowA w g n f) : g < w.heap.size := by
  obtain ⟨cur, t, h, _⟩ := h; exact (Array.getElem?_eq_some_iff.1 h).1
theorem RowA.cell {w : World} {g n : Nat} {f : Nat → Nat} (h : RowA w g n f) {j : Nat} (hj : j < n) : w.cell? ⟨g, j, none⟩ = some (.int .u8 (f j : Int)) := by
  obtain ⟨cur, t, h, hc⟩ := h
  rw [cell_of_row w g j _ _ (0, 0) h]; exact hc j hj
theorem RowA.frozen {w : World} {g n : Nat} {f : Nat → Nat} (h : RowA w g n f) (j : Nat) : w.frozen? ⟨g, j, none⟩ = false := by
  obtain ⟨cur, t, h, _⟩ := h; exact frozen_of_row w g j _ _ h
theorem RowA.set {w : World} {g n : Nat} {f : Nat → Nat} (h : RowA w g n f) (i x : Nat) : RowA (w.setCell ⟨g, i, none⟩ (.int .u8 (x : Int))) g n (upd f i x) := by
  obtain ⟨cur, t, h, hc⟩ := h
  refine ⟨cur.setIfInBounds i (.int .u8 (x : Int)), t, heap_setCell_same w g i _ _ _ h, fun j hj => ?_⟩
  have h1 := hc j hj
  have hs : j < cur.size := (Array.getElem?_eq_some_iff.1 h1).1
  rw [Array.getElem?_setIfInBounds]
  unfold upd
  by_cases e : j = i
  · subst e; rw [if_pos rfl, if_pos hs, if_pos rfl]
  · rw [if_neg (fun g => e g.symm), if_neg e]; exact h1
theorem RowA.below {w w' : World} {g n B : Nat} {f : Nat → Nat} (h : RowA w g n f) (hb : Below B w w') (hg : g < B) : RowA w' g n f := by
  obtain ⟨cur, t, h, hc⟩ := h; exact ⟨cur, t, (hb.block g hg).trans h, hc⟩
theorem RowA.rd {w : World} {g n : Nat} {f : Nat → Nat} (h : RowA w g n f) (hf : ∀ j, f j < 256) : RdB w w.heap.size (some ⟨g, 0, none⟩) n f :=
  ⟨hf, fun _ => ⟨g, 0, rfl, h.lt, fun j hj => by rw [Nat.zero_add]; exact h.cell hj⟩⟩
end Go.Proofs.YtjhljkhgjcckhaaGreat

namespace Go.Proofs.YtjhljkhgjcckhaaGreat
open Go.RowKit Go.ChangeShapes Go.WideShapes Go.ChangeAt Go.Joins
theorem index_ord (T : Nat → Int) {k : Nat} (hk : k < 19) (w : World) : (Instr.index 46 (.agg (tblA T 19)) (.int .i64 (k : Int))).run Tryz.prog w = .ok (.int .i64 (T k)) w := by
  have hce : Tryz.prog.cellsOf 3 = 1 := by kernel_rfl
  have hg := tblA_get T 19 k hk
  simp [Instr.index, run_underlying Tryz.underlying46, asIntOf, go_sem]
  rw [if_pos hk, hg]; rfl
theorem infoShort : (Tryz.prog.info? 156).map (fun i => (i.zero, i.size)) = some (some (.agg (bytesL 19 (fun _ => 0)).toArray), 19) := by kernel_rfl
set_option maxRecDepth 100000 in
set_option maxHeartbeats 2000000 in
theorem ordered_any (w : World) (A : Option Addr) (c : Nat) (f : Nat → Nat) (hr : RdB w w.heap.size A 19 f) :
    Calls Tryz.prog 62 #[.slice A 19 c] w fun e w' => e = .returned (.slice (some ⟨w.heap.size, 0, none⟩) (cutN (fun i => f (ordN i)) 4 19) 19) ∧ RowA w' w.heap.size 19 (fun i => f (ordN i)) ∧ Below w.heap.size w w' := by
  obtain ⟨C, hC⟩ : ∃ C, C = cutN (fun i => f (ordN i)) 4 19 := ⟨_, rfl⟩
  rw [← hC]
  have HC := Lib.hid hC
  clear hC
  have hz := (zero_of_info infoShort).1
  obtain ⟨Z, hZ⟩ : ∃ Z, Z = (bytesL 19 (fun _ => 0)).toArray := ⟨_, rfl⟩
  rw [← hZ] at hz
  obtain ⟨h, hh⟩ : ∃ h, h = w.heap.size := ⟨_, rfl⟩
  obtain ⟨W1, hW1⟩ : ∃ W, W = w.alloc (.cells Z 156) := ⟨_, rfl⟩
  have hb1 : Below h w W1 := by rw [hW1, hh]; exact (Below.refl _ _).alloc (Nat.le_refl _) _
  have hr1 : RowA W1 h 19 (fun _ => 0) := ⟨Z, 156, by rw [hW1, hh]; exact heap_alloc_new w _, fun j hj => by rw [hZ, List.getElem?_toArray, bytesL_get, if_pos hj]⟩
  rw [← hh] at hr ⊢
  obtain ⟨T, hT⟩ : ∃ T : Nat → Int, T = fun i => (ordN i : Int) := ⟨_, rfl⟩
  have hord := order_con W1
  rw [← hT] at hord
  have HORD := Lib.hid hord; have HR := Lib.hid hr; have HB1 := Lib.hid hb1; have HR1 := Lib.hid hr1; have HW1 := Lib.hid hW1; have HH := Lib.hid hh; have HT := Lib.hid hT
  clear hord hr hb1 hr1 hW1 hh hT hZ
  go_enter Tryz.func62, Tryz.ntmps62
  go_wp2_with (first | rw [← HW1.out, ← HH.out] | fail)
  refine HORD.out.mono ?_
  rintro e w2 ⟨rfl, hb2⟩
  have hlt1 := HR1.out.lt
  have HB2 := Lib.hid (HB1.out.trans (hb2.mono (by omega))); have HR2 := Lib.hid (HR1.out.below hb2 hlt1)
  clear hb2 hlt1
  go_wp2_with fail
  go_loopw [7] (fun iv wr => ∃ i : Nat, i ≤ 19 ∧ iv = .int .i64 (i : Int) ∧ Hid (RowA wr h 19 (fun j => if j < i then f (ordN j) else 0)) ∧ Hid (Below h w wr)) (fun iv _ => 19 - (intOf iv).toNat)
  case atStart => exact ⟨0, by omega, rfl, Lib.hid (by simpa using HR2.out), HB2⟩
  case round =>
    obtain ⟨i, hi, rfl, HRW, HB⟩ := hrel
    by_cases hlt : i < 19
    · have hlti : (i : Int) < 19 := by omega
      have hix := fun u => index_ord T hlt u
      have hTi : T i = ((ordN i : Nat) : Int) := by rw [HT.out]
      rw [hTi] at hix
      have hol := ord_lt i
      obtain ⟨q, hq⟩ : ∃ q, q = ordN i := ⟨_, rfl⟩
      rw [← hq] at hix hol
      obtain ⟨b, o, rfl, hb, hc⟩ := HR.out.2 (by omega)
      have k1 := (HB.out.cell (p := ⟨b, o + q, none⟩) hb).trans (hc q hol)
      have hfl := HR.out.1 q
      obtain ⟨x, hx⟩ : ∃ x, x = f q := ⟨_, rfl⟩
      rw [← hx] at k1 hfl
      have z1 := HRW.out.frozen i
      have c1 := HRW.out.cell hlt
      have hql : (q : Int) < 19 := by omega
      have hs := HRW.out.set i x
      have e : upd (fun j => if j < i then f (ordN j) else 0) i x = fun j => if j < i + 1 then f (ordN j) else 0 := by
        funext j; unfold upd
        by_cases h1 : j = i
        · rw [if_pos h1, if_pos (by omega), h1, hx, hq]
        · rw [if_neg h1]
          show (if j < i then f (ordN j) else 0) = _
          by_cases h2 : j < i
          · rw [if_pos h2, if_pos (by omega)]
          · rw [if_neg h2, if_neg (by omega)]
      rw [e] at hs
      have HS := Lib.hid hs
      have hhl : h < wr.heap.size := HRW.out.lt
      have hle : w.heap.size ≤ h := by rw [HH.out]; exact Nat.le_refl _
      clear hs e hx hq hTi hc
      go_wp2
      go_roundw
      case rel => exact ⟨i + 1, by omega, by go_num, HS, Lib.hid (HB.out.setCell (Nat.le_refl _) _)⟩
      case measure => simp [intOf]; omega
    · obtain rfl : i = 19 := by omega
      have hlti : ¬ ((19 : Nat) : Int) < 19 := by omega
      have hrd : RdB wr wr.heap.size (some ⟨h, 0, none⟩) 19 (fun i => f (ordN i)) := ⟨fun j => HR.out.1 _, fun _ => ⟨h, 0, rfl, HRW.out.lt, fun j hj => by rw [Nat.zero_add, HRW.out.cell hj, if_pos hj]⟩⟩
      have hct := cut11_any wr (some ⟨h, 0, none⟩) 19 19 (fun i => f (ordN i)) 4 hrd (Nat.le_refl _) (by omega) (by omega)
      rw [← HC.out] at hct
      have HCT := Lib.hid hct
      have HRF : Hid (RowA wr h 19 (fun i => f (ordN i))) := by
        obtain ⟨cur, t, h1, h2⟩ := HRW.out
        exact Lib.hid ⟨cur, t, h1, fun j hj => by rw [h2 j hj]; show some (Value.int .u8 (((if j < 19 then f (ordN j) else 0 : Nat)) : Int)) = _; rw [if_pos hj]⟩
      clear hct hrd
      go_wp2_with fail
      refine HCT.out.mono ?_
      rintro e w3 ⟨rfl, rfl⟩
      go_wp2
      go_ret
      exact ⟨rfl, HRF.out, HB.out⟩
end Go.Proofs.YtjhljkhgjcckhaaGreat

namespace Go.Proofs.YtjhljkhgjcckhaaGreat
open Go.RowKit
def RowT (w : World) (g n : Nat) (T : Nat → Nat) (t : TypeId) : Prop := w.heap[g]? = some (.cells (tblA (fun i => ((T i : Nat) : Int)) n) t (0, 0))
theorem RowT.lt {w : World} {g n : Nat} {T : Nat → Nat} {t : TypeId} (h : RowT w g n T t) : g < w.heap.size := (Array.getElem?_eq_some_iff.1 h).1
theorem RowT.cell {w : World} {g n : Nat} {T : Nat → Nat} {t : TypeId} (h : RowT w g n T t) {i : Nat} (hi : i < n) : w.cell? ⟨g, i, none⟩ = some (.int .i64 ((T i : Nat) : Int)) := by
  rw [cell_of_row w g i _ _ (0, 0) h]; exact tblA_get _ n i hi
theorem RowT.frozen {w : World} {g n : Nat} {T : Nat → Nat} {t : TypeId} (h : RowT w g n T t) (i : Nat) : w.frozen? ⟨g, i, none⟩ = false := frozen_of_row w g i _ _ h
theorem RowT.below {w w' : World} {g n B : Nat} {T : Nat → Nat} {t : TypeId} (h : RowT w g n T t) (hb : Below B w w') (hg : g < B) : RowT w' g n T t := (hb.block g hg).trans h
theorem RowT.drew {w : World} {g n : Nat} {T : Nat → Nat} {t : TypeId} (h : RowT w g n T t) : RowT w.drew g n T t := h
theorem RowT.other {w : World} {g n : Nat} {T : Nat → Nat} {t : TypeId} (h : RowT w g n T t) {p : Addr} (hp : g ≠ p.block) (u : Value) : RowT (w.setCell p u) g n T t := (Below.heap_setCell w p u g hp).trans h
theorem RowT.set {w : World} {g n : Nat} {T T' : Nat → Nat} {t : TypeId} (h : RowT w g n T t) (i x : Nat) (he : ∀ k, k < n → (if k = i then x else T k) = T' k) : RowT (w.setCell ⟨g, i, none⟩ (.int .i64 (x : Int))) g n T' t := by
  unfold RowT
  rw [heap_setCell_same w g i _ _ _ h, tbl_set]
  refine congrArg (fun a => some (Obj.cells a t (0, 0))) (tbl_ext fun k hk => ?_)
  rw [← he k hk]
  split <;> rfl
theorem RowT.ext {w : World} {g n : Nat} {T T' : Nat → Nat} {t : TypeId} (h : RowT w g n T t) (he : ∀ k, k < n → T k = T' k) : RowT w g n T' t := by
  unfold RowT at h ⊢
  rw [h]
  exact congrArg (fun a => some (Obj.cells a t (0, 0))) (tbl_ext fun k hk => by rw [he k hk])
theorem RowT.rd {w : World} {g n : Nat} {T : Nat → Nat} {t : TypeId} (h : RowT w g n T t) (o m : Nat) (hm : o + m ≤ n) : RdI w w.heap.size (some ⟨g, o, none⟩) (frqL (fun i => T (o + i)) m) := by
  refine ⟨by simp [intsL, frqL], fun _ => ⟨g, o, rfl, h.lt, fun j u hu => ?_⟩⟩
  have hj : j < m := by
    rcases Nat.lt_or_ge j m with k | k
    · exact k
    · rw [List.getElem?_eq_none (by simpa [intsL, frqL] using k)] at hu; cases hu
  rw [h.cell (show o + j < n by omega), ← hu]
  simp [intsL, frqL, hj]
end Go.Proofs.YtjhljkhgjcckhaaGreat

namespace Go.Proofs.YtjhljkhgjcckhaaGreat
open Go.RowKit Go.ChangeShapes Go.WideShapes Go.ChangeAt Go.Joins
theorem len_ask {c : Nat → Nat} {n most : Nat} (h1 : 1 ≤ most) (h2 : most ≤ 15) (hn : n ≤ 320) (hn2 : n ≤ 2 ^ most) (hc : ∀ i, c i ≤ 1073741824) : lenO (frqL c n) (most : Int) = n ∧ outL (frqL c n) (most : Int) = lenM c n most := by
  refine ⟨?_, rfl⟩
  unfold lenO
  rw [if_pos (ask_frq h1 h2 hn hn2 hc), frqL_length]
set_option maxRecDepth 100000 in
set_option maxHeartbeats 2000000 in
theorem shortest_any (w : World) (A : Option Addr) (m c : Nat) (l : List (Int × Int)) (hm : m = l.length) (hr : RdU w w.heap.size A l) (hm2 : m ≤ 1000000) (hs : ∀ r ∈ l, 0 ≤ r.1 ∧ r.1 ≤ 18) :
    Calls Tryz.prog 61 #[.slice A m c] w fun e w' => ∃ A' c', e = .returned (.slice A' 19 c') ∧ RdB w' w'.heap.size A' 19 (lenM (cntR l) 19 7) ∧ 19 ≤ c' ∧ c' ≤ 1000 ∧ (A' = none → c' = 0) ∧ (∀ b o, A' = some ⟨b, o, none⟩ → w.heap.size ≤ b) ∧ Below w.heap.size w w' := by
  have hz := (zero_of_info infoOrd).1
  obtain ⟨Z, hZ⟩ : ∃ Z : Nat → Int, Z = fun _ => 0 := ⟨_, rfl⟩
  rw [← hZ] at hz
  obtain ⟨h, hh⟩ : ∃ h, h = w.heap.size := ⟨_, rfl⟩
  obtain ⟨W1, hW1⟩ : ∃ W, W = w.alloc (.cells (tblA Z 19) 46) := ⟨_, rfl⟩
  have hb1 : Below h w W1 := by rw [hW1, hh]; exact (Below.refl _ _).alloc (Nat.le_refl _) _
  have hr1 : RowT W1 h 19 (cntR (l.take 0)) 46 := by
    unfold RowT
    rw [hW1, hh, heap_alloc_new, hZ]
    refine congrArg (fun a => some (Obj.cells a 46 (0, 0))) (tbl_ext fun k hk => ?_)
    simp [cntR]
  have HM := Lib.hid hm; have HR := Lib.hid hr; have HS := Lib.hid hs; have HB1 := Lib.hid hb1; have HR1 := Lib.hid hr1; have HW1 := Lib.hid hW1; have HH := Lib.hid hh
  clear hm hr hs hb1 hr1 hW1 hh hZ
  go_enter Tryz.func61, Tryz.ntmps61
  go_wp2_with (first | rw [← HW1.out, ← HH.out] | fail)
  go_loopw [10] (fun iv wr => ∃ i : Nat, i ≤ m ∧ iv = .int .i64 (i : Int) ∧ Hid (RowT wr h 19 (cntR (l.take i)) 46) ∧ Hid (Below h w wr)) (fun iv _ => m - (intOf iv).toNat)
  case atStart => exact ⟨0, Nat.zero_le _, rfl, HR1, HB1⟩
  case round =>
    obtain ⟨i, hi, rfl, HRW, HB⟩ := hrel
    have hle : w.heap.size = h := HH.out.symm
    by_cases hlt : i < m
    · have hlti : (i : Int) < (m : Int) := by omega
      have hil : i < l.length := by rw [← HM.out]; exact hlt
      have htw : RdU wr h A l := by have := HR.out; rw [hle] at this; exact this.below HB.out (Nat.le_refl _)
      obtain ⟨b, o, rfl, hbl, hc⟩ := htw.at hil
      have hrg := htw.range rfl hil
      obtain ⟨s0, s18⟩ := HS.out _ (run_mem hil)
      have htk := runs_take hil
      obtain ⟨⟨s, x⟩, ht⟩ : ∃ t, t = l.getD i run0 := ⟨_, rfl⟩
      rw [← ht] at hrg s0 s18 htk
      dsimp only at s0 s18
      obtain ⟨q, rfl⟩ := Int.eq_ofNat_of_zero_le s0
      obtain ⟨W3, hW3⟩ : ∃ W3, W3 = mkV wr #[.int .i64 0, .int .i64 0] #[.int .i64 (q : Int), .int .i64 x] 141 := ⟨_, rfl⟩
      have hb3 : Below wr.heap.size wr W3 := by rw [hW3]; exact mkV_below _ _ _ _
      have hrow : W3.heap[wr.heap.size]? = some (.cells #[.int .i64 (q : Int), .int .i64 x] 141 (0, 0)) := by rw [hW3]; exact mkV_row wr _ _ _
      have y0 : W3.cell? ⟨wr.heap.size, 0, none⟩ = some (.int .i64 (q : Int)) := (cell_of_row W3 _ 0 _ _ (0, 0) hrow).trans rfl
      have hr3 := HRW.out.below hb3 HRW.out.lt
      have hq19 : q < 19 := by omega
      have hql : (q : Int) < 19 := by omega
      have k1 := hr3.cell hq19
      have z1 := hr3.frozen q
      have hcl := cntR_le (l.take i) q
      have htl : (l.take i).length ≤ 1000000 := by rw [List.length_take]; have := HM.out; omega
      obtain ⟨C, hC⟩ : ∃ C, C = cntR (l.take i) q := ⟨_, rfl⟩
      have hset := hr3.set (T' := cntR (l.take (i + 1))) q (C + 1) (fun k _ => by
        rw [htk, cntR_one, hC]
        by_cases hk : k = q
        · subst hk; rw [if_pos rfl, if_pos rfl]
        · rw [if_neg hk, if_neg (by dsimp only; omega)]; omega)
      rw [← hC] at k1 hcl
      have HRG := Lib.hid (show wr.rangeAt b (o + i * 2) [.int .i64 (q : Int), .int .i64 x] from hrg)
      have HSET := Lib.hid hset; have HB3 := Lib.hid (HB.out.trans (hb3.mono (by have := HRW.out.lt; omega))); have HW3 := Lib.hid hW3
      have hC1 : C ≤ 1000000 := by omega
      have eC : ((C + 1 : Nat) : Int) = (C : Int) + 1 := by omega
      rw [eC] at hset
      have HSET2 := Lib.hid hset
      have hgl : h < wr.heap.size := HRW.out.lt
      clear hrg hset hb3 hrow hW3 htk ht hC hcl htl hr3 hc htw HSET
      go_wp2_with (first | refine wpList_load_mid rfl _ _ rfl b (o + i * 2) rfl [.int .i64 (q : Int), .int .i64 x] _ HRG.out Tryz.underlying141 rfl szRun ?_ | refine wpList_store_rowTo rfl _ _ _ rfl rfl wr.heap.size #[.int .i64 (q : Int), .int .i64 x] rfl rfl 141 #[.int .i64 0, .int .i64 0] (heap_alloc_new wr _) szRun rfl (by simp [Value.oneCell']) ?_; change wpList _ _ _ _ _ (mkV wr #[.int .i64 0, .int .i64 0] #[.int .i64 (q : Int), .int .i64 x] 141); rw [← HW3.out])
      go_roundw
      case rel => exact ⟨i + 1, by omega, by go_num, HSET2, Lib.hid (HB3.out.setCell (Nat.le_refl _) _)⟩
      case measure => simp [intOf]; omega
    · obtain rfl : i = m := by omega
      have hlti : ¬ (i : Int) < (i : Int) := by omega
      have hrw := HRW.out
      rw [HM.out, List.take_length] at hrw
      have hrd := hrw.rd 0 19 (by omega)
      rw [show (fun i => cntR l (0 + i)) = cntR l from funext fun i => by rw [Nat.zero_add]] at hrd
      have hcb : ∀ j, cntR l j ≤ 1000000 := fun j => by have := cntR_le l j; have := HM.out; omega
      have hlr := lengths_room wr (some ⟨h, 0, none⟩) 19 (frqL (cntR l) 19) 7 hrd (fun h => by cases h) (by rw [frqL_length]; omega) (fun j hj => by rw [frqL_length] at hj; rw [frqL_get _ hj]; have := hcb j; omega) (by omega) (by omega)
      obtain ⟨e1, e2⟩ := len_ask (c := cntR l) (n := 19) (most := 7) (by omega) (by omega) (by omega) (by decide) (fun j => by have := hcb j; omega)
      rw [show ((7 : Nat) : Int) = 7 from rfl] at e1 e2
      rw [frqL_length, e1, e2] at hlr
      have HLR := Lib.hid hlr
      clear hlr e1 e2 hcb hrd hrw
      go_wp2_with fail
      refine HLR.out.mono ?_
      rintro e w3 ⟨A', c', rfl, hb3, hrd3, hc1, hc2, hc3, hc4⟩
      have HC4 := Lib.hid hc4
      have HRD3 := Lib.hid hrd3; have HC3 := Lib.hid hc3; have HB3 := Lib.hid (HB.out.trans (hb3.mono (by have := HRW.out.lt; omega)))
      clear hrd3 hc3 hb3 hc4
      go_wp2
      go_ret
      exact ⟨A', c', rfl, HRD3.out, hc1, hc2, HC3.out, fun b o e => by have := HC4.out b o e; have := HB.out.size; omega, by rw [hle]; exact HB3.out⟩
end Go.Proofs.YtjhljkhgjcckhaaGreat

namespace Go.Proofs.YtjhljkhgjcckhaaGreat
open Go.RowKit
/-- How many symbols have fewer than b extra bits, and how many numbers they tell. -/
def smC (M : Nat → Nat) : Nat → Nat
  | 0 => 0
  | b + 1 => smC M b + M b
def smS (M : Nat → Nat) : Nat → Nat
  | 0 => 0
  | b + 1 => smS M b + M b * p2N b
/-- The nineteen cells of a kind. -/
def kdC (l m f s o : Int) (M : Nat → Nat) : Nat → Int := fun i => if i = 0 then l else if i = 1 then m else if i = 2 then f else if i = 3 then s else if i < 18 then ((M (i - 4) : Nat) : Int) else o
def kdA (l m f s o : Int) (M : Nat → Nat) : Array Value := tblA (kdC l m f s o M) 19
theorem infoKd : (Tryz.prog.info? 124).map (fun i => (i.zero, i.size)) = some (some (.agg (kdA 0 0 0 0 0 (fun _ => 0))), 19) := by kernel_rfl
theorem szKd (T : Nat → Int) : (Tryz.prog.info? 124).map (·.size) = some (tblA T 19).size := by rw [tblA_size]; kernel_rfl
/-- A kind at a block. -/
def Knd (w : World) (g : Nat) (l m f s o : Int) (M : Nat → Nat) : Prop := w.heap[g]? = some (.cells (kdA l m f s o M) 124 (0, 0))
section
variable {w w' : World} {g : Nat} {l m f s o : Int} {M : Nat → Nat}
theorem Knd.lt (h : Knd w g l m f s o M) : g < w.heap.size := (Array.getElem?_eq_some_iff.1 h).1
theorem Knd.at (h : Knd w g l m f s o M) {i : Nat} (hi : i < 19) : w.cell? ⟨g, i, none⟩ = some (.int .i64 (kdC l m f s o M i)) := tbl_cell h hi
theorem Knd.least (h : Knd w g l m f s o M) : w.cell? ⟨g, 0, none⟩ = some (.int .i64 l) := h.at (i := 0) (by omega)
theorem Knd.most (h : Knd w g l m f s o M) : w.cell? ⟨g, 1, none⟩ = some (.int .i64 m) := h.at (i := 1) (by omega)
theorem Knd.first (h : Knd w g l m f s o M) : w.cell? ⟨g, 2, none⟩ = some (.int .i64 f) := h.at (i := 2) (by omega)
theorem Knd.last (h : Knd w g l m f s o M) : w.cell? ⟨g, 3, none⟩ = some (.int .i64 s) := h.at (i := 3) (by omega)
theorem Knd.own (h : Knd w g l m f s o M) : w.cell? ⟨g, 18, none⟩ = some (.int .i64 o) := h.at (i := 18) (by omega)
theorem Knd.many (h : Knd w g l m f s o M) {b : Nat} (hb : b < 14) : w.cell? ⟨g, 4 + b, none⟩ = some (.int .i64 ((M b : Nat) : Int)) := by
  have := h.at (i := 4 + b) (by omega)
  have e : kdC l m f s o M (4 + b) = ((M b : Nat) : Int) := by
    unfold kdC
    rw [if_neg (by omega), if_neg (by omega), if_neg (by omega), if_neg (by omega), if_pos (by omega), show 4 + b - 4 = b by omega]
  rw [e] at this; exact this
theorem Knd.frozen (h : Knd w g l m f s o M) (j : Nat) : w.frozen? ⟨g, j, none⟩ = false := frozen_of_row w g j _ _ h
theorem Knd.below {B : Nat} (h : Knd w g l m f s o M) (hb : Below B w w') (hg : g < B) : Knd w' g l m f s o M := (hb.block g hg).trans h
theorem Knd.drew (h : Knd w g l m f s o M) : Knd w.drew g l m f s o M := h
theorem Knd.drewN (h : Knd w g l m f s o M) (k : Nat) : Knd (w.drewN k) g l m f s o M := h
end
theorem knd_new (w : World) (l m f s o : Int) (M : Nat → Nat) : Knd (w.alloc (.cells (kdA l m f s o M) 124)) w.heap.size l m f s o M := heap_alloc_new w _
theorem belowN9 {B : Nat} {a w : World} (h : Below B a w) (n : Nat) : Below B a (w.drewN n) := ⟨h.os, h.tape, h.output, h.size, h.block⟩
theorem sh9 (z b : Nat) (hz : z ≤ 40000) (hb : b < 14) : wrap64 ((z : Int) * 2 ^ b) = ((z * p2N b : Nat) : Int) ∧ z * p2N b ≤ 327680000 := by
  have e : (z : Int) * 2 ^ b = ((z * 2 ^ b : Nat) : Int) := by rw [Int.natCast_mul, Int.natCast_pow]; rfl
  have h1 : 2 ^ b ≤ 2 ^ 13 := Nat.pow_le_pow_right (by omega) (by omega)
  have h2 : z * 2 ^ b ≤ 40000 * 2 ^ 13 := Nat.mul_le_mul hz h1
  have h3 : 40000 * 2 ^ 13 = 327680000 := rfl
  rw [e]
  unfold p2N
  generalize z * 2 ^ b = x at h2
  unfold wrap64
  omega
theorem smC_mono (M : Nat → Nat) {i : Nat} : ∀ d, smC M i ≤ smC M (i + d)
  | 0 => Nat.le_refl _
  | d + 1 => Nat.le_trans (smC_mono M d) (Nat.le_add_right _ _)
theorem smS_mono (M : Nat → Nat) {i : Nat} : ∀ d, smS M i ≤ smS M (i + d)
  | 0 => Nat.le_refl _
  | d + 1 => Nat.le_trans (smS_mono M d) (Nat.le_add_right _ _)
theorem smC_le (M : Nat → Nat) {i j : Nat} (h : i ≤ j) : smC M i ≤ smC M j := by
  have := smC_mono M (i := i) (j - i); rwa [show i + (j - i) = j by omega] at this
theorem smS_le (M : Nat → Nat) {i j : Nat} (h : i ≤ j) : smS M i ≤ smS M j := by
  have := smS_mono M (i := i) (j - i); rwa [show i + (j - i) = j by omega] at this
/-- A kind that is as it should be. -/
structure KndOk (l m f s o : Int) (M : Nat → Nat) : Prop where
  l0 : 0 ≤ l ∧ l ≤ 1000
  f0 : 0 ≤ f ∧ f ≤ 1000
  o0 : 0 ≤ o ∧ o ≤ 1000
  s0 : s ≤ 1100
  m0 : m < l + ((smS M 14 : Nat) : Int)
  sC : (o = 0 ∧ s < f + ((smC M 14 : Nat) : Int)) ∨ (o ≠ 0 ∧ s ≤ f + ((smC M 14 : Nat) : Int))
  C14 : smC M 14 ≤ 40
  S14 : smS M 14 ≤ 40000
theorem many_le {M : Nat → Nat} {b : Nat} (hb : b < 14) : smC M b + M b ≤ smC M 14 ∧ smS M b + M b * p2N b ≤ smS M 14 :=
  ⟨smC_le M (i := b + 1) (by omega), smS_le M (i := b + 1) (by omega)⟩
end Go.Proofs.YtjhljkhgjcckhaaGreat

namespace Go.Proofs.YtjhljkhgjcckhaaGreat
open Go.RowKit
section
variable {w : World} {g : Nat} {l m f s o : Int} {M : Nat → Nat}
theorem Knd.setMany (h : Knd w g l m f s o M) {j : Nat} (hj : j < 14) (x : Nat) : Knd (w.setCell ⟨g, 4 + j, none⟩ (.int .i64 (x : Int))) g l m f s o (fun i => if i = j then x else M i) := by
  unfold Knd kdA
  rw [heap_setCell_same w g (4 + j) _ _ _ h]
  unfold kdA
  rw [tbl_set]
  refine congrArg (fun a => some (Obj.cells a 124 (0, 0))) (tbl_ext fun i hi => ?_)
  unfold kdC
  by_cases e : i = 4 + j
  · subst e
    rw [if_pos rfl, if_neg (by omega), if_neg (by omega), if_neg (by omega), if_neg (by omega), if_pos (by omega)]
    show (x : Int) = ((if 4 + j - 4 = j then x else M (4 + j - 4) : Nat) : Int)
    rw [if_pos (by omega)]
  · rw [if_neg e]
    by_cases h4 : i < 4
    · have : i = 0 ∨ i = 1 ∨ i = 2 ∨ i = 3 := by omega
      rcases this with rfl | rfl | rfl | rfl <;> rfl
    · rw [if_neg (show ¬ i = 0 by omega), if_neg (show ¬ i = 1 by omega), if_neg (show ¬ i = 2 by omega), if_neg (show ¬ i = 3 by omega), if_neg (show ¬ i = 0 by omega), if_neg (show ¬ i = 1 by omega), if_neg (show ¬ i = 2 by omega), if_neg (show ¬ i = 3 by omega)]
      show _ = (if i < 18 then ((if i - 4 = j then x else M (i - 4) : Nat) : Int) else o)
      rw [if_neg (show ¬ i - 4 = j by omega)]
theorem Knd.setAt (h : Knd w g l m f s o M) {l' m' f' s' o' : Int} (k : Nat) (x : Int) (he : ∀ i, i < 19 → (if i = k then x else kdC l m f s o M i) = kdC l' m' f' s' o' M i) : Knd (w.setCell ⟨g, k, none⟩ (.int .i64 x)) g l' m' f' s' o' M := by
  unfold Knd kdA
  rw [heap_setCell_same w g k _ _ _ h]
  unfold kdA
  rw [tbl_set]
  exact congrArg (fun a => some (Obj.cells a 124 (0, 0))) (tbl_ext he)
theorem Knd.setMost (h : Knd w g l m f s o M) (x : Int) : Knd (w.setCell ⟨g, 1, none⟩ (.int .i64 x)) g l x f s o M :=
  h.setAt 1 x fun i hi => by
    unfold kdC
    by_cases e : i = 1
    · subst e; rfl
    · rw [if_neg e]; by_cases e0 : i = 0
      · subst e0; rfl
      · rw [if_neg e0, if_neg e, if_neg e0, if_neg e]
theorem Knd.setLast (h : Knd w g l m f s o M) (x : Int) : Knd (w.setCell ⟨g, 3, none⟩ (.int .i64 x)) g l m f x o M :=
  h.setAt 3 x fun i hi => by
    unfold kdC
    by_cases e : i = 3
    · subst e; rfl
    · rw [if_neg e, if_neg e, if_neg e]
theorem Knd.setOwn (h : Knd w g l m f s o M) (x : Int) : Knd (w.setCell ⟨g, 18, none⟩ (.int .i64 x)) g l m f s x M :=
  h.setAt 18 x fun i hi => by
    unfold kdC
    by_cases e : i = 18
    · subst e; rfl
    · rw [if_neg e]
      by_cases e0 : i < 18
      · rw [if_pos e0, if_pos e0]
      · omega
theorem Knd.other (h : Knd w g l m f s o M) {p : Addr} (hp : g ≠ p.block) (u : Value) : Knd (w.setCell p u) g l m f s o M := (Below.heap_setCell w p u g hp).trans h
end
theorem built_kd (a b c d : Int) : Tryz.prog.built 124 [(0, .int .i64 a), (1, .int .i64 b), (2, .int .i64 c), (3, .int .i64 d)] = some (kdA a b c d 0 (fun _ => 0)) := by kernel_rfl
/-- The first j numbers of a list, then none. -/
def fstM (L : List Nat) (j : Nat) : Nat → Nat := fun i => if i < j then L.getD i 0 else 0
theorem fstM_next (L : List Nat) (j : Nat) : (fun i => if i = j then L.getD j 0 else fstM L j i) = fstM L (j + 1) := by
  funext i
  unfold fstM
  by_cases e : i = j
  · subst e; rw [if_pos rfl, if_pos (by omega)]
  · rw [if_neg e]
    by_cases h : i < j
    · rw [if_pos h, if_pos (by omega)]
    · rw [if_neg h, if_neg (by omega)]
theorem fstM_all (L : List Nat) : fstM L L.length = fun i => L.getD i 0 := by
  funext i
  unfold fstM
  by_cases h : i < L.length
  · rw [if_pos h]
  · rw [if_neg h, List.getD_eq_getElem?_getD, List.getElem?_eq_none (by omega)]; rfl
def lsM (L : List Nat) : Nat → Nat := fun i => L.getD i 0
set_option maxRecDepth 100000 in
set_option maxHeartbeats 4000000 in
theorem filled9_any (w : World) (l f : Int) (A : Option Addr) (cap N : Nat) (L : List Nat) (hN : N = L.length) (hN14 : N ≤ 14) (hr : RdI w w.heap.size A (natsI L)) (hl : 0 ≤ l ∧ l ≤ 1000) (hf : 0 ≤ f ∧ f ≤ 1000) (hS : smS (lsM L) N ≤ 40000) (hC : smC (lsM L) N ≤ 40) :
    Calls Tryz.prog 92 #[.int .i64 l, .int .i64 f, .slice A N cap] w fun e w' => e = .returned (.agg (kdA l (l - 1 + ((smS (lsM L) N : Nat) : Int)) f (f - 1 + ((smC (lsM L) N : Nat) : Int)) 0 (lsM L))) ∧ Below w.heap.size w w' := by
  have hz := (zero_of_info infoKd).1
  have HR := Lib.hid hr; have HS := Lib.hid hS; have HC := Lib.hid hC; have HN := Lib.hid hN
  obtain ⟨hl0, hl1⟩ := hl
  obtain ⟨hf0, hf1⟩ := hf
  clear hr hS hC hN
  obtain ⟨V, hV⟩ : ∃ V, V = mkV (w.alloc (.cells (kdA 0 0 0 0 0 (fun _ => 0)) 124)) (kdA 0 0 0 0 0 (fun _ => 0)) (kdA l (l - 1) f (f - 1) 0 (fun _ => 0)) 124 := ⟨_, rfl⟩
  have v1 : Knd V (w.heap.size + 1) l (l - 1) f (f - 1) 0 (fun _ => 0) := by
    have := mkV_row (w.alloc (.cells (kdA 0 0 0 0 0 (fun _ => 0)) 124)) (kdA 0 0 0 0 0 (fun _ => 0)) (kdA l (l - 1) f (f - 1) 0 (fun _ => 0)) 124
    rw [World.size_alloc, ← hV] at this; exact this
  have bV := mkV_below (w.alloc (.cells (kdA 0 0 0 0 0 (fun _ => 0)) 124)) (kdA 0 0 0 0 0 (fun _ => 0)) (kdA l (l - 1) f (f - 1) 0 (fun _ => 0)) 124
  rw [← hV] at bV
  have v0 : Knd V w.heap.size 0 0 0 0 0 (fun _ => 0) := (knd_new w 0 0 0 0 0 (fun _ => 0)).below bV (by simp)
  have b0 : Below w.heap.size w V := ((Below.refl _ _).alloc (Nat.le_refl _) _).trans (bV.mono (by simp))
  have hn := (heap_alloc_new (w.alloc (.cells (kdA 0 0 0 0 0 (fun _ => 0)) 124)) (.cells (kdA 0 0 0 0 0 (fun _ => 0)) 124))
  rw [World.size_alloc] at hn
  have hVe : ((w.alloc (.cells (kdA 0 0 0 0 0 (fun _ => 0)) 124)).alloc (.cells (kdA 0 0 0 0 0 (fun _ => 0)) 124)).setRow (w.heap.size + 1) (kdA l (l - 1) f (f - 1) 0 (fun _ => 0)) = V := by
    rw [hV]; unfold mkV; rw [World.size_alloc]
  have V0 := Lib.hid v0; have V1 := Lib.hid v1; have B0 := Lib.hid b0; have HVN := Lib.hid hn; have HVE := Lib.hid hVe
  clear v0 v1 b0 hn hVe bV hV
  go_enter Tryz.func92, Tryz.ntmps92
  go_wp2_with (first
    | (refine wpList_buildTo rfl 124 #[(0, .tmp 10), (1, .tmp 12), (2, .tmp 13), (3, .tmp 15)] rfl (some 16) rfl (kdA l (l - 1) f (f - 1) 0 (fun _ => 0)) ?_ ?_; focus (simpa [Act.eval] using built_kd l (l - 1) f (f - 1)))
    | (refine wpList_store_rowTo rfl _ _ _ rfl rfl (w.heap.size + 1) (kdA l (l - 1) f (f - 1) 0 (fun _ => 0)) rfl rfl 124 (kdA 0 0 0 0 0 (fun _ => 0)) HVN.out (szKd _) rfl (tblA_one _ _) ?_; rw [HVE.out])
    | fail)
  go_loopw [19] (fun iv wr => ∃ j S C : Nat, j ≤ N ∧ S ≤ 40000 ∧ C ≤ 40 ∧ iv = .int .i64 (j : Int) ∧ Hid (S = smS (lsM L) j) ∧ Hid (C = smC (lsM L) j) ∧ Hid (Knd wr w.heap.size 0 0 0 0 0 (fun _ => 0)) ∧ Hid (Knd wr (w.heap.size + 1) l (l - 1 + (S : Int)) f (f - 1 + (C : Int)) 0 (fstM L j)) ∧ Hid (Below w.heap.size w wr)) (fun iv _ => N - (intOf iv).toNat)
  case atStart =>
    refine ⟨0, 0, 0, Nat.zero_le _, by omega, by omega, rfl, Lib.hid rfl, Lib.hid rfl, V0, Lib.hid ?_, B0⟩
    have h0 : fstM L 0 = fun _ => 0 := funext fun i => if_neg (by omega)
    rw [h0]
    simpa using V1.out
  case round =>
    obtain ⟨j, S, C, hj, hS, hC, rfl, HSS, HCC, K0, K1, HBR⟩ := hrel
    by_cases hlt : j < N
    · have hj14 : j < 14 := by omega
      obtain ⟨b, o, rfl, _, hc⟩ := (HR.out.below HBR.out (Nat.le_refl _)).at (k := j) (by rw [natsI_length, ← HN.out]; exact hlt)
      have e1 := hc j (by rw [natsI_length, ← HN.out]; exact hlt)
      rw [natsI_get] at e1
      obtain ⟨q, hq⟩ : ∃ q, q = L.getD j 0 := ⟨_, rfl⟩
      rw [← hq] at e1
      have HQ := Lib.hid hq
      clear hq hc
      have r1 := K1.out.many hj14
      have r2 := K1.out.frozen (4 + j)
      have s1 := K1.out.setMany hj14 q
      have r3 := s1.most
      have r4 := s1.frozen 1
      have s2 := (s1.setMost (wrap64 (l - 1 + (S : Int) + wrap64 ((q : Int) * 2 ^ j)))).drew
      have r5 := s2.last
      have r6 := s2.frozen 3
      have s3 := s2.setLast (f - 1 + (C : Int) + (q : Int))
      have t3 := (((K0.out.other (p := ⟨w.heap.size + 1, 4 + j, none⟩) (by simp) (.int .i64 (q : Int))).other (p := ⟨w.heap.size + 1, 1, none⟩) (by simp) (.int .i64 (wrap64 (l - 1 + (S : Int) + wrap64 ((q : Int) * 2 ^ j))))).drew).other (p := ⟨w.heap.size + 1, 3, none⟩) (by simp) (.int .i64 (f - 1 + (C : Int) + (q : Int)))
      have b3 := ((((HBR.out.setCell (p := ⟨w.heap.size + 1, 4 + j, none⟩) (by simp) (.int .i64 (q : Int))).setCell (p := ⟨w.heap.size + 1, 1, none⟩) (by simp) (.int .i64 (wrap64 (l - 1 + (S : Int) + wrap64 ((q : Int) * 2 ^ j))))).drew)).setCell (p := ⟨w.heap.size + 1, 3, none⟩) (by simp) (.int .i64 (f - 1 + (C : Int) + (q : Int)))
      have S3 := Lib.hid s3; have T3 := Lib.hid t3; have B3 := Lib.hid b3
      clear s1 s2 s3 t3 b3
      have hq40 : q ≤ 40 := by
        have h1 : smC (lsM L) (j + 1) ≤ smC (lsM L) N := smC_le _ (by omega)
        have h2 : smC (lsM L) (j + 1) = smC (lsM L) j + q := by rw [HQ.out]; rfl
        have := HC.out; omega
      go_wp2
      go_region
      all_goals (
        go_wp2
        go_roundw
        case rel =>
          obtain ⟨g1, g2⟩ := sh9 q j (by omega) hj14
          have hS1 : smS (lsM L) (j + 1) = S + q * p2N j := by rw [HSS.out, HQ.out]; rfl
          have hS2 : smS (lsM L) (j + 1) ≤ 40000 := Nat.le_trans (smS_le _ (by omega)) HS.out
          have hC1 : smC (lsM L) (j + 1) = C + q := by rw [HCC.out, HQ.out]; rfl
          have hC2 : smC (lsM L) (j + 1) ≤ 40 := Nat.le_trans (smC_le _ (by omega)) HC.out
          have hv1 : wrap64 (l - 1 + (S : Int) + wrap64 ((q : Int) * 2 ^ j)) = l - 1 + ((S + q * p2N j : Nat) : Int) := by rw [g1]; unfold wrap64; omega
          have hv2 : f - 1 + (C : Int) + (q : Int) = f - 1 + ((C + q : Nat) : Int) := by omega
          have s3 := S3.out; have t3 := T3.out; have b3 := B3.out
          rw [hv1, hv2] at s3
          have hM : (fun i => if i = j then q else fstM L j i) = fstM L (j + 1) := by rw [HQ.out]; exact fstM_next L j
          rw [hM] at s3
          rw [hv1, hv2] at t3 b3
          rw [hv1, hv2]
          exact ⟨j + 1, S + q * p2N j, C + q, by omega, by omega, by omega, by go_num, Lib.hid hS1.symm, Lib.hid hC1.symm, Lib.hid t3, Lib.hid s3, Lib.hid b3⟩
        case measure => simp [intOf]; omega)
    · obtain rfl : j = N := by omega
      obtain ⟨m1, hm1⟩ : ∃ m1, m1 = l - 1 + (S : Int) := ⟨_, rfl⟩
      obtain ⟨s1, hs1⟩ : ∃ s1, s1 = f - 1 + (C : Int) := ⟨_, rfl⟩
      have k1 := K1.out
      rw [← hm1, ← hs1] at k1
      have K2 := Lib.hid k1; have HM1 := Lib.hid hm1; have HS1 := Lib.hid hs1
      clear k1 hm1 hs1 K1
      go_wp2_with (first
        | (refine wpList_load_row rfl _ _ rfl (w.heap.size + 1) rfl _ (kdA l m1 f s1 0 (fstM L j)) (0, 0) _ K2.out Tryz.underlying124 rfl (szKd _) ?_)
        | (refine wpList_store_rowTo rfl _ _ _ rfl rfl w.heap.size (kdA l m1 f s1 0 (fstM L j)) rfl rfl 124 (kdA 0 0 0 0 0 (fun _ => 0)) K0.out (szKd _) rfl (tblA_one _ _) ?_)
        | fail)
      refine bodyPost_ret (v := .agg (kdA l m1 f s1 0 (fstM L j))) ?_ rfl ⟨?_, below_row9 HBR.out (Nat.le_refl _) _⟩
      · exact results_cell_row rfl _ _ w.heap.size _ _ (0, 0) _ rfl (setRow_heap _ _ _ _ _ _ K0.out) Tryz.underlying124 rfl (szKd _)
      · have hM : fstM L j = lsM L := by rw [HN.out]; exact fstM_all L
        rw [hM, HM1.out, HS1.out, HSS.out, HCC.out]
def longL : List Nat := [8, 4, 4, 4, 4, 4]
def farL : List Nat := [4, 2, 2, 2, 2, 2, 2, 2, 2, 2, 2, 2, 2, 2]
/-- A variable, and a row of numbers that is made behind it. -/
theorem made_row (w : World) (Z : Array Value) (T : TypeId) (L : List Nat) (cs : Array Value) (h : cs.toList = intsL (natsI L)) :
    RdI ((w.alloc (.cells Z T)).alloc (.cells cs 3)) ((w.alloc (.cells Z T)).alloc (.cells cs 3)).heap.size (some ⟨w.heap.size + 1, 0, none⟩) (natsI L) ∧
    ((w.alloc (.cells Z T)).alloc (.cells cs 3)).heap[w.heap.size]? = some (.cells Z T (0, 0)) ∧ Below w.heap.size w ((w.alloc (.cells Z T)).alloc (.cells cs 3)) ∧ w.heap.size < ((w.alloc (.cells Z T)).alloc (.cells cs 3)).heap.size := by
  have h1 := rdI_new (w.alloc (.cells Z T)) (natsI L) cs h
  have h2 : ((w.alloc (.cells Z T)).alloc (.cells cs 3)).heap[w.heap.size]? = some (.cells Z T (0, 0)) := (Below.heap_alloc _ _ _ (by simp)).trans (heap_alloc_new w _)
  refine ⟨?_, h2, ((Below.refl _ _).alloc (Nat.le_refl _) _).alloc (by simp) _, by simp; omega⟩
  rw [World.size_alloc w] at h1
  exact h1
set_option maxRecDepth 100000 in
set_option maxHeartbeats 2000000 in
theorem fars9_any (w : World) : Calls Tryz.prog 66 #[] w fun e w' => e = .returned (.agg (kdA 1 32768 0 29 0 (lsM farL))) ∧ Below w.heap.size w w' := by
  have hz := (zero_of_info infoKd).1
  obtain ⟨hr, v0, b0, hlt⟩ := made_row w (kdA 0 0 0 0 0 (fun _ => 0)) 124 farL #[.int .i64 4, .int .i64 2, .int .i64 2, .int .i64 2, .int .i64 2, .int .i64 2, .int .i64 2, .int .i64 2, .int .i64 2, .int .i64 2, .int .i64 2, .int .i64 2, .int .i64 2, .int .i64 2] rfl
  have hfl := filled9_any _ 1 0 _ 14 14 farL rfl (by omega) hr (by omega) (by omega) (by decide) (by decide)
  have e1 : (1 : Int) - 1 + ((smS (lsM farL) 14 : Nat) : Int) = 32768 := by decide
  have e2 : (0 : Int) - 1 + ((smC (lsM farL) 14 : Nat) : Int) = 29 := by decide
  rw [e1, e2] at hfl
  obtain ⟨V, hV⟩ : ∃ V, V = ((w.alloc (.cells (kdA 0 0 0 0 0 (fun _ => 0)) 124)).alloc (.cells #[.int .i64 4, .int .i64 2, .int .i64 2, .int .i64 2, .int .i64 2, .int .i64 2, .int .i64 2, .int .i64 2, .int .i64 2, .int .i64 2, .int .i64 2, .int .i64 2, .int .i64 2, .int .i64 2] 3)) := ⟨_, rfl⟩
  rw [← hV] at hfl v0 b0 hlt
  have HF := Lib.hid hfl; have V0 := Lib.hid v0; have B0 := Lib.hid b0; have HV := Lib.hid hV.symm; have HLT := Lib.hid hlt
  clear hfl v0 b0 hV hr e1 e2 hlt
  obtain ⟨X, hX⟩ : ∃ X, X = kdA 1 32768 0 29 0 (lsM farL) := ⟨_, rfl⟩
  obtain ⟨x1, x2⟩ : X.size = 19 ∧ X.all (·.oneCell') = true := by rw [hX]; exact ⟨tblA_size _ _, tblA_one _ _⟩
  have x3 : (Tryz.prog.info? 124).map (·.size) = some X.size := by rw [hX]; exact szKd _
  rw [← hX] at HF ⊢
  clear hX
  go_enter Tryz.func66, Tryz.ntmps66
  go_wp2_with fail
  rw [HV.out]
  refine HF.out.mono ?_
  rintro e w1 ⟨rfl, hb1⟩
  have hk1 := (hb1.block w.heap.size HLT.out).trans V0.out
  have K1 := Lib.hid hk1; have HB1 := Lib.hid (B0.out.trans (hb1.mono (Nat.le_of_lt HLT.out)))
  clear hk1 hb1
  go_wp2_with (first
    | (refine wpList_store_rowTo rfl _ _ _ rfl rfl w.heap.size X rfl rfl 124 (kdA 0 0 0 0 0 (fun _ => 0)) K1.out x3 (by rw [x1]; rfl) x2 ?_)
    | fail)
  refine bodyPost_ret (v := .agg X) ?_ rfl ⟨rfl, below_row9 HB1.out (Nat.le_refl _) _⟩
  exact results_cell_row rfl _ _ w.heap.size _ _ (0, 0) _ rfl (setRow_heap _ _ _ _ _ _ K1.out) Tryz.underlying124 rfl x3
end Go.Proofs.YtjhljkhgjcckhaaGreat

