/-
  Layer 4 (build): the program counts a row's items from the last row on.
-/
import Derived.Test.YtgppikhfkikknaaImpBwd
import Derived.Deep.DeepCutAuto
namespace Go.Proofs.Ytgppikhfkikknaa
open Go.RowKit Go.Shelf
attribute [local go_sem] Oper.semAt_some
/-- Is parcel t of row K + 1 an item? -/
def itK (n : Nat) (W : Nat → Nat) : Nat → Nat → Bool
  | 0, _ => true
  | K + 1, t => pickB n (rowLen n K / 2) W (prs (rowW n W K)) (takeI n W (K + 1) t) (t - takeI n W (K + 1) t)
theorem takeI_succ (n : Nat) (W : Nat → Nat) : ∀ K t, takeI n W K (t + 1) = if itK n W K t = true then takeI n W K t + 1 else takeI n W K t
  | 0, _ => rfl
  | _ + 1, _ => rfl
theorem zK_eq (n : Nat) (W : Nat → Nat) (Z : Nat → Int) : ∀ K t, zK n W Z K t = if itK n W K t = true then Z (takeI n W K t) else -1
  | 0, _ => rfl
  | _ + 1, _ => rfl
/-- The most that may be taken of the rows ahead. -/
def capN (n : Nat) : Nat → Nat
  | 0 => 0
  | K + 1 => rowLen n K
theorem takeI_bd (n : Nat) (W : Nat → Nat) : ∀ K t, t ≤ rowLen n K → takeI n W K t ≤ n ∧ takeI n W K t ≤ t ∧ 2 * (t - takeI n W K t) ≤ capN n K
  | 0, t, h => ⟨h, Nat.le_refl _, by show 2 * (t - t) ≤ 0; omega⟩
  | K + 1, t, h => by
    have hb := stepI_bd (n := n) (m := rowLen n K / 2) (w := W) (p := prs (rowW n W K)) t h
    refine ⟨hb.1, hb.2.2, ?_⟩
    show 2 * (t - stepI n (rowLen n K / 2) W (prs (rowW n W K)) t) ≤ rowLen n K
    omega
theorem takeI_zero (n : Nat) (W : Nat → Nat) : ∀ K, takeI n W K 0 = 0
  | 0 => rfl
  | _ + 1 => rfl
theorem takeI_mono (n : Nat) (W : Nat → Nat) (K t : Nat) : ∀ d, takeI n W K t ≤ takeI n W K (t + d)
  | 0 => Nat.le_refl _
  | d + 1 => by
    have ih := takeI_mono n W K t d
    rw [← Nat.add_assoc, takeI_succ]
    split <;> omega
/-- What the rows that are left count. -/
def remN (n : Nat) (W : Nat → Nat) : Nat → Nat → Nat → Nat
  | 0, _, _ => 0
  | K + 1, T, i => cntN n W K T i
theorem rem_step (n : Nat) (W : Nat → Nat) (i : Nat) : ∀ K T, remN n W (K + 1) T i = (if i < takeI n W K T then 1 else 0) + remN n W K (2 * (T - takeI n W K T)) i
  | 0, _ => rfl
  | _ + 1, _ => rfl
/-- By symbol. -/
def cntY (F : Nat → Nat) (N : Nat) (c : Nat → Nat) (s : Nat) : Nat := if s < N ∧ 0 < F s then c (rankN F N s) else 0
theorem cntY_at {F : Nat → Nat} {N k : Nat} (hk : k < nI F N) (c : Nat → Nat) : cntY F N c ((itemsL F N).getD k 0) = c k := by
  have h := rank_of hk
  unfold cntY
  rw [if_pos h.2, h.1]
theorem cntY_ext {F : Nat → Nat} {N : Nat} {c d : Nat → Nat} (h : ∀ i, i < nI F N → c i = d i) (s : Nat) : cntY F N c s = cntY F N d s := by
  unfold cntY
  split
  · rename_i hs
    exact h _ (rank_at hs.1 hs.2).1
  · rfl
theorem cntY_upd {F : Nat → Nat} {N k : Nat} (hk : k < nI F N) (c : Nat → Nat) (x : Nat) (hx : x = c k + 1) (d : Nat → Nat) (hd : ∀ i, d i = if i = k then c i + 1 else c i) : upd (cntY F N c) ((itemsL F N).getD k 0) x = cntY F N d := by
  have h := rank_of hk
  funext i
  unfold upd cntY
  by_cases e : i = (itemsL F N).getD k 0
  · subst e
    rw [if_pos rfl, if_pos h.2, h.1, hd, if_pos rfl]; exact hx
  · rw [if_neg e]
    by_cases hi : i < N ∧ 0 < F i
    · rw [if_pos hi, if_pos hi, hd, if_neg]
      intro h2
      have hr := rank_at hi.1 hi.2
      rw [h2] at hr
      exact e hr.2.symm
    · rw [if_neg hi, if_neg hi]
theorem cntY_len {F : Nat → Nat} {N L : Nat} (h2 : 2 ≤ nI F N) {s : Nat} (hs : s < N) : cntY F N (cntN (nI F N) (itemW F N) (L - 1) (2 * nI F N - 2)) s = lenB F N L s := by
  unfold cntY lenB
  by_cases h : 0 < F s
  · rw [if_pos ⟨hs, h⟩, if_neg (by omega), if_neg (by omega)]
  · rw [if_neg (fun hh => h hh.2), if_pos (by omega)]
theorem grown_blk {W W' : World} {row : Option Nat} {B k : Nat} (hg : W.grownBy W' row) (hr : ∀ r, row = some r → B ≤ r ∧ ∃ o : Obj, W.heap[r]? = some o ∧ o.isCells = false) (hk : k < B) (hs : B ≤ W.heap.size) : W'.heap[k]? = W.heap[k]? :=
  hg.block k (by omega) (fun e => by have := (hr k e.symm).1; omega)
theorem rowLen_ge4 (n : Nat) : ∀ K, n ≤ rowLen n K
  | 0 => Nat.le_refl _
  | _ + 1 => Nat.le_add_right _ _
/-- Where the rows lie, and the iterator's own slice. -/
def SKp (lo B : Nat) (k : Nat) : Prop := (lo ≤ k ∧ k < B) ∨ k = B + 2
/-- Between two rounds. -/
def CntI (w u : World) (g N cN n L : Nat) (F : Nat → Nat) (lo : Nat) (j : Nat) (W : World) : Prop :=
  Boxed W w.heap.size 24 (.slice (some ⟨g, 0, none⟩) N cN) ∧ KpS (SKp lo w.heap.size) u W ∧ Below g w W ∧ u.heap.size ≤ W.heap.size ∧
  ∃ (T : Nat) (c : Nat → Nat), Boxed W (w.heap.size + 1) 3 (.int .i64 (T : Int)) ∧ T ≤ capN n (L - j) ∧ (∀ i, i < n → c i + remN n (itemW F N) (L - j) T i = cntN n (itemW F N) (L - 1) (2 * n - 2) i) ∧ RowW W g N (cntY F N c)
theorem CntI.own (w u : World) (g N cN n L : Nat) (F : Nat → Nat) (lo : Nat) (hu : u.heap.size = w.heap.size + 3) (hg : g < w.heap.size) : OwnFrom u.heap.size (CntI w u g N cN n L F lo) := by
  rintro j W W' row ⟨h1, h2, h3, h4, T, c, h5, h6, h7, cur, h8, h9⟩ hgr hr
  have hk : ∀ k, k < u.heap.size → W'.heap[k]? = W.heap[k]? := fun k hk => grown_blk hgr hr hk h4
  refine ⟨(hk _ (by omega)).trans h1, fun k hS => (hk k ?_).trans (h2 k hS), h3.grown hgr ?_ (fun r e => ?_), Nat.le_trans h4 hgr.size, T, c, (hk _ (by omega)).trans h5, h6, h7, cur, (hk _ (by omega)).trans h8, h9⟩
  · rcases hS with hS | hS <;> omega
  · omega
  · have := (hr r e).1; omega
set_option maxRecDepth 100000 in
set_option maxHeartbeats 8000000 in
theorem count4_any (w : World) (g N cN : Nat) (F : Nat → Nat) (hrow : RowW w g N (cntY F N (fun _ => 0))) (lo : Nat) (A : Option Addr) (c n L : Nat) (hn : n = nI F N) (h2' : 2 ≤ n) (hL1 : 1 ≤ L) (hL2 : L ≤ 15) (hp : n ≤ 2 ^ L) (hN : N ≤ 400) (hg : g < lo)
    (hr : RdR w lo w.heap.size A L n (itemW F N) (fun t => (((itemsL F N).getD t 0 : Nat) : Int))) (T0 : Nat) (hT0 : T0 = 2 * n - 2) :
    Calls Try.prog 18 #[.slice (some ⟨g, 0, none⟩) N cN, .slice A L c, .int .i64 (T0 : Int)] w fun e w' => e = .returned (.tuple #[]) ∧ Below g w w' ∧ RowW w' g N (lenB F N L) := by
  obtain ⟨b, o, rfl, hb1, hb2, hcc⟩ := hr
  refine (callsIn_wide (n := 5)).1 ?_
  refine callsIn_of_wp_marks Try.func18 rfl trivial ?_ rfl
  simp only [Try.ntmps18, List.size_toArray, List.length_cons, List.length_nil, Nat.reduceAdd, Nat.reduceSub, Array.replicate_succ, Array.replicate_zero, List.push_toArray, List.append_toArray, List.nil_append, List.cons_append]
  have HROW := Lib.hid hrow; have HCC := Lib.hid hcc; have HN := Lib.hid hn; have HP := Lib.hid hp; have HT := Lib.hid hT0
  clear hrow hcc hn hp hT0
  gi_wp2_with (refine ⟨trivial, ?_⟩; gi_at_call 27; refine (bwd_in _ _ trivial rfl _ _ _ _).mono ?_; rintro e w' ⟨rfl, rfl⟩)
  have HSK : g < w.heap.size := by omega
  have hn4 : n ≤ 400 := by rw [HN.out]; exact Nat.le_trans (nI_le F N) hN
  obtain ⟨fA, hfA⟩ := Classical.axiomOfChoice (r := fun (K : Nat) (y : Option Addr × Nat) => K < L → w.cell? ⟨b, o + K, none⟩ = some (.slice y.1 (rowLen n K) y.2) ∧ rowLen n K ≤ y.2 ∧ RdQ w lo w.heap.size y.1 (rowLen n K) (rowW n (itemW F N) K) (zK n (itemW F N) (fun t => (((itemsL F N).getD t 0 : Nat) : Int)) K)) (fun K => by
    by_cases hK : K < L
    · obtain ⟨AK, cK, q⟩ := HCC.out K hK
      exact ⟨(AK, cK), fun _ => q⟩
    · exact ⟨(none, 0), fun h => absurd h hK⟩)
  obtain ⟨u, hu⟩ : ∃ u, u = ((w.alloc (.cells #[.slice (some ⟨g, 0, none⟩) N cN] 24)).alloc (.cells #[.int .i64 (T0 : Int)] 3)).alloc (.cells #[.slice (some ⟨b, o, none⟩) L c] 42) := ⟨_, rfl⟩
  have husz : u.heap.size = w.heap.size + 3 := by rw [hu]; simp
  have hbu : Below w.heap.size w u := by rw [hu]; exact (((Below.refl _ w).alloc (Nat.le_refl _) _).alloc (by simp) _).alloc (by simp; omega) _
  have hx1 : Boxed u w.heap.size 24 (.slice (some ⟨g, 0, none⟩) N cN) := by rw [hu]; exact ((Boxed.new w _ _).alloc _).alloc _
  have hx2 : Boxed u (w.heap.size + 1) 3 (.int .i64 (T0 : Int)) := by
    rw [hu]
    have h := (Boxed.new (w.alloc (.cells #[.slice (some ⟨g, 0, none⟩) N cN] 24)) 3 (.int .i64 (T0 : Int))).alloc (.cells #[.slice (some ⟨b, o, none⟩) L c] 42)
    rwa [World.size_alloc] at h
  have hx3 : u.cell? ⟨w.heap.size + 1 + 1, 0, none⟩ = some (.slice (some ⟨b, o, none⟩) L c) := by
    rw [hu]
    have h := (Boxed.new ((w.alloc (.cells #[.slice (some ⟨g, 0, none⟩) N cN] 24)).alloc (.cells #[.int .i64 (T0 : Int)] 3)) 42 (.slice (some ⟨b, o, none⟩) L c)).cell
    rwa [World.size_alloc, World.size_alloc] at h
  have hrowu : RowW u g N (cntY F N (fun _ => 0)) := HROW.out.below hbu HSK
  rw [← hu]
  clear hu HCC
  refine wpIn_range_tied (L := L) rfl (by omega) (gf := 35) (lb := #[.pointer (some ⟨w.heap.size + 1 + 1, 0, none⟩)]) rfl trivial (enters_of Try.func35 (by kernel_rfl) rfl)
    (bwd_tied _ _ trivial rfl (by omega) (w.heap.size + 1 + 1) b o L c (fun K => (fA K).1) (rowLen n) (fun K => (fA K).2) (SKp lo w.heap.size) (.inr rfl) (.inl ⟨hb1, hb2⟩) (by omega) u hx3 (by omega) (by omega) (fun K hK => by
      rw [hbu.cell (p := ⟨b, o + K, none⟩) hb2]; exact (hfA K hK).1))
    (fun h k => h.tr k) (fun W l ob ob' hl _ _ _ k hS => World.putObj_heap_other (by rcases hS with hS | hS <;> omega)) (fun _ => rfl)
    (CntI w u g N cN n L F lo) (CntI.own w u g N cN n L F lo husz HSK) ?start
    (fun j => { tmps := #[.slice (some ⟨g, 0, none⟩) N cN, .slice (some ⟨b, o, none⟩) L c, .int .i64 (T0 : Int), .pointer (some ⟨w.heap.size, 0, none⟩), undef, .pointer (some ⟨w.heap.size + 1, 0, none⟩), undef, .slice (fA (L - 1 - j)).1 (rowLen n (L - 1 - j)) (fA (L - 1 - j)).2, undef, undef, undef, .slice (some ⟨b, o, none⟩) L c,
      .func (.func 35) #[] #[.pointer (some ⟨w.heap.size + 1 + 1, 0, none⟩)], .int .i64 ((L - 1 - j : Nat) : Int), .slice (fA (L - 1 - j)).1 (rowLen n (L - 1 - j)) (fA (L - 1 - j)).2, undef, undef, undef, undef, undef, undef, undef, undef, undef, undef, undef, undef, undef, undef, undef, undef, undef, undef, undef, undef, undef, undef], defers := [] }) ?assign ?body ?done
  case start =>
    refine ⟨hx1, KpS.refl _ _, hbu.mono (by omega), Nat.le_refl _, T0, fun _ => 0, hx2, ?_, fun i hi => ?_, hrowu⟩
    · have := rowLen_enough (n := n) hL1 HP.out
      obtain ⟨K, rfl⟩ : ∃ K, L = K + 1 := ⟨L - 1, by omega⟩
      rw [HT.out]
      exact this
    · obtain ⟨K, rfl⟩ : ∃ K, L = K + 1 := ⟨L - 1, by omega⟩
      rw [HT.out, Nat.zero_add]
      rfl
  case assign =>
    intro l j W K hK
    gi_wp2
    exact hK
  case done =>
    rintro D W hD ⟨h1, h2, h3, h4, T, c', h5, h6, h7, h8⟩ hK
    gi_wp2
    refine ⟨by simp, .inl ⟨_, _, rfl, run_takeDeferred hK, ?_⟩⟩
    refine ⟨_, results_none rfl _ _ _, rfl, h3.grown (grownBy_putObj' W D _) (by omega) (fun r e => by cases e; omega), ?_⟩
    have hgD : g ≠ D := by omega
    obtain ⟨cur, q1, q2⟩ := h8
    refine RowW.ext ⟨cur, (World.putObj_heap_other hgD).trans q1, q2⟩ fun s hs => ?_
    rw [← cntY_len (by rw [← HN.out]; exact h2') hs, ← HN.out]
    refine cntY_ext (fun i hi => ?_) s
    have h := h7 i (by rw [HN.out]; exact hi)
    rw [Nat.sub_self] at h
    exact h
  case body =>
    rintro l j W ⟨h1, h2, h3, h4, T, c', h5, h6, h7, h8⟩ hj
    obtain ⟨K, hK⟩ : ∃ K, K = L - 1 - j := ⟨_, rfl⟩
    rw [← hK]
    have hLj : L - j = K + 1 := by omega
    have hKL : K < L := by omega
    rw [hLj] at h6 h7
    obtain ⟨q1, q2, q3⟩ := hfA K hKL
    obtain ⟨AK, hAK⟩ : ∃ AK, AK = (fA K).1 := ⟨_, rfl⟩
    obtain ⟨cK, hcK⟩ : ∃ cK, cK = (fA K).2 := ⟨_, rfl⟩
    rw [← hAK] at q1 q3 ⊢
    rw [← hcK] at q1 q2 ⊢
    have hfew := rowLen_few h2' hn4 K
    have htk : T ≤ rowLen n K := h6
    have hfin := takeI_bd n (itemW F N) K T htk
    have hge := rowLen_ge4 n K
    obtain ⟨bk, ok, rfl, hlo, hbk, hcells⟩ := q3 (by omega)
    have hcW : ∀ i, i < rowLen n K * 2 → W.cell? ⟨bk, ok + i, none⟩ = some (.int .i64 (parN (rowW n (itemW F N) K) (zK n (itemW F N) (fun t => (((itemsL F N).getD t 0 : Nat) : Int)) K) i)) := fun i hi => by
      rw [h2.cell (p := ⟨bk, ok + i, none⟩) (.inl ⟨hlo, hbk⟩), hbu.cell (p := ⟨bk, ok + i, none⟩) hbk]; exact hcells i hi
    have hTc : T ≤ cK := by omega
    have hT8 : T ≤ 800 := by omega
    obtain ⟨m, hm⟩ : ∃ m, m = rowLen n K := ⟨_, rfl⟩
    rw [← hm] at htk ⊢
    have hb5 := h5.cell
    have hf5 := h5.frozen
    have HCW := Lib.hid hcW; have HM := Lib.hid hm; have H1 := Lib.hid h1; have H2 := Lib.hid h2; have H3 := Lib.hid h3; have H5 := Lib.hid h5; have H7 := Lib.hid h7; have H8 := Lib.hid h8; have HKK := Lib.hid hK; have HFIN := Lib.hid hfin; have HFA := Lib.hid hfA
    clear hcW hm h1 h2 h3 h5 h7 h8 hK hfin hcells q1 q2 q3 hAK hcK hLj h6 hx1 hx2 hx3 hrowu hbu hfA hge
    gi_wp2
    gi_loopw [8, 19] (fun v8 v19 wr => ∃ t d : Nat, t ≤ T ∧ d ≤ 2000 ∧ v8 = .int .i64 (d : Int) ∧ v19 = .int .i64 (t : Int) ∧ Hid (d = 2 * (t - takeI n (itemW F N) K t)) ∧ Hid (RowW wr g N (cntY F N (fun i => c' i + if i < takeI n (itemW F N) K t then 1 else 0))) ∧ Hid (KeepsOthers W wr) ∧ Hid (∀ k, k < u.heap.size → k ≠ g → wr.heap[k]? = W.heap[k]?) ∧ Hid (Below g w wr) ∧ u.heap.size ≤ wr.heap.size) (fun _ v19 _ => T - (intOf v19).toNat)
    case atStart => exact ⟨0, 0, Nat.zero_le _, by omega, rfl, rfl, Lib.hid (by omega), Lib.hid (H8.out.ext fun s _ => cntY_ext (fun i _ => by rw [takeI_zero, if_neg (by omega)]; rfl) s), Lib.hid (KeepsOthers.refl _), Lib.hid (fun _ _ _ => rfl), H3, h4⟩
    case round =>
      obtain ⟨t, d, htT, hd2, rfl, rfl, HD, HR, HKO, HST, HB, hsz⟩ := hrel
      by_cases hlt : t < T
      · have hlti : (t : Int) < (T : Int) := by omega
        have hgw : g < wr.heap.size := by omega
        have hbw : w.heap.size < wr.heap.size := by omega
        have hbkw : bk < wr.heap.size := by omega
        have hsame : ∀ p : Addr, p.block < u.heap.size → p.block ≠ g → wr.cell? p = W.cell? p := fun p hp hne => by simp only [World.cell?, HST.out _ hp hne]
        have c1 := (hsame ⟨bk, ok + t * 2, none⟩ (by show bk < _; omega) (by show bk ≠ g; omega)).trans (HCW.out (t * 2) (by rw [← HM.out]; omega))
        have c2 := (hsame ⟨bk, ok + (t * 2 + 1), none⟩ (by show bk < _; omega) (by show bk ≠ g; omega)).trans (HCW.out (t * 2 + 1) (by rw [← HM.out]; omega))
        rw [parN_a] at c1
        rw [parN_b, zK_eq] at c2
        rw [← Nat.add_assoc] at c2
        have c3 := (hsame ⟨w.heap.size, 0, none⟩ (by show w.heap.size < _; omega) (by show w.heap.size ≠ g; omega)).trans H1.out.cell
        obtain ⟨x, hx⟩ : ∃ x, x = rowW n (itemW F N) K t := ⟨_, rfl⟩
        rw [← hx] at c1
        have hts := takeI_succ n (itemW F N) K t
        have hbd := takeI_bd n (itemW F N) K (t + 1) (by rw [← HM.out]; omega)
        obtain ⟨q, hq⟩ : ∃ q, q = takeI n (itemW F N) K t := ⟨_, rfl⟩
        rw [← hq] at HD HR hts c2
        by_cases hit : itK n (itemW F N) K t = true
        · rw [if_pos hit] at hts c2
          have hqn : q < n := by omega
          have hrk := rank_of (F := F) (n := N) (r := q) (by rw [← HN.out]; exact hqn)
          have hca := cntY_at (F := F) (N := N) (k := q) (by rw [← HN.out]; exact hqn) (fun i => c' i + if i < q then 1 else 0)
          have hup := cntY_upd (F := F) (N := N) (k := q) (by rw [← HN.out]; exact hqn) (fun i => c' i + if i < q then 1 else 0)
          have htot := H7.out q hqn
          have hcl := cnt_le n (itemW F N) (L - 1) (2 * n - 2) q
          have hrem := rem_step n (itemW F N) q K T
          have hmn := takeI_mono n (itemW F N) K (t + 1) (T - (t + 1))
          rw [show t + 1 + (T - (t + 1)) = T by omega] at hmn
          rw [if_pos (by omega)] at hrem
          obtain ⟨s, hs⟩ : ∃ s, s = (itemsL F N).getD q 0 := ⟨_, rfl⟩
          rw [← hs] at hrk hca hup c2
          have hsN : s < N := hrk.2.1
          have c4 := HR.out.cell hsN
          have f4 := HR.out.frozen s
          obtain ⟨y, hy⟩ : ∃ y, y = c' q := ⟨_, rfl⟩
          simp only [if_neg (Nat.lt_irrefl q), Nat.add_zero] at hca
          rw [hca, ← hy] at c4
          have hy15 : y + 1 ≤ 15 := by omega
          have hne : ((s : Int) == -1) = false := by simp
          have hset := HR.out.set s (y + 1)
          rw [show ((y + 1 : Nat) : Int) = (y : Int) + 1 by omega] at hset
          have HSET := Lib.hid hset; have HUP := Lib.hid hup; have HTS := Lib.hid hts; have HQ := Lib.hid hq; have HY := Lib.hid hy
          clear hx hts hbd hq hrk hca hup htot hcl hrem hmn hs hy hset hsame hit
          gi_wp2
          go_roundw
          case rel =>
            have hsu : (wr.setCell ⟨g, s, none⟩ (.int .u8 ((y : Int) + 1))).heap.size = wr.heap.size := by simp [World.setCell]
            refine ⟨t + 1, d, by omega, hd2, rfl, by go_num, Lib.hid ?_, Lib.hid ?_, Lib.hid ((HKO.out.trans (KeepsOthers.setCell _ _ _)).trans (KeepsOthers.alloc _ _)), Lib.hid (fun k hk hne => ?_), Lib.hid ((HB.out.setCell (p := ⟨g, s, none⟩) (Nat.le_refl _) _).alloc (by rw [hsu]; omega) _), by rw [World.size_alloc, hsu]; omega⟩
            · rw [HTS.out, HD.out]; omega
            · have h := HSET.out
              rw [HUP.out (y + 1) (by rw [HY.out, if_neg (Nat.lt_irrefl q)]) (fun i => c' i + if i < q + 1 then 1 else 0) (fun i => by
                by_cases e : i = q
                · rw [if_pos e, if_pos (by omega), if_neg (by omega)]
                · rw [if_neg e]
                  by_cases e2 : i < q
                  · rw [if_pos (by omega), if_pos e2]
                  · rw [if_neg (by omega), if_neg e2])] at h
              rw [HTS.out]
              exact h.below ((Below.refl _ _).alloc (Nat.le_refl _) _) (by rw [hsu]; omega)
            · exact ((Below.heap_alloc _ _ k (by rw [hsu]; omega)).trans (Below.heap_setCell wr _ _ k hne)).trans (HST.out k hk hne)
          case measure => simp [intOf]; omega
        · rw [if_neg hit] at hts c2
          have hm1 : ((-1 : Int) == -1) = true := rfl
          have HTS := Lib.hid hts; have HQ := Lib.hid hq
          have hdd := HD.out
          clear hx hts hq hsame hit c3
          gi_wp2
          go_roundw
          case rel =>
            refine ⟨t + 1, d + 2, by omega, by omega, by go_num, by go_num, Lib.hid ?_, Lib.hid ?_, Lib.hid (HKO.out.trans (KeepsOthers.alloc _ _)), Lib.hid (fun k hk hne => ?_), Lib.hid (HB.out.alloc (by omega) _), by rw [World.size_alloc]; omega⟩
            · have h1 := HTS.out; have h2 := HD.out; have h3 := HQ.out
              have h4 := hbd.2.1
              have h5 : q ≤ t := by rw [h3]; exact (takeI_bd n (itemW F N) K t (by rw [← HM.out]; omega)).2.1
              rw [h1]; omega
            · rw [HTS.out]
              exact HR.out.below ((Below.refl _ _).alloc (Nat.le_refl _) _) hgw
            · exact (Below.heap_alloc _ _ k (by omega)).trans (HST.out k hk hne)
          case measure => simp [intOf]; omega
      · obtain rfl : t = T := by omega
        have hlti : ¬ (t : Int) < (t : Int) := by omega
        have hb1w : w.heap.size + 1 < wr.heap.size := by omega
        have e5 := HST.out (w.heap.size + 1) (by omega) (by omega)
        have c5 : wr.cell? ⟨w.heap.size + 1, 0, none⟩ = some (.int .i64 (t : Int)) := by simp only [World.cell?, e5]; exact hb5
        have f5 : wr.frozen? ⟨w.heap.size + 1, 0, none⟩ = false := by simp only [World.frozen?, e5]; exact hf5
        have HE5 := Lib.hid e5
        clear e5 hb5 hf5
        gi_wp2
        have hLj : L - (j + 1) = K := by have := HKK.out; omega
        have hKp : KpS (SKp lo w.heap.size) W (wr.setCell ⟨w.heap.size + 1, 0, none⟩ (.int .i64 (d : Int))) := fun k hS => by
          have hne : k ≠ w.heap.size + 1 := by rcases hS with hS | hS <;> omega
          exact (Below.heap_setCell wr _ _ k hne).trans (HST.out k (by rcases hS with hS | hS <;> omega) (by rcases hS with hS | hS <;> omega))
        refine ⟨HKO.out.trans (KeepsOthers.setCell _ _ _), hKp, ?_, H2.out.tr hKp, HB.out.setCell (p := ⟨w.heap.size + 1, 0, none⟩) (by show g ≤ w.heap.size + 1; omega) _, by simp [World.setCell]; omega, d, (fun i => c' i + if i < takeI n (itemW F N) K t then 1 else 0), ?_, ?_, fun i hi => ?_, HR.out.other (by show g ≠ w.heap.size + 1; omega) _⟩
        · exact (Below.heap_setCell wr _ _ _ (by show w.heap.size ≠ w.heap.size + 1; omega)).trans ((HST.out _ (by omega) (by omega)).trans H1.out)
        · exact Boxed.set _ (HE5.out.trans H5.out)
        · rw [hLj, HD.out]; exact HFIN.out.2.2
        · rw [hLj, HD.out]
          have h := H7.out i hi
          rw [rem_step] at h
          show (c' i + if i < takeI n (itemW F N) K t then 1 else 0) + remN n (itemW F N) K (2 * (t - takeI n (itemW F N) K t)) i = _
          omega
end Go.Proofs.Ytgppikhfkikknaa
