/-
  Layer 1 (bits), the document's own answer: what its Set makes of every pen that may be, bit by bit.
-/
import Derived.Test.YtniekmnjnnkieaaMay
import Derived.Test.YtniekmnjnnkieaaWhole
import Derived.OneCell
import Derived.BigRegion
import Derived.StillTailTactics
namespace Go.Proofs.Ytniekmnjnnkieaa
open Go.RowKit
theorem bytesL_snoc (n : Nat) (f : Nat → Nat) : bytesL (n + 1) f = bytesL n f ++ [.int .u8 (f n : Int)] := by
  unfold bytesL; rw [List.range_succ, List.map_append]; rfl
theorem bytesL_congr {n : Nat} {f g : Nat → Nat} (h : ∀ j, j < n → f j = g j) : bytesL n f = bytesL n g := by
  unfold bytesL
  apply List.map_congr_left
  intro j hj
  rw [h j (by simpa using hj)]
theorem bytesL_set (n : Nat) (f : Nat → Nat) (j x : Nat) : (bytesL n f).set j (.int .u8 (x : Int)) = bytesL n (upd f j x) := by
  apply List.ext_getElem?
  intro i
  have hl : (bytesL n f).length = n := by simp [bytesL]
  simp only [List.getElem?_set, bytesL_get, upd, hl]
  by_cases e : j = i
  · subst e; by_cases h : j < n <;> simp [h]
  · have e' : ¬ i = j := fun h => e h.symm
    simp [e, e']
theorem own_ne {w : World} {base : Nat} {v : Value} {n : Nat} {xs : List Value} {p : Nat} {cs : Array Value} (h : w.ownsRow base 5 1 v n xs) (hp : w.heap[p]? = some (.cells cs 28 (0, 0))) : v.ownBlock ≠ some p := by
  rcases h.2 with ⟨rfl, _⟩ | ⟨g, cap, cur, rfl, _, hg, _⟩
  · simp [Value.ownBlock]
  · intro e
    have e' : g = p := by simpa [Value.ownBlock] using e
    subst e'
    rw [hg] at hp
    injection hp with hp
    injection hp with _ ht
    exact absurd ht (by decide)
/-- The state of Set's loop: the pen under way at block p, its row. -/
def SetAt (w : World) (base p : Nat) (A : Option Addr) (n c k : Nat) (F : Nat → Nat) : Prop :=
  w.heap[p]? = some (.cells #[.slice A n c, .int .i64 (k : Int)] 28 (0, 0)) ∧ w.ownsRow base 5 1 (.slice A n c) n (bytesL n F)
/-- One byte more, behind k whole bytes. -/
theorem set_grow (w : World) (base p : Nat) (A : Option Addr) (n c k : Nat) (F : Nat → Nat) (h : SetAt w base p A n c k F) (hb : base ≤ w.heap.size) (hn : n ≤ 1000000000) (hF : F n = 0) :
    ∃ A' c' w1, (Builtin.append_ #[22, 22] 22 #[.slice A n c, .slice (some ⟨w.heap.size, 0, none⟩) 1 1]).run Try.prog (w.alloc (.cells #[.int .u8 0] 5)) = .ok (.slice A' (n + 1) c') w1 ∧
      w1.heap[p]? = some (.cells #[.slice A n c, .int .i64 (k : Int)] 28 (0, 0)) ∧ w1.ownsRow base 5 1 (.slice A' (n + 1) c') (n + 1) (bytesL (n + 1) F) ∧ ∀ B, B ≤ base → B ≤ w.heap.size → Below B w w1 := by
  obtain ⟨hp, ho⟩ := h
  obtain ⟨i0, hi, hz0, hz1, hz2⟩ := info_parts info5
  have hplt : p < w.heap.size := (Array.getElem?_eq_some_iff.1 hp).1
  have hnew : ∀ j u, [Value.int .u8 0][j]? = some u → (w.alloc (.cells #[.int .u8 0] 5)).cell? ((⟨w.heap.size, 0, none⟩ : Addr).add j) = some u := cell_one_new w (.int .u8 0) 5
  obtain ⟨v', w', h1, h2, h3, _, _⟩ := run_append_own_at (P := Try.prog) (w.alloc (.cells #[.int .u8 0] 5)) base 22 22 5 i0 (.int .u8 0) 1 1 Try.underlying22 hi hz0 hz1 hz2 rfl (by decide)
    (.slice A n c) n (bytesL n F) (ho.alloc _) ⟨w.heap.size, 0, none⟩ 1 1 [.int .u8 0] rfl hnew (by simp [Value.oneCell']) (by unfold maxLen; omega) (by omega) (by simp; omega)
  have hv : ∃ A' c', v' = .slice A' (n + 1) c' := by
    rcases h2.2 with ⟨_, h⟩ | ⟨g, cap, cur, rfl, _⟩
    · omega
    · exact ⟨_, _, rfl⟩
  obtain ⟨A', c', rfl⟩ := hv
  have hne := own_ne (w := w.alloc (.cells #[.int .u8 0] 5)) (ho.alloc _) ((Below.heap_alloc w _ p hplt).trans hp)
  refine ⟨A', c', w', h1, ?_, ?_, fun B hB1 hB2 => ?_⟩
  · rw [h3.block p (by simp; omega) (fun e => hne e.symm)]
    exact (Below.heap_alloc w _ p hplt).trans hp
  · rw [bytesL_snoc, hF]; exact h2
  · refine ((Below.refl B w).alloc hB2 _).grown h3 (by simp; omega) fun q hq => ?_
    have := (ho.lt q hq).1
    omega
theorem set_cellA {w : World} {base : Nat} {A : Option Addr} {n c : Nat} {F : Nat → Nat} {j : Nat} (h : w.ownsRow base 5 1 (.slice A n c) n (bytesL n F)) (hj : j < n) :
    ∃ g, A = some ⟨g, 0, none⟩ ∧ base ≤ g ∧ g < w.heap.size ∧ w.cell? ⟨g, j, none⟩ = some (.int .u8 (F j : Int)) ∧ w.frozen? ⟨g, j, none⟩ = false := by
  obtain ⟨g, cap, hv, hb, hlt⟩ := h.form (by omega)
  injection hv with hA _ hc
  subst hA
  exact ⟨g, rfl, hb, hlt, by rw [h.cellAt j (by omega), bytesL_get, if_pos hj], h.frozenAt j⟩
theorem pair_set0 {w : World} {p : Nat} {a b : Value} {t : TypeId} (h : w.heap[p]? = some (.cells #[a, b] t (0, 0))) (u : Value) : (w.setCell ⟨p, 0, none⟩ u).heap[p]? = some (.cells #[u, b] t (0, 0)) := by
  simp [World.setCell, Array.getElem?_modify, h]
theorem pair_set1 {w : World} {p : Nat} {a b : Value} {t : TypeId} (h : w.heap[p]? = some (.cells #[a, b] t (0, 0))) (u : Value) : (w.setCell ⟨p, 1, none⟩ u).heap[p]? = some (.cells #[a, u] t (0, 0)) := by
  simp [World.setCell, Array.getElem?_modify, h]
/-- The step where the bit is nought. -/
theorem SetAt.skip {w : World} {base p : Nat} {A : Option Addr} {n c K : Nat} {F : Nat → Nat} (h : SetAt w base p A n c K F) : SetAt (w.setCell ⟨p, 1, none⟩ (.int .i64 ((K + 1 : Nat) : Int))) base p A n c (K + 1) (stepF F K 0) := by
  refine ⟨pair_set1 h.1 _, ?_⟩
  have e : stepF F K 0 = F := by
    funext j; simp only [stepF, upd, Nat.zero_mul, Nat.add_zero]; split
    · rename_i h; rw [h]
    · rfl
  rw [e]
  exact ownsRow_setCell_other h.2 (a := ⟨p, 1, none⟩) (own_ne h.2 h.1) _
/-- The step where the bit is one. -/
theorem SetAt.put {w : World} {base p g : Nat} {n c K : Nat} {F : Nat → Nat} (h : SetAt w base p (some ⟨g, 0, none⟩) n c K F) :
    SetAt (((w.setCell ⟨g, K / 8, none⟩ (.int .u8 ((F (K / 8) + 2 ^ (K % 8) : Nat) : Int))).drew).setCell ⟨p, 1, none⟩ (.int .i64 ((K + 1 : Nat) : Int))) base p (some ⟨g, 0, none⟩) n c (K + 1) (stepF F K 1) := by
  have hne : p ≠ g := fun e => own_ne h.2 h.1 (by simp [Value.ownBlock, e])
  have h1 : ((w.setCell ⟨g, K / 8, none⟩ (.int .u8 ((F (K / 8) + 2 ^ (K % 8) : Nat) : Int))).drew).heap[p]? = some (.cells #[.slice (some ⟨g, 0, none⟩) n c, .int .i64 (K : Int)] 28 (0, 0)) := (Below.heap_setCell w ⟨g, K / 8, none⟩ _ p hne).trans h.1
  have h2 := (h.2.stored (K / 8) (.int .u8 ((F (K / 8) + 2 ^ (K % 8) : Nat) : Int))).1
  rw [bytesL_set] at h2
  refine ⟨pair_set1 h1 _, ?_⟩
  have e : stepF F K 1 = upd F (K / 8) (F (K / 8) + 2 ^ (K % 8)) := by unfold stepF; rw [Nat.one_mul]
  rw [e]
  have h3 : ((w.setCell ⟨g, K / 8, none⟩ (.int .u8 ((F (K / 8) + 2 ^ (K % 8) : Nat) : Int))).drew).ownsRow base 5 1 (.slice (some ⟨g, 0, none⟩) n c) n (bytesL n (upd F (K / 8) (F (K / 8) + 2 ^ (K % 8)))) := h2
  exact ownsRow_setCell_other h3 (a := ⟨p, 1, none⟩) (own_ne h3 h1) _
theorem SetAt.put' {w : World} {base p g : Nat} {n c K q r : Nat} {F : Nat → Nat} (h : SetAt w base p (some ⟨g, 0, none⟩) n c K F) (hq : q = K / 8) (hr : r = K % 8) :
    SetAt (((w.setCell ⟨g, q, none⟩ (.int .u8 ((F q : Int) + (powN r : Nat)))).setCell ⟨p, 1, none⟩ (.int .i64 ((K : Int) + 1))).drew) base p (some ⟨g, 0, none⟩) n c (K + 1) (stepF F K 1) := by
  subst hq hr
  exact h.put
theorem SetAt.slice {w : World} {base p : Nat} {A A' : Option Addr} {n n' c c' K : Nat} {F : Nat → Nat} (h : w.heap[p]? = some (.cells #[.slice A n c, .int .i64 (K : Int)] 28 (0, 0))) (ho : w.ownsRow base 5 1 (.slice A' n' c') n' (bytesL n' F)) :
    SetAt (w.setCell ⟨p, 0, none⟩ (.slice A' n' c')) base p A' n' c' K F :=
  ⟨pair_set0 h _, ownsRow_setCell_other ho (a := ⟨p, 0, none⟩) (own_ne ho h) _⟩
set_option maxHeartbeats 1000000 in
theorem set_any (w : World) (A : Option Addr) (n c : Nat) (f : Nat → Nat) (k m v : Nat) (hr : RdB w w.heap.size A n f) (hA : A = none → c = 0) (hk : k ≤ 8388608) (hn : n = (k + 7) / 8) (hcl : Clean (zext n f) k) (hm : m ≤ 32) (hv : v < 4294967296) :
    Calls Try.prog 32 #[.agg #[.slice A n c, .int .i64 (k : Int)], .int .u32 (v : Int), .int .i64 (m : Int)] w fun e w' => ∃ A' c' L, L = (k + m + 7) / 8 ∧ e = .returned (.agg #[.slice A' L c', .int .i64 ((k + m : Nat) : Int)]) ∧
      w'.ownsRow w.heap.size 5 1 (.slice A' L c') L (bytesL L (putF (zext n f) k v m)) ∧ Below w.heap.size w w' := by
  have HR := Lib.hid hr; have HA := Lib.hid hA; have HN := Lib.hid hn; have HC := Lib.hid hcl
  clear hr hA hcl hn
  go_enter Try.func32, Try.ntmps32
  go_wp2_with fail
  refine (twin_any _ A n c f k (two_rd HR.out _ _) (by have := HN.out; omega) HA.out).mono ?_
  rintro e w2 ⟨A2, c2, rfl, ho, hb⟩
  have HB2 := Lib.hid (hb.mono (B' := w.heap.size + 1 + 1) (by simp))
  have HO2 := Lib.hid (ownsRow_lower ho (base' := w.heap.size + 1 + 1) (by simp))
  have hs2 : w.heap.size + 1 + 1 ≤ w2.heap.size := by have := hb.size; simpa using this
  clear hb ho
  go_wp2
  go_loopw [1, 8] (fun x i wr => ∃ (j : Nat) (A1 : Option Addr) (c1 : Nat), j ≤ m ∧ i = .int .i64 j ∧ x = .int .u32 (shrN v j : Nat) ∧ SetAt wr (w.heap.size + 1 + 1) w2.heap.size A1 ((k + j + 7) / 8) c1 (k + j) (putF (zext n f) k v j) ∧ Below (w.heap.size + 1 + 1) w2 wr) (fun _ i _ => m - (intOf i).toNat)
  case atStart =>
    refine ⟨0, A2, c2, Nat.zero_le _, rfl, by rw [shrN_zero], ⟨?_, ?_⟩, (Below.refl _ _).alloc (by omega) _⟩
    · rw [show (k + 0 + 7) / 8 = n from HN.out.symm]; exact heap_alloc_new _ _
    · rw [show (k + 0 + 7) / 8 = n from HN.out.symm]
      have e : bytesL n (putF (zext n f) k v 0) = bytesL n f := bytesL_congr fun j hj => zext_in f hj
      rw [e]; exact HO2.out.alloc _
  case round =>
    obtain ⟨j, A1, c1, hj, rfl, rfl, hset, hbel⟩ := hrel
    have hclj := HC.out.put v j
    obtain ⟨F, hF⟩ : ∃ F, F = putF (zext n f) k v j := ⟨_, rfl⟩
    obtain ⟨K, hK⟩ : ∃ K, K = k + j := ⟨_, rfl⟩
    obtain ⟨N, hN⟩ : ∃ N, N = (k + j + 7) / 8 := ⟨_, rfl⟩
    obtain ⟨x, hx⟩ : ∃ x, x = shrN v j := ⟨_, rfl⟩
    rw [← hN, ← hF, ← hK] at hset
    rw [← hF, ← hK] at hclj
    rw [← hx]
    have hxv : x ≤ v := hx ▸ shrN_le v j
    have hN1 : N = (K + 7) / 8 := by omega
    have hx2 : shrN v (j + 1) = x / 2 := by rw [hx]; exact shrN_succ v j
    have hbit : v / 2 ^ j % 2 = x % 2 := by rw [hx]; rfl
    have hK8 : K ≤ 8388640 := by omega
    have HX := Lib.hid hx2; have HBIT := Lib.hid hbit; have HF := Lib.hid hF; have HK := Lib.hid hK; have HNN := Lib.hid hN; have HN1 := Lib.hid hN1; have HS := Lib.hid hset; have HBL := Lib.hid hbel; have HCJ := Lib.hid hclj
    have hsz : w2.heap.size < wr.heap.size := (Array.getElem?_eq_some_iff.1 hset.1).1
    clear hx2 hbit hF hK hN hN1 hset hbel hx hclj
    obtain ⟨j2, j3, j4, j5⟩ := pair_cells HS.out.1
    by_cases hlt : j < m
    · by_cases e8 : K % 8 = 0
      · have hFN : F N = 0 := by
          have h1 := HCJ.out.2.2
          rw [show K / 8 = N by have := HN1.out; omega, e8] at h1
          omega
        obtain ⟨A3, c3, w1, hrun, hp1, ho1, hb1⟩ := set_grow wr _ _ A1 N c1 K F HS.out (by omega) (by have := HN1.out; omega) hFN
        have hbw := hb1 (w.heap.size + 1 + 1) (Nat.le_refl _) (by omega)
        have hsz1 : w2.heap.size < w1.heap.size := (Array.getElem?_eq_some_iff.1 hp1).1
        have HRUN := Lib.hid hrun; have HP1 := Lib.hid hp1; have HO1 := Lib.hid ho1; have HB1 := Lib.hid hbw
        obtain ⟨q2, q3, q4, q5⟩ := pair_cells hp1
        clear hrun hp1 ho1 hb1 hbw hFN
        have ht8 : ((K : Int) % 8 == 0) = true := by simp; omega
        by_cases ev : x % 2 = 1
        · have htv : ((x : Int) % 2 == 1) = true := by simp; omega
          obtain ⟨g, rfl, hgb, hglt, hcell, hfz⟩ := set_cellA HO1.out (j := K / 8) (by have := HN1.out; omega)
          have hne : w2.heap.size ≠ g := fun e => own_ne HO1.out HP1.out (by simp [Value.ownBlock, e])
          have hF8 := HCJ.out.2.2
          have hKN : K / 8 < N + 1 := by have := HN1.out; omega
          have hpw : powN (K % 8) ≤ 128 := by
            have := Nat.pow_le_pow_right (n := 2) (by omega) (show K % 8 ≤ 7 by omega); simpa [powN] using this
          have hF9 : F (K / 8) + powN (K % 8) < 256 := by unfold powN at hpw ⊢; omega
          have EV := Lib.hid ev; have E8 := Lib.hid e8; have HF8 := Lib.hid hF8
          obtain ⟨q, hq⟩ : ∃ q, q = K / 8 := ⟨_, rfl⟩
          obtain ⟨r, hr8⟩ : ∃ r, r = K % 8 := ⟨_, rfl⟩
          rw [← hq] at hcell hfz hF9 hKN
          rw [← hr8] at hF9 hpw
          have hr0 : r < 8 := by omega
          have hpw0 := powN_pos r
          have HPW : ∀ W : World, Calls Try.prog 36 #[.int .i64 (r : Int)] W fun e w' => e = .returned (.int .u64 (powN r : Nat)) ∧ W = w' := fun W => power_any W r (by omega)
          have HPW' := Lib.hid HPW
          have HQ := Lib.hid hq; have HR8 := Lib.hid hr8
          clear hq hr8 HPW
          clear ev e8 hF8
          go_wp2_with (at_builtin; refine wpList_append_run rfl _ _ 22 rfl _ _ _ _ rfl rfl HRUN.out ?_)
          have g1 : IntKind.i64.wrap ((K : Int) / 8) = (q : Int) := by rw [IntWalk.i64_in _ ⟨by omega, by omega⟩]; have := HQ.out; omega
          have g2 : (K : Int) % 8 = (r : Int) := by have := HR8.out; omega
          have g5 : (K : Int).tmod 8 = (r : Int) := by rw [IntWalk.rem_in _ _ (by omega)]; exact g2
          have hqi : (q : Int) < (N : Int) + 1 := by omega
          have g3 : IntKind.u8.wrap ((powN r : Nat) : Int) = (powN r : Nat) := IntWalk.u8_in _ ⟨by omega, by omega⟩
          have g4 : IntKind.u8.wrap ((F q : Int) + (powN r : Nat)) = ((F q + powN r : Nat) : Int) := by rw [IntWalk.u8_in _ ⟨by omega, by omega⟩]; rfl
          refine wp_region_still_tail 18 (by kernel_rfl) (by kernel_rfl) ?_
          simp only [List.take_succ_cons, List.take_zero, List.drop_succ_cons, List.drop_zero]
          change wpStill _ _ (World.drew _) (fun a' => wpList _ _ _ _ a' (World.drew _)) _ _
          repeat still_step
          still_call ((HPW'.out _).mono fun _ _ ⟨a, b⟩ => ⟨a, b.symm⟩)
          repeat still_step
          refine wpStill_nil ?_
          clear g1 g2 g5 hqi
          go_wp2
          clear g3 g4
          refine ⟨⟨j + 1, some ⟨g, 0, none⟩, c3, hlt, by go_num, val_int (by have := HX.out; omega), ?_, ((((HBL.out.trans HB1.out).setCell (by omega) _).setCell (by omega) _).setCell (by omega) _).drew⟩, by simp [intOf]; omega⟩
          have h1 := (SetAt.slice HP1.out HO1.out).put' HQ.out HR8.out
          have e1 : stepF F K 1 = putF (zext n f) k v (j + 1) := by
            have hb1 : v / 2 ^ j % 2 = 1 := by have := HBIT.out; have := EV.out; omega
            show _ = stepF (putF (zext n f) k v j) (k + j) (v / 2 ^ j % 2)
            rw [hb1, HF.out, HK.out]
          rw [e1] at h1
          rw [show (k + (j + 1) + 7) / 8 = N + 1 by have := HN1.out; have := HK.out; have := E8.out; omega, show k + (j + 1) = K + 1 by have := HK.out; omega]
          exact h1
        · have htv : ((x : Int) % 2 == 1) = false := by simp; omega
          have EV := Lib.hid ev; have E8 := Lib.hid e8
          clear ev e8
          go_wp2_with (at_builtin; refine wpList_append_run rfl _ _ 22 rfl _ _ _ _ rfl rfl HRUN.out ?_)
          go_roundw
          case rel =>
            refine ⟨j + 1, A3, c3, hlt, by go_num, val_int (by have := HX.out; omega), ?_, ((HBL.out.trans HB1.out).setCell (by omega) _).setCell (by omega) _⟩
            have h1 := (SetAt.slice HP1.out HO1.out).skip
            have e1 : stepF F K 0 = putF (zext n f) k v (j + 1) := by
              rw [show (0 : Nat) = v / 2 ^ j % 2 by have := HBIT.out; have := EV.out; omega, HF.out, HK.out]; rfl
            rw [e1] at h1
            rw [show (k + (j + 1) + 7) / 8 = N + 1 by have := HN1.out; have := HK.out; have := E8.out; omega, show k + (j + 1) = K + 1 by have := HK.out; omega]
            exact h1
          case measure => simp [intOf]; omega
      · have ht8 : ((K : Int) % 8 == 0) = false := by simp; omega
        by_cases ev : x % 2 = 1
        · have htv : ((x : Int) % 2 == 1) = true := by simp; omega
          obtain ⟨g, rfl, hgb, hglt, hcell, hfz⟩ := set_cellA HS.out.2 (j := K / 8) (by have := HN1.out; omega)
          have hne : w2.heap.size ≠ g := fun e => own_ne HS.out.2 HS.out.1 (by simp [Value.ownBlock, e])
          have hF8 := HCJ.out.2.2
          have hKN : K / 8 < N := by have := HN1.out; omega
          have hpw : powN (K % 8) ≤ 128 := by
            have := Nat.pow_le_pow_right (n := 2) (by omega) (show K % 8 ≤ 7 by omega); simpa [powN] using this
          have hF9 : F (K / 8) + powN (K % 8) < 256 := by unfold powN at hpw ⊢; omega
          have EV := Lib.hid ev; have E8 := Lib.hid e8; have HF8 := Lib.hid hF8
          obtain ⟨q, hq⟩ : ∃ q, q = K / 8 := ⟨_, rfl⟩
          obtain ⟨r, hr8⟩ : ∃ r, r = K % 8 := ⟨_, rfl⟩
          rw [← hq] at hcell hfz hF9 hKN
          rw [← hr8] at hF9 hpw
          have hr0 : r < 8 := by omega
          have hpw0 := powN_pos r
          have HPW : ∀ W : World, Calls Try.prog 36 #[.int .i64 (r : Int)] W fun e w' => e = .returned (.int .u64 (powN r : Nat)) ∧ W = w' := fun W => power_any W r (by omega)
          have HPW' := Lib.hid HPW
          have HQ := Lib.hid hq; have HR8 := Lib.hid hr8
          clear hq hr8 HPW
          clear ev e8 hF8
          go_wp2
          have g1 : IntKind.i64.wrap ((K : Int) / 8) = (q : Int) := by rw [IntWalk.i64_in _ ⟨by omega, by omega⟩]; have := HQ.out; omega
          have g2 : (K : Int) % 8 = (r : Int) := by have := HR8.out; omega
          have g5 : (K : Int).tmod 8 = (r : Int) := by rw [IntWalk.rem_in _ _ (by omega)]; exact g2
          have hqi : (q : Int) < (N : Int) := by omega
          have g3 : IntKind.u8.wrap ((powN r : Nat) : Int) = (powN r : Nat) := IntWalk.u8_in _ ⟨by omega, by omega⟩
          have g4 : IntKind.u8.wrap ((F q : Int) + (powN r : Nat)) = ((F q + powN r : Nat) : Int) := by rw [IntWalk.u8_in _ ⟨by omega, by omega⟩]; rfl
          refine wp_region_still_tail 18 (by kernel_rfl) (by kernel_rfl) ?_
          simp only [List.take_succ_cons, List.take_zero, List.drop_succ_cons, List.drop_zero]
          change wpStill _ _ (World.drew _) (fun a' => wpList _ _ _ _ a' (World.drew _)) _ _
          repeat still_step
          still_call ((HPW'.out _).mono fun _ _ ⟨a, b⟩ => ⟨a, b.symm⟩)
          repeat still_step
          refine wpStill_nil ?_
          clear g1 g2 g5 hqi
          go_wp2
          clear g3 g4
          refine ⟨⟨j + 1, some ⟨g, 0, none⟩, c1, hlt, by go_num, val_int (by have := HX.out; omega), ?_, ((HBL.out.setCell (by omega) _).setCell (by omega) _).drew⟩, by simp [intOf]; omega⟩
          have h1 := HS.out.put' HQ.out HR8.out
          have e1 : stepF F K 1 = putF (zext n f) k v (j + 1) := by
            have hb1 : v / 2 ^ j % 2 = 1 := by have := HBIT.out; have := EV.out; omega
            show _ = stepF (putF (zext n f) k v j) (k + j) (v / 2 ^ j % 2)
            rw [hb1, HF.out, HK.out]
          rw [e1] at h1
          rw [show (k + (j + 1) + 7) / 8 = N by have := HN1.out; have := HK.out; have := E8.out; omega, show k + (j + 1) = K + 1 by have := HK.out; omega]
          exact h1
        · have htv : ((x : Int) % 2 == 1) = false := by simp; omega
          have EV := Lib.hid ev; have E8 := Lib.hid e8
          clear ev e8
          go_wp2
          go_roundw
          case rel =>
            refine ⟨j + 1, A1, c1, hlt, by go_num, val_int (by have := HX.out; omega), ?_, HBL.out.setCell (by omega) _⟩
            have h1 := HS.out.skip
            have e1 : stepF F K 0 = putF (zext n f) k v (j + 1) := by
              rw [show (0 : Nat) = v / 2 ^ j % 2 by have := HBIT.out; have := EV.out; omega, HF.out, HK.out]; rfl
            rw [e1] at h1
            rw [show (k + (j + 1) + 7) / 8 = N by have := HN1.out; have := HK.out; have := E8.out; omega, show k + (j + 1) = K + 1 by have := HK.out; omega]
            exact h1
          case measure => simp [intOf]; omega
    · obtain rfl : j = m := by omega
      have hs3 : w.heap.size < wr.heap.size := by omega
      obtain ⟨k2, k3, k4, k5, k6, k7⟩ := two_blocks (HB2.out.trans HBL.out)
      go_wp2
      refine bodyPost_ret (v := .agg #[.slice A1 N c1, .int .i64 (K : Int)]) ?_ rfl ⟨A1, c1, N, HNN.out, by rw [HK.out], ?_, two_below (HB2.out.trans HBL.out) _ _⟩
      · simp [results, Try.results32, go_sem, k2, k3]
      · rw [← HF.out]
        exact ownsRow_lower (ownsRow_setCell_below (ownsRow_setCell_below HS.out.2 (a := ⟨w.heap.size + 1, 0, none⟩) (by simp) _) (a := ⟨w.heap.size + 1, 1, none⟩) (by simp) _) (by omega)
end Go.Proofs.Ytniekmnjnnkieaa
