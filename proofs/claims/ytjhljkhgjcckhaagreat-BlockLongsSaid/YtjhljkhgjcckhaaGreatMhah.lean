/-
  Layer 11 (block), the document's own: how long a block is; the kind that is shortest.
-/
import Derived.Test.YtjhljkhgjcckhaaGreatMhae
import Derived.Test.YtjhljkhgjcckhaaGreatMhag
namespace Go.Proofs.YtjhljkhgjcckhaaGreat
open Go.RowKit Go.ChangeShapes Go.WideShapes Go.ChangeAt Go.Joins
theorem szPen11L (x y : Value) : (Tryz.prog.info? 24).map (·.size) = some [x, y].length := by kernel_rfl
theorem szPen2 : (Tryz.prog.info? 24).map (·.size) = some 2 := by kernel_rfl
theorem zext_clean {g : Nat → Nat} {K L : Nat} (h : Clean g K) (hL : L = (K + 7) / 8) : zext L g = g := by
  funext j
  unfold zext
  by_cases hj : j < L
  · rw [if_pos hj]
  · rw [if_neg hj]
    by_cases e : K / 8 < j
    · exact (h.2.1 j e).symm
    · have h3 := h.2.2
      rw [show K % 8 = 0 by omega] at h3
      rw [show j = K / 8 by omega]
      have : (2 : Nat) ^ 0 = 1 := rfl
      omega
theorem putsF_take {f : Nat → Nat} {k : Nat} {P : List (Nat × Nat)} {i : Nat} (h : i < P.length) : putsF f k (P.take (i + 1)) = putF (putsF f k (P.take i)) (k + bitsT (P.take i)) (P.getD i num0).1 (P.getD i num0).2 ∧ bitsT (P.take (i + 1)) = bitsT (P.take i) + (P.getD i num0).2 := by
  have e : P.take (i + 1) = P.take i ++ [P.getD i num0] := by
    rw [List.take_add_one, List.getElem?_eq_getElem h, List.getD_eq_getElem?_getD, List.getElem?_eq_getElem h]; rfl
  rw [e, putsF_app, bitsT_app]
  exact ⟨rfl, rfl⟩
theorem num_mem {P : List (Nat × Nat)} {i : Nat} (h : i < P.length) : P.getD i num0 ∈ P := by
  rw [List.getD_eq_getElem?_getD, List.getElem?_eq_getElem h]; exact List.getElem_mem h
theorem penRange {w : World} {g : Nat} {x y : Value} {t : TypeId} (h : w.heap[g]? = some (.cells #[x, y] t (0, 0))) : w.rangeAt g 0 [x, y] := by
  intro i v hv
  rw [cell_of_row w g _ _ _ (0, 0) h]
  rcases i with _ | _ | i
  · simpa using hv
  · simpa using hv
  · simp at hv
theorem RdB.setRow {w : World} {B h n : Nat} {A : Option Addr} {f : Nat → Nat} (hr : RdB w B A n f) (cs : Array Value) (hne : ∀ g o, 0 < n → A = some ⟨g, o, none⟩ → g ≠ h) : RdB (w.setRow h cs) B A n f := by
  refine ⟨hr.1, fun h0 => ?_⟩
  obtain ⟨b, o, e, hb, hc⟩ := hr.2 h0
  refine ⟨b, o, e, hb, fun j hj => ?_⟩
  have h1 := hc j hj
  have h2 := setRow_other w h b cs (hne b o h0 e)
  simp only [World.cell?, h2] at h1 ⊢
  exact h1
/-- A row that is new, or the one that was there. -/
def NewR (A' A : Option Addr) (L n h : Nat) : Prop := ∀ g o, 0 < L → A' = some ⟨g, o, none⟩ → ((A' = A ∧ L = n) ∨ h ≤ g)
set_option maxRecDepth 100000 in
set_option maxHeartbeats 4000000 in
theorem rput11_any (w : World) (A : Option Addr) (n c : Nat) (f : Nat → Nat) (k : Nat) (A2 : Option Addr) (m c2 : Nat) (P : List (Nat × Nat)) (hr : RdB w w.heap.size A n f) (hA : A = none → c = 0) (hn : n = (k + 7) / 8) (hcl : Clean (zext n f) k) (hm : m = P.length) (hp : RdN w w.heap.size A2 P) (hm2 : m ≤ 1000000) (hok : ∀ x ∈ P, NumOk x) (hk : k + bitsT P ≤ 8388608) :
    Calls Tryz.prog 33 #[.agg #[.slice A n c, .int .i64 (k : Int)], .slice A2 m c2] w fun e w' => ∃ A' c' L, L = (k + bitsT P + 7) / 8 ∧ e = .returned (.agg #[.slice A' L c', .int .i64 ((k + bitsT P : Nat) : Int)]) ∧ RdB w' w'.heap.size A' L (putsF (zext n f) k P) ∧ (A' = none → c' = 0) ∧ Below w.heap.size w w' ∧ NewR A' A L n w.heap.size := by
  obtain ⟨h, hh⟩ : ∃ h, h = w.heap.size := ⟨_, rfl⟩
  obtain ⟨W1, hW1⟩ : ∃ W, W = (w.alloc (.cells #[.slice A n c, .int .i64 (k : Int)] 24)).alloc (.cells #[.slice none 0 0, .int .i64 0] 24) := ⟨_, rfl⟩
  have h0 : W1.heap[h]? = some (.cells #[.slice A n c, .int .i64 (k : Int)] 24 (0, 0)) := by rw [hW1, hh]; exact heap_alloc2_old w _ _
  have h1 : W1.heap[h + 1]? = some (.cells #[.slice none 0 0, .int .i64 0] 24 (0, 0)) := by rw [hW1, hh]; exact heap_alloc2_new w _ _
  have hb1 : Below h w W1 := by rw [hW1, hh]; exact ((Below.refl w.heap.size w).alloc (Nat.le_refl _) _).alloc (by simp) _
  have hs1 : h + 1 < W1.heap.size := (Array.getElem?_eq_some_iff.1 h1).1
  rw [← hh] at hr hp ⊢
  have HNE : Hid (∀ g o, 0 < n → A = some ⟨g, o, none⟩ → g ≠ h ∧ g ≠ h + 1) := Lib.hid fun g o h0 hA' => by
    obtain ⟨b, o', e, hb, _⟩ := hr.2 h0
    rw [hA'] at e
    injection e with e
    injection e with e1 _ _
    omega
  have HNR : Hid (NewR A A n n h) := Lib.hid fun _ _ _ _ => .inl ⟨rfl, rfl⟩
  have HR1 := Lib.hid ((hr.below hb1 (Nat.le_refl _)).more (show h ≤ W1.heap.size by omega))
  have H0 := Lib.hid h0; have H1 := Lib.hid h1; have HB1 := Lib.hid hb1; have HS1 := Lib.hid hs1; have HW1 := Lib.hid hW1; have HH := Lib.hid hh
  have HA := Lib.hid hA; have HN := Lib.hid hn; have HCL := Lib.hid hcl; have HM := Lib.hid hm; have HP := Lib.hid hp; have HOK := Lib.hid hok; have HK := Lib.hid hk
  clear hr hA hn hcl hm hp hok hk h0 h1 hb1 hs1 hW1 hh
  go_enter Tryz.func33, Tryz.ntmps33
  go_wp2_with (rw [← HW1.out, ← HH.out])
  go_loopw [5] (fun iv wr => ∃ (i : Nat) (At : Option Addr) (ct Lt K : Nat) (F : Nat → Nat), i ≤ m ∧ iv = .int .i64 (i : Int) ∧ Hid (K = k + bitsT (P.take i)) ∧ Hid (Lt = (K + 7) / 8) ∧ Hid (wr.heap[h]? = some (.cells #[.slice At Lt ct, .int .i64 (K : Int)] 24 (0, 0))) ∧ Hid (wr.heap[h + 1]? = some (.cells #[.slice none 0 0, .int .i64 0] 24 (0, 0))) ∧ Hid (RdB wr wr.heap.size At Lt F) ∧ Hid (At = none → ct = 0) ∧ Hid (zext Lt F = putsF (zext n f) k (P.take i)) ∧ Hid (Below h w wr) ∧ Hid (∀ g o, 0 < Lt → At = some ⟨g, o, none⟩ → g ≠ h ∧ g ≠ h + 1) ∧ Hid (NewR At A Lt n h)) (fun iv _ => m - (intOf iv).toNat)
  case atStart => exact ⟨0, A, c, n, k, f, Nat.zero_le _, rfl, Lib.hid rfl, HN, H0, H1, HR1, HA, Lib.hid rfl, HB1, HNE, HNR⟩
  case round =>
    obtain ⟨i, At, ct, Lt, K, F, hi, rfl, HKK, HLT, HV0, HV1, HRD, HAN, HZX, HBW, HNEW, HNRW⟩ := hrel
    have hclF : Clean (putsF (zext n f) k (P.take i)) K := by rw [HKK.out]; exact HCL.out.puts _
    have hh1 : h + 1 < wr.heap.size := (Array.getElem?_eq_some_iff.1 HV1.out).1
    have hKle : K ≤ 8388608 := by
      have h1 := bitsT_take_le P i
      have h2 := HKK.out
      have h3 := HK.out
      omega
    by_cases hlt : i < m
    · have hlti : (i : Int) < (m : Int) := by omega
      have hil : i < P.length := by rw [← HM.out]; exact hlt
      have htw : RdN wr h A2 P := HP.out.below HBW.out (Nat.le_refl _)
      obtain ⟨b, o, rfl, hbl, hc⟩ := htw.at hil
      obtain ⟨c0, c1⟩ := hc i hil
      obtain ⟨x1, x2⟩ := HOK.out _ (num_mem hil)
      obtain ⟨ht1, ht2⟩ := putsF_take (f := zext n f) (k := k) hil
      rw [← HKK.out] at ht1
      obtain ⟨⟨v, q⟩, ht⟩ : ∃ t, t = P.getD i num0 := ⟨_, rfl⟩
      rw [← ht] at c0 c1 x1 x2 ht1 ht2
      dsimp only at c0 c1 x1 x2 ht1 ht2
      have hK1 : K + q = k + bitsT (P.take (i + 1)) := by rw [ht2, HKK.out]; omega
      rw [← HZX.out] at hclF ht1
      have hbw : b < wr.heap.size := by omega
      have LA : ∀ V, (∃ p : After wr.heap.size wr, V = p.w) → V.rangeAt h 0 [.slice At Lt ct, .int .i64 (K : Int)] := by
        rintro V ⟨p, rfl⟩
        exact penRange ((p.h.block h (by omega)).trans HV0.out)
      have k0 : ∀ p : After wr.heap.size wr, p.w.cell? ⟨b, o + i * 2, none⟩ = some (.int .u32 (v : Int)) := fun p => (p.h.cell (p := ⟨b, o + i * 2, none⟩) hbw).trans c0
      have k1 : ∀ p : After wr.heap.size wr, p.w.cell? ⟨b, o + i * 2 + 1, none⟩ = some (.int .i64 (q : Int)) := fun p => (p.h.cell (p := ⟨b, o + i * 2 + 1, none⟩) hbw).trans c1
      have HSET : Hid (∀ V, Below wr.heap.size wr V → Calls Tryz.prog 53 #[.agg #[.slice At Lt ct, .int .i64 (K : Int)], .int .u32 (v : Int), .int .i64 (q : Int)] V fun e w' => ∃ A' c' L, L = (K + q + 7) / 8 ∧ e = .returned (.agg #[.slice A' L c', .int .i64 ((K + q : Nat) : Int)]) ∧
          w'.ownsRow V.heap.size 5 1 (.slice A' L c') L (bytesL L (putF (zext Lt F) K v q)) ∧ Below V.heap.size V w') :=
        Lib.hid fun V hV => set_any V At Lt ct F K q v ((HRD.out.below hV (Nat.le_refl _)).more hV.size) HAN.out hKle HLT.out hclF (by omega) x1
      have LLA := Lib.hid LA; have HT1 := Lib.hid ht1; have HK1 := Lib.hid hK1; have HCLF := Lib.hid (hclF.put v q); have HH1 := Lib.hid hh1
      clear LA ht1 ht2 hK1 hclF ht hc htw hil x1 x2 hbl hbw c0 c1 hh1
      go_wp2
      refine wp_split_after 11 wr.heap.size wr (Below.refl _ _) (by kernel_rfl) (by kernel_rfl) ?_
      simp only [List.take_succ_cons, List.take_zero, List.drop_succ_cons, List.drop_zero]
      repeat (first
        | (go_big_quiet_want; with_reducible refine quiet_load_row _ _ rfl _ _ rfl _ _ LLA.out Tryz.underlying24 rfl (szPen11L _ _) ?_; go_big_quiet_on; simp only [Act.put, List.setIfInBounds_toArray, List.set_cons_zero, List.set_cons_succ])
        | (go_big_quiet_step (fail)))
      refine wpQuiet_nil ?_
      rintro V ⟨⟨V, hV⟩, rfl⟩
      go_wp2_with fail
      refine (HSET.out V hV).mono ?_
      rintro e w5 ⟨A5, c5, L5, hL5, rfl, ho5, hb5⟩
      have hb15 : Below wr.heap.size wr w5 := hV.trans (hb5.mono hV.size)
      have hby := ByR.of_own ho5 HCLF.out.1
      have hv0 : w5.heap[h]? = some (.cells #[.slice At Lt ct, .int .i64 (K : Int)] 24 (0, 0)) := (hb15.block h (by have := HH1.out; omega)).trans HV0.out
      have hv1 : w5.heap[h + 1]? = some (.cells #[.slice none 0 0, .int .i64 0] 24 (0, 0)) := (hb15.block (h + 1) HH1.out).trans HV1.out
      have hne : ∀ g o, 0 < L5 → A5 = some ⟨g, o, none⟩ → (g ≠ h ∧ g ≠ h + 1) ∧ h ≤ g := fun g o h0 hA5 => by
        obtain ⟨g', cap, hv, hge, _⟩ := ho5.form h0
        injection hv with hv _ _
        rw [hA5] at hv
        injection hv with hv
        injection hv with e1 _ _
        have := hV.size; have := HH1.out
        exact ⟨by omega, by omega⟩
      obtain ⟨K5, hK5⟩ : ∃ K5, K5 = K + q := ⟨_, rfl⟩
      rw [← hK5] at hL5 ⊢
      have hKP := HK1.out
      have hcl5 := HCLF.out
      rw [← hK5] at hKP hcl5
      obtain ⟨U, hU⟩ : ∃ U, U = w5.setRow h #[.slice A5 L5 c5, .int .i64 (K5 : Int)] := ⟨_, rfl⟩
      have hU0 : U.heap[h]? = some (.cells #[.slice A5 L5 c5, .int .i64 (K5 : Int)] 24 (0, 0)) := by rw [hU]; exact setRow_heap _ _ _ _ _ _ hv0
      have hU1 : U.heap[h + 1]? = some (.cells #[.slice none 0 0, .int .i64 0] 24 (0, 0)) := by rw [hU, setRow_other _ _ _ _ (by omega)]; exact hv1
      have hUr : RdB U U.heap.size A5 L5 (putF (zext Lt F) K v q) := by
        rw [hU, size_setRow]; exact hby.1.setRow _ fun g o h0 e => (hne g o h0 e).1.1
      have hUb : Below h w U := by rw [hU]; exact below_row9 (HBW.out.trans (hb15.mono (by have := HH1.out; omega))) (Nat.le_refl _) _
      have hzx : zext L5 (putF (zext Lt F) K v q) = putsF (zext n f) k (P.take (i + 1)) := by rw [zext_clean hcl5 hL5]; exact HT1.out.symm
      have HU := Lib.hid hU; have HU0 := Lib.hid hU0; have HU1 := Lib.hid hU1; have HUR := Lib.hid hUr; have HUB := Lib.hid hUb; have HZX5 := Lib.hid hzx; have HNE5 := Lib.hid fun g o h0 e => (hne g o h0 e).1; have HNR5 : Hid (NewR A5 A L5 n h) := Lib.hid fun g o h0 e => .inr (hne g o h0 e).2; have HAN5 := Lib.hid hby.2.1; have HL5 := Lib.hid hL5; have HKP := Lib.hid hKP; have HV05 := Lib.hid hv0
      clear hb15 hby hv0 hv1 hne hK5 hKP hcl5 hU hU0 hU1 hUr hUb hzx hL5 ho5 hb5 hV k0 k1
      go_wp2_with (refine wpList_store_rowTo rfl _ _ _ rfl rfl h #[.slice A5 L5 c5, .int .i64 (K5 : Int)] rfl rfl 24 #[.slice At Lt ct, .int .i64 (K : Int)] HV05.out szPen2 rfl (by simp [Value.oneCell']) ?_; rw [← HU.out])
      go_roundw
      case rel => exact ⟨i + 1, A5, c5, L5, K5, _, by omega, by go_num, HKP, HL5, HU0, HU1, HUR, HAN5, HZX5, HUB, HNE5, HNR5⟩
      case measure => simp [intOf]; omega
    · obtain rfl : i = m := by omega
      have hlti : ¬ (i : Int) < (i : Int) := by omega
      have htl : P.take i = P := List.take_of_length_le (by rw [← HM.out]; exact Nat.le_refl _)
      have hkk := HKK.out
      have hzx := HZX.out
      rw [htl] at hkk hzx hclF
      have hlt2 := HLT.out
      have hF : ∀ j, F j < 256 := HRD.out.1
      have hrd : RdB wr wr.heap.size At Lt (putsF (zext n f) k P) := ⟨hclF.1, fun h0 => by
        obtain ⟨b, o, e, hb, hc⟩ := HRD.out.2 h0
        refine ⟨b, o, e, hb, fun j hj => ?_⟩
        rw [hc j hj, ← hzx]; unfold zext; rw [if_pos hj]⟩
      obtain ⟨U, hU⟩ : ∃ U, U = wr.setRow (h + 1) #[.slice At Lt ct, .int .i64 (K : Int)] := ⟨_, rfl⟩
      have hU1 : U.heap[h + 1]? = some (.cells #[.slice At Lt ct, .int .i64 (K : Int)] 24 (0, 0)) := by rw [hU]; exact setRow_heap _ _ _ _ _ _ HV1.out
      have hUr : RdB U U.heap.size At Lt (putsF (zext n f) k P) := by
        rw [hU, size_setRow]; exact hrd.setRow _ fun g o h0 e => (HNEW.out g o h0 e).2
      have hUb : Below h w U := by rw [hU]; exact below_row9 HBW.out (by omega) _
      have HU := Lib.hid hU; have HU1 := Lib.hid hU1; have HUR := Lib.hid hUr; have HUB := Lib.hid hUb; have HKF := Lib.hid hkk; have HLF := Lib.hid hlt2
      clear htl hkk hzx hclF hlt2 hF hrd hU hU1 hUr hUb hlt hh1
      go_wp2_with (first
        | (refine wpList_load_row rfl _ _ rfl h rfl _ #[.slice At Lt ct, .int .i64 (K : Int)] (0, 0) _ HV0.out Tryz.underlying24 rfl szPen2 ?_)
        | (refine wpList_store_rowTo rfl _ _ _ rfl rfl (h + 1) #[.slice At Lt ct, .int .i64 (K : Int)] rfl rfl 24 #[.slice none 0 0, .int .i64 0] HV1.out szPen2 rfl (by simp [Value.oneCell']) ?_; rw [← HU.out]))
      have e1 := HKF.out
      have e2 := HLF.out
      rw [e1] at e2
      refine bodyPost_ret (results_cell_row rfl _ _ (h + 1) _ _ (0, 0) _ rfl HU1.out Tryz.underlying24 rfl szPen2) rfl ?_
      exact ⟨At, ct, by rw [e2, e1, Int.natCast_add], by rw [← e2]; exact HUR.out, HAN.out, HUB.out, by rw [← e2]; exact HNRW.out⟩
end Go.Proofs.YtjhljkhgjcckhaaGreat

namespace Go.Proofs.YtjhljkhgjcckhaaGreat
open Go.RowKit Go.ChangeShapes Go.WideShapes Go.ChangeAt Go.Joins
theorem pad_lt {a j : Nat} (hj : j ≤ padN a) : ((a + 3 + j) % 8 ≠ 0) ↔ j < padN a := by unfold padN at *; omega
theorem rep_snoc (j : Nat) : List.replicate j ((0, 1) : Nat × Nat) ++ [(0, 1)] = List.replicate (j + 1) (0, 1) := (List.replicate_succ').symm
set_option maxRecDepth 100000 in
set_option maxHeartbeats 8000000 in
theorem rnums11_last (w : World) (a k : Nat) (A : Option Addr) (n c : Nat) (r : Nat → Nat) (A2 : Option Addr) (m c2 : Nat) (l : List Tok) (ha : a ≤ 7) (hk : k ≤ 2) (hr : RdB w w.heap.size A n r) (hn : n ≤ 65535) (hm : m = l.length) (hrt : RdT w w.heap.size A2 l) (hm2 : m ≤ 65535) (hok : ∀ t ∈ l, mayT t = true ∧ t.x < 256) :
    Calls Tryz.prog 31 #[.int .i64 (a : Int), .int .u8 (k : Int), .slice A n c, .slice A2 m c2, .bool true] w fun e w' => ∃ A' n' c', e = .returned (.slice A' n' c') ∧ NuR w' w'.heap.size A' n' c' (blkP a k n r l true) ∧ Below w.heap.size w w' := by
  have mk : (k : Int) % 4294967296 = (k : Int) := by omega
  have wk : IntKind.u32.wrap (k : Int) = (k : Int) := by rw [IntKind.wrap_u32]; omega
  obtain ⟨W1, hW1⟩ : ∃ W, W = w.alloc (.cells #[.int .u32 1, .int .i64 1, .int .u32 (k : Int), .int .i64 2] 102) := ⟨_, rfl⟩
  have ho1 : W1.ownsRow w.heap.size 102 2 (.slice (some ⟨w.heap.size, 0, none⟩) 2 2) 2 (numsL [(1, 1), (k, 2)]) := by rw [hW1]; exact own_litN w [(1, 1), (k, 2)] 2 rfl (by omega) #[.int .u32 1, .int .i64 1, .int .u32 (k : Int), .int .i64 2] rfl
  have hb1 : Below w.heap.size w W1 := by rw [hW1]; exact (Below.refl _ _).alloc (Nat.le_refl _) _
  have hll : l.length ≤ 100000 := by omega
  have HW1 := Lib.hid hW1; have HO1 := Lib.hid ho1; have HB1 := Lib.hid hb1; have HR := Lib.hid hr; have HM := Lib.hid hm; have HT := Lib.hid hrt; have HOK := Lib.hid hok; have HLL := Lib.hid hll
  have hrt1 := (hrt.below hb1 (Nat.le_refl _)).more hb1.size
  have HT1 := Lib.hid hrt1
  clear hW1 ho1 hb1 hr hm hrt hok hll hrt1
  by_cases k1 : k = 1
  · have d1 : ((k : Int) == 1) = true := by simp [k1]
    have hblk : blkP a k n r l true = [(1, 1), (k, 2)] ++ toksP fixA 288 fixB 32 l := by unfold blkP; rw [if_pos k1]; rfl
    have HBLK := Lib.hid hblk
    clear hblk k1
    go_enter Tryz.func31, Tryz.ntmps31
    go_wp2_with (first
      | (refine wpList_buildTo rfl 102 #[(0, .const (.int .u32 0)), (1, .const (.int .i64 1))] rfl (some 17) rfl #[.int .u32 0, .int .i64 1] ?_ ?_; focus (simpa [Act.eval] using built_num 0 1))
      | (refine wpList_buildTo rfl 102 #[(0, .tmp 19), (1, .const (.int .i64 2))] rfl (some 20) rfl #[.int .u32 (k : Int), .int .i64 2] ?_ ?_; focus (simpa [Act.eval] using built_num (k : Int) 2))
      | fail)
    rw [← HW1.out]
    refine (rlongs11_any W1).mono ?_
    rintro e w2 ⟨rfl, hrow2, hb2⟩
    obtain ⟨g1, hg1⟩ : ∃ g, g = W1.heap.size := ⟨_, rfl⟩
    rw [← hg1] at hrow2 ⊢
    have HROW2 := Lib.hid hrow2; have HB2 := Lib.hid hb2
    clear hrow2 hb2 hg1
    go_wp2_with fail
    refine (rfars11_any w2).mono ?_
    rintro e w3 ⟨rfl, hrow3, hb3⟩
    have hr2 := HROW2.out.below hb3 HROW2.out.lt
    obtain ⟨g2, hg2⟩ : ∃ g, g = w2.heap.size := ⟨_, rfl⟩
    rw [← hg2] at hrow3 ⊢
    have hb13 : Below W1.heap.size W1 w3 := HB2.out.trans (hb3.mono HB2.out.size)
    have htk := rtoks11_any w3 A2 m c2 l (some ⟨g1, 0, none⟩) 288 288 fixA (some ⟨g2, 0, none⟩) 32 32 fixB HM.out ((HT1.out.below hb13 (Nat.le_refl _)).more hb13.size) (hr2.rd (fun j => by have := fixA_le j; omega)) (hrow3.rd (fun j => by have := fixB_le j; omega)) (by omega) (by omega) (by omega) fixA_le fixB_le allA allB (by omega) (tokOk_fix HOK.out)
    have HTK := Lib.hid htk; have HB13 := Lib.hid hb13
    clear htk hb13 hr2 hrow3 hb3 hg2
    go_wp2_with fail
    refine HTK.out.mono ?_
    rintro e w4 ⟨A4, n4, c4, rfl, hnu, hb4⟩
    have hb14 : Below W1.heap.size W1 w4 := HB13.out.trans (hb4.mono HB13.out.size)
    have hb04 : Below w.heap.size w w4 := HB1.out.trans (hb14.mono HB1.out.size)
    have hlen := toksP_len fixA 288 fixB 32 l
    have hn4 := hnu.1
    obtain ⟨A', c', w5, hrun, hown, hb5, -⟩ := run_catN_g w4 w.heap.size w4.heap.size (some ⟨w.heap.size, 0, none⟩) 2 2 _ (own_keepG HO1.out hb14) A4 n4 c4 _ hnu.1 hnu.2.1 hnu.2.2.1 (by have := HLL.out; omega) hb04.size
    rw [← HBLK.out] at hown
    have HRUN := Lib.hid hrun; have HN := Lib.hid (NuR.of_own hown); have HB5 := Lib.hid (hb04.trans hb5)
    clear hrun hown hb5 hb04 hb14 hlen hn4 hnu hb4
    go_wp2_with (at_builtin; refine wpList_append_run rfl (.tmp 28) (.tmp 32) 67 rfl (.slice (some ⟨w.heap.size, 0, none⟩) 2 2) (.slice A4 n4 c4) (.slice A' (2 + n4) c') w5 rfl rfl HRUN.out ?_)
    go_ret
    exact ⟨A', 2 + n4, c', rfl, HN.out, HB5.out⟩
  have d1 : ((k : Int) == 1) = false := by simp; omega
  by_cases k2 : k = 2
  · have d2 : ((k : Int) == 2) = true := by simp [k2]
    have hblk : blkP a k n r l true = ([(1, 1), (k, 2)] ++ dynP l) ++ toksP (lnA l) (nA l) (lnB l) (nB l) l := by unfold blkP; rw [if_neg k1, if_pos k2, List.append_assoc]; rfl
    have HBLK := Lib.hid hblk
    have hdy := rdyn11_any W1 A2 m c2 l HM.out HT1.out (by omega) HOK.out
    have hdl := dynP_len l HLL.out
    obtain ⟨dA15, dB15, dAall, dBall, dA1, dA2, dB1, dB2, -⟩ := dyn_ok l (by have := HLL.out; omega)
    have htok := tokOk_dyn HLL.out HOK.out
    have HA15 := Lib.hid dA15; have HB15 := Lib.hid dB15; have HAALL := Lib.hid dAall; have HBALL := Lib.hid dBall; have HTOK := Lib.hid htok
    have htl := toksP_len (lnA l) (nA l) (lnB l) (nB l) l
    obtain ⟨TP, hTP⟩ : ∃ T, T = toksP (lnA l) (nA l) (lnB l) (nB l) l := ⟨_, rfl⟩
    obtain ⟨DP, hDP⟩ : ∃ T, T = dynP l := ⟨_, rfl⟩
    rw [← hDP] at hdy hdl hblk
    rw [← hTP] at htl hblk
    have HTL := Lib.hid htl
    obtain ⟨FA, hFA⟩ : ∃ F, F = lnA l := ⟨_, rfl⟩
    obtain ⟨FB, hFB⟩ : ∃ F, F = lnB l := ⟨_, rfl⟩
    obtain ⟨NA, hNA⟩ : ∃ F, F = nA l := ⟨_, rfl⟩
    obtain ⟨NB, hNB⟩ : ∃ F, F = nB l := ⟨_, rfl⟩
    rw [← hFA, ← hFB, ← hNA, ← hNB] at hdy hTP
    rw [← hFA] at HA15
    rw [← hFB] at HB15
    rw [← hFA, ← hNA] at HAALL
    rw [← hFB, ← hNB] at HBALL
    rw [← hNA, ← hNB] at HTOK
    rw [← hNA] at dA1 dA2
    rw [← hNB] at dB1 dB2
    have HBLK := Lib.hid hblk; have HDY := Lib.hid hdy; have HTPE := Lib.hid hTP; have HDL := Lib.hid hdl
    clear hblk k1 k2 hdy hTP htl dA15 dB15 dAall dBall htok hFA hFB hNA hNB hDP hdl
    go_enter Tryz.func31, Tryz.ntmps31
    go_wp2_with (first
      | (refine wpList_buildTo rfl 102 #[(0, .const (.int .u32 0)), (1, .const (.int .i64 1))] rfl (some 17) rfl #[.int .u32 0, .int .i64 1] ?_ ?_; focus (simpa [Act.eval] using built_num 0 1))
      | (refine wpList_buildTo rfl 102 #[(0, .tmp 19), (1, .const (.int .i64 2))] rfl (some 20) rfl #[.int .u32 (k : Int), .int .i64 2] ?_ ?_; focus (simpa [Act.eval] using built_num (k : Int) 2))
      | fail)
    rw [← HW1.out]
    refine HDY.out.mono ?_
    rintro e w2 ⟨ga, gb, A2n, n2, c2n, rfl, hra, hrb, hnu, hb2, hga, hgb⟩
    have hb02 : Below w.heap.size w w2 := HB1.out.trans (hb2.mono HB1.out.size)
    have hn2 := hnu.1
    obtain ⟨A3, c3, w3, run3, own3, hb3, keep3⟩ := run_catN_g w2 w.heap.size w2.heap.size (some ⟨w.heap.size, 0, none⟩) 2 2 _ (own_keepG HO1.out hb2) A2n n2 c2n _ hnu.1 hnu.2.1 hnu.2.2.1 (by have := HDL.out; omega) hb02.size
    have hgal : ga < w2.heap.size := by
      obtain ⟨b, o, e, h, _⟩ := hra.2 (by omega)
      injection e with e
      injection e with e1 _ _
      rw [e1]; exact h
    have hgbl : gb < w2.heap.size := by
      obtain ⟨b, o, e, h, _⟩ := hrb.2 (by omega)
      injection e with e
      injection e with e1 _ _
      rw [e1]; exact h
    have hra3 : RdB w3 w3.heap.size (some ⟨ga, 0, none⟩) NA FA := hra.keep (keep3 ga hgal (own_out HO1.out hga)) (by have := hb3.size; omega)
    have hrb3 : RdB w3 w3.heap.size (some ⟨gb, 0, none⟩) NB FB := hrb.keep (keep3 gb hgbl (own_out HO1.out hgb)) (by have := hb3.size; omega)
    have hb03 : Below w.heap.size w w3 := hb02.trans hb3
    have htk := rtoks11_any w3 A2 m c2 l (some ⟨ga, 0, none⟩) NA 286 FA (some ⟨gb, 0, none⟩) NB 30 FB HM.out ((HT.out.below hb03 (Nat.le_refl _)).more hb03.size) hra3 hrb3 (by omega) (by omega) (by omega) HA15.out HB15.out HAALL.out HBALL.out (by omega) HTOK.out
    rw [← HTPE.out] at htk
    have HTK := Lib.hid htk; have RUN3 := Lib.hid run3; have OWN3 := Lib.hid own3; have HB03 := Lib.hid hb03
    have hn2b : n2 ≤ 700 := by have := HDL.out; omega
    clear htk run3 own3 hb03 hb3 keep3 hgal hgbl hra3 hrb3 hb02 hra hrb hnu hb2 hga hgb hn2
    go_wp2_with (first
      | (at_builtin; refine wpList_append_run rfl (.tmp 42) (.tmp 43) 67 rfl (.slice (some ⟨w.heap.size, 0, none⟩) 2 2) (.slice A2n n2 c2n) (.slice A3 (2 + n2) c3) w3 rfl rfl RUN3.out ?_)
      | fail)
    refine HTK.out.mono ?_
    rintro e w4 ⟨A4, n4, c4, rfl, hnu, hb4⟩
    have hb04 : Below w.heap.size w w4 := HB03.out.trans (hb4.mono HB03.out.size)
    have hn4 := hnu.1
    obtain ⟨A', c', w5, hrun, hown, hb5, -⟩ := run_catN_g w4 w.heap.size w4.heap.size A3 (2 + n2) c3 _ (own_keepG OWN3.out hb4) A4 n4 c4 _ hnu.1 hnu.2.1 hnu.2.2.1 (by have := HLL.out; have := HTL.out; omega) hb04.size
    rw [← HBLK.out] at hown
    have HRUN := Lib.hid hrun; have HN := Lib.hid (NuR.of_own hown); have HB5 := Lib.hid (hb04.trans hb5)
    clear hrun hown hb5 hb04 hn4 hnu hb4
    go_wp2_with (at_builtin; refine wpList_append_run rfl (.tmp 45) (.tmp 49) 67 rfl (.slice A3 (2 + n2) c3) (.slice A4 n4 c4) (.slice A' (2 + n2 + n4) c') w5 rfl rfl HRUN.out ?_)
    go_ret
    exact ⟨A', 2 + n2 + n4, c', rfl, HN.out, HB5.out⟩
  have d2 : ((k : Int) == 2) = false := by simp; omega
  have hblk : blkP a k n r l true = (([(1, 1), (k, 2)] ++ List.replicate (padN a) (0, 1)) ++ [(n, 16), (65535 - n, 16)]) ++ ((List.range n).map fun i => (r i, 8)) := by unfold blkP stoP; rw [if_neg k1, if_neg k2]; simp only [List.append_assoc]; rfl
  have hpad : padN a ≤ 7 := by unfold padN; omega
  have hpl : ∀ j, j ≤ padN a → ((a + 3 + j) % 8 ≠ 0 ↔ j < padN a) := fun j hj => pad_lt hj
  obtain ⟨PD, hPD⟩ : ∃ x, x = padN a := ⟨_, rfl⟩
  rw [← hPD] at hblk hpad hpl
  have HBLK := Lib.hid hblk; have HPL := Lib.hid hpl
  have mn : (n : Int) % 4294967296 = (n : Int) := by omega
  have wn : IntKind.u32.wrap (n : Int) = (n : Int) := by rw [IntKind.wrap_u32]; omega
  obtain ⟨z, hz⟩ : ∃ z, z = 65535 - n := ⟨_, rfl⟩
  have ez : (65535 : Int) - (n : Int) = (z : Int) := by omega
  have mz : (z : Int) % 4294967296 = (z : Int) := by omega
  have wz : IntKind.u32.wrap (z : Int) = (z : Int) := by rw [IntKind.wrap_u32]; omega
  have HZ := Lib.hid hz
  obtain ⟨s, hs⟩ : ∃ s, s = a + 3 := ⟨_, rfl⟩
  have es : (a : Int) + 3 = (s : Int) := by omega
  have HS := Lib.hid hs
  have hs10 : s ≤ 10 := by omega
  clear hblk hpl k1 k2 hPD hz hs
  go_enter Tryz.func31, Tryz.ntmps31
  go_wp2_with (first
    | (refine wpList_buildTo rfl 102 #[(0, .const (.int .u32 0)), (1, .const (.int .i64 1))] rfl (some 17) rfl #[.int .u32 0, .int .i64 1] ?_ ?_; focus (simpa [Act.eval] using built_num 0 1))
    | (refine wpList_buildTo rfl 102 #[(0, .tmp 19), (1, .const (.int .i64 2))] rfl (some 20) rfl #[.int .u32 (k : Int), .int .i64 2] ?_ ?_; focus (simpa [Act.eval] using built_num (k : Int) 2))
    | fail)
  go_loopw [11, 15] (fun ov iv wr => ∃ (j p i : Nat) (At : Option Addr) (ct : Nat), j ≤ PD ∧ p = 2 + j ∧ i = s + j ∧ ov = .slice At p ct ∧ iv = .int .i64 (i : Int) ∧ Hid (wr.ownsRow w.heap.size 102 2 (.slice At p ct) p (numsL ([(1, 1), (k, 2)] ++ List.replicate j (0, 1)))) ∧ Hid (Below w.heap.size w wr)) (fun _ iv _ => s + PD - (intOf iv).toNat)
  case atStart => exact ⟨0, 2, s, some ⟨w.heap.size, 0, none⟩, 2, Nat.zero_le _, rfl, rfl, rfl, rfl, Lib.hid (by rw [← HW1.out]; exact HO1.out), Lib.hid (by rw [← HW1.out]; exact HB1.out)⟩
  case round =>
    obtain ⟨j, p, i, At, ct, hj, hp, hi, rfl, rfl, HO, HB⟩ := hrel
    have hpl := HPL.out j hj
    rw [← HS.out, ← hi] at hpl
    have hp9 : p ≤ 9 := by omega
    have HP := Lib.hid hp; have HI := Lib.hid hi
    have hi17 : i ≤ 17 := by omega
    by_cases hlt : j < PD
    · have hne := hpl.2 hlt
      have dn : (((i : Int) % 8) != 0) = true := by simp; omega
      obtain ⟨A', c', w', hr2, ho2, hb2⟩ := run_oneN wr w.heap.size At p ct _ HO.out (0, 1) (by omega) HB.out.size
      rw [List.append_assoc, rep_snoc] at ho2
      have HR2 := Lib.hid (show (Builtin.append_ #[67, 67] 67 #[.slice At p ct, .slice (some ⟨wr.heap.size, 0, none⟩) 1 1]).run Tryz.prog (wr.alloc (.cells #[.int .u32 0, .int .i64 1] 102)) = .ok (.slice A' (p + 1) c') w' from hr2)
      have HO2 := Lib.hid ho2; have HB2 := Lib.hid (HB.out.trans hb2)
      have hp1 : p + 1 = 2 + (j + 1) := by omega
      have hi1 : i + 1 = s + (j + 1) := by omega
      have HP1 := Lib.hid hp1; have HI1 := Lib.hid hi1
      have hmeas : s + PD - (i + 1) < s + PD - i := by omega
      clear hr2 ho2 hb2 hp1 hi1 hpl hne hp hi
      go_wp2_with (first
        | (refine wpList_buildTo rfl 102 #[(0, .const (.int .u32 0)), (1, .const (.int .i64 1))] rfl (some 59) rfl #[.int .u32 0, .int .i64 1] ?_ ?_; focus (simpa [Act.eval] using built_num 0 1))
        | (at_builtin; refine wpList_append_run rfl (.tmp 58) (.tmp 60) 67 rfl (.slice At p ct) (.slice (some ⟨wr.heap.size, 0, none⟩) 1 1) (.slice A' (p + 1) c') w' rfl rfl HR2.out ?_))
      go_roundw
      case rel => exact ⟨j + 1, p + 1, i + 1, A', c', by omega, HP1.out, HI1.out, rfl, by go_num, HO2, HB2⟩
      case measure => simpa [intOf] using hmeas
    · obtain rfl : j = PD := by omega
      have heq : i % 8 = 0 := by
        rcases Nat.eq_zero_or_pos (i % 8) with h | h
        · exact h
        · exact absurd (hpl.1 (by omega)) (by omega)
      have dn : (((i : Int) % 8) != 0) = false := by simp; omega
      obtain ⟨A3, c3, w3, run3, own3, hb3⟩ := run_moreN wr w.heap.size At p ct _ HO.out [(n, 16), (z, 16)] 2 rfl #[.int .u32 (n : Int), .int .i64 16, .int .u32 (z : Int), .int .i64 16] rfl (by omega) HB.out.size
      have RUN3 := Lib.hid run3; have HB3 := Lib.hid (HB.out.trans hb3)
      have own3' : w3.ownsRow w.heap.size 102 2 (.slice A3 (p + 2) c3) (p + 2) (numsL ((([(1, 1), (k, 2)] ++ List.replicate j (0, 1)) ++ [(n, 16), (z, 16)]) ++ ((List.range 0).map fun i => (r i, 8)))) := by
        rw [List.range_zero, List.map_nil, List.append_nil]; exact own3
      have OWN3 := Lib.hid own3'
      have hblk := HBLK.out
      rw [← HZ.out] at hblk
      obtain ⟨L1, hL1⟩ : ∃ L, L = ([(1, 1), (k, 2)] ++ List.replicate j (0, 1)) ++ [(n, 16), (z, 16)] := ⟨_, rfl⟩
      rw [← hL1] at OWN3 hblk
      have HBLK2 := Lib.hid hblk
      clear run3 own3 own3' hb3 heq hpl hlt hL1 hblk hp hi
      go_wp2_with (first
        | (refine wpList_buildTo rfl 102 #[(0, .tmp 65), (1, .const (.int .i64 16))] rfl (some 66) rfl #[.int .u32 (n : Int), .int .i64 16] ?_ ?_; focus (simpa [Act.eval] using built_num (n : Int) 16))
        | (refine wpList_buildTo rfl 102 #[(0, .tmp 70), (1, .const (.int .i64 16))] rfl (some 71) rfl #[.int .u32 (z : Int), .int .i64 16] ?_ ?_; focus (simpa [Act.eval] using built_num (z : Int) 16))
        | (at_builtin; refine wpList_append_run rfl (.tmp 62) (.tmp 72) 67 rfl (.slice At p ct) (.slice (some ⟨wr.heap.size, 0, none⟩) 2 2) (.slice A3 (p + 2) c3) w3 rfl rfl RUN3.out ?_))
      obtain ⟨q0, hq0⟩ : ∃ q, q = p + 2 := ⟨_, rfl⟩
      have hq11 : q0 ≤ 11 := by omega
      rw [← hq0] at OWN3 ⊢
      clear hq0
      go_loopw [11, 16] (fun ov iv wr => ∃ (i p : Nat) (At : Option Addr) (ct : Nat), i ≤ n ∧ p = q0 + i ∧ ov = .slice At p ct ∧ iv = .int .i64 (i : Int) ∧ Hid (wr.ownsRow w.heap.size 102 2 (.slice At p ct) p (numsL (L1 ++ ((List.range i).map fun i => (r i, 8))))) ∧ Hid (Below w.heap.size w wr)) (fun _ iv _ => n - (intOf iv).toNat)
      case atStart => exact ⟨0, q0, A3, c3, Nat.zero_le _, rfl, rfl, rfl, OWN3, HB3⟩
      case round =>
        obtain ⟨i5, p5, A5, c5, hi5, hp5, rfl, rfl, HO5, HB5⟩ := hrel
        by_cases hlt5 : i5 < n
        · have hlti5 : (i5 : Int) < (n : Int) := by omega
          obtain ⟨b, o, rfl, _, hcc⟩ := (HR.out.below HB5.out (Nat.le_refl _)).2 (by omega)
          have c0 := hcc i5 hlt5
          have hx8 := HR.out.1 i5
          obtain ⟨A', c', w', hr3, ho3, hb3'⟩ := run_oneN wr w.heap.size A5 p5 c5 _ HO5.out (r i5, 8) (by omega) HB5.out.size
          have hlist : (L1 ++ ((List.range i5).map fun i => (r i, 8))) ++ [(r i5, 8)] = L1 ++ ((List.range (i5 + 1)).map fun i => (r i, 8)) := by
            rw [List.range_succ, List.map_append, List.append_assoc]; rfl
          rw [hlist] at ho3
          obtain ⟨x, hx⟩ : ∃ x, x = r i5 := ⟨_, rfl⟩
          dsimp only at hr3
          rw [← hx] at c0 hr3 hx8
          have HR3 := Lib.hid (show (Builtin.append_ #[67, 67] 67 #[.slice A5 p5 c5, .slice (some ⟨wr.heap.size, 0, none⟩) 1 1]).run Tryz.prog (wr.alloc (.cells #[.int .u32 (x : Int), .int .i64 8] 102)) = .ok (.slice A' (p5 + 1) c') w' from hr3)
          have HO3' := Lib.hid ho3; have HB3' := Lib.hid (HB5.out.trans hb3')
          have wx : IntKind.u32.wrap (x : Int) = (x : Int) := by rw [IntKind.wrap_u32]; omega
          have mx : (x : Int) % 4294967296 = (x : Int) := by omega
          have hp5' : p5 + 1 = q0 + (i5 + 1) := by omega
          have HP5 := Lib.hid hp5'
          clear hr3 ho3 hb3' hlist hx hcc hp5' hp5
          go_wp2_with (first
            | (refine wpList_buildTo rfl 102 #[(0, .tmp 85), (1, .const (.int .i64 8))] rfl (some 86) rfl #[.int .u32 (x : Int), .int .i64 8] ?_ ?_; focus (simpa [Act.eval] using built_num (x : Int) 8))
            | (at_builtin; refine wpList_append_run rfl (.tmp 80) (.tmp 87) 67 rfl (.slice A5 p5 c5) (.slice (some ⟨wr.heap.size, 0, none⟩) 1 1) (.slice A' (p5 + 1) c') w' rfl rfl HR3.out ?_))
          go_roundw
          case rel => exact ⟨i5 + 1, p5 + 1, A', c', by omega, HP5.out, rfl, by go_num, HO3', HB3'⟩
          case measure => simp [intOf]; omega
        · obtain rfl : i5 = n := by omega
          have hlti5 : ¬ (i5 : Int) < (i5 : Int) := by omega
          have hown := HO5.out
          rw [← HBLK2.out] at hown
          have HN := Lib.hid (NuR.of_own hown)
          clear hown hp5 hlt5
          go_wp2
          go_ret
          exact ⟨A5, p5, c5, rfl, HN.out, HB5.out⟩
set_option maxRecDepth 100000 in
set_option maxHeartbeats 8000000 in
theorem rnums11_more (w : World) (a k : Nat) (A : Option Addr) (n c : Nat) (r : Nat → Nat) (A2 : Option Addr) (m c2 : Nat) (l : List Tok) (ha : a ≤ 7) (hk : k ≤ 2) (hr : RdB w w.heap.size A n r) (hn : n ≤ 65535) (hm : m = l.length) (hrt : RdT w w.heap.size A2 l) (hm2 : m ≤ 65535) (hok : ∀ t ∈ l, mayT t = true ∧ t.x < 256) :
    Calls Tryz.prog 31 #[.int .i64 (a : Int), .int .u8 (k : Int), .slice A n c, .slice A2 m c2, .bool false] w fun e w' => ∃ A' n' c', e = .returned (.slice A' n' c') ∧ NuR w' w'.heap.size A' n' c' (blkP a k n r l false) ∧ Below w.heap.size w w' := by
  have mk : (k : Int) % 4294967296 = (k : Int) := by omega
  have wk : IntKind.u32.wrap (k : Int) = (k : Int) := by rw [IntKind.wrap_u32]; omega
  obtain ⟨W1, hW1⟩ : ∃ W, W = w.alloc (.cells #[.int .u32 0, .int .i64 1, .int .u32 (k : Int), .int .i64 2] 102) := ⟨_, rfl⟩
  have ho1 : W1.ownsRow w.heap.size 102 2 (.slice (some ⟨w.heap.size, 0, none⟩) 2 2) 2 (numsL [(0, 1), (k, 2)]) := by rw [hW1]; exact own_litN w [(0, 1), (k, 2)] 2 rfl (by omega) #[.int .u32 0, .int .i64 1, .int .u32 (k : Int), .int .i64 2] rfl
  have hb1 : Below w.heap.size w W1 := by rw [hW1]; exact (Below.refl _ _).alloc (Nat.le_refl _) _
  have hll : l.length ≤ 100000 := by omega
  have HW1 := Lib.hid hW1; have HO1 := Lib.hid ho1; have HB1 := Lib.hid hb1; have HR := Lib.hid hr; have HM := Lib.hid hm; have HT := Lib.hid hrt; have HOK := Lib.hid hok; have HLL := Lib.hid hll
  have hrt1 := (hrt.below hb1 (Nat.le_refl _)).more hb1.size
  have HT1 := Lib.hid hrt1
  clear hW1 ho1 hb1 hr hm hrt hok hll hrt1
  by_cases k1 : k = 1
  · have d1 : ((k : Int) == 1) = true := by simp [k1]
    have hblk : blkP a k n r l false = [(0, 1), (k, 2)] ++ toksP fixA 288 fixB 32 l := by unfold blkP; rw [if_pos k1]; rfl
    have HBLK := Lib.hid hblk
    clear hblk k1
    go_enter Tryz.func31, Tryz.ntmps31
    go_wp2_with (first
      | (refine wpList_buildTo rfl 102 #[(0, .const (.int .u32 0)), (1, .const (.int .i64 1))] rfl (some 17) rfl #[.int .u32 0, .int .i64 1] ?_ ?_; focus (simpa [Act.eval] using built_num 0 1))
      | (refine wpList_buildTo rfl 102 #[(0, .tmp 19), (1, .const (.int .i64 2))] rfl (some 20) rfl #[.int .u32 (k : Int), .int .i64 2] ?_ ?_; focus (simpa [Act.eval] using built_num (k : Int) 2))
      | fail)
    rw [← HW1.out]
    refine (rlongs11_any W1).mono ?_
    rintro e w2 ⟨rfl, hrow2, hb2⟩
    obtain ⟨g1, hg1⟩ : ∃ g, g = W1.heap.size := ⟨_, rfl⟩
    rw [← hg1] at hrow2 ⊢
    have HROW2 := Lib.hid hrow2; have HB2 := Lib.hid hb2
    clear hrow2 hb2 hg1
    go_wp2_with fail
    refine (rfars11_any w2).mono ?_
    rintro e w3 ⟨rfl, hrow3, hb3⟩
    have hr2 := HROW2.out.below hb3 HROW2.out.lt
    obtain ⟨g2, hg2⟩ : ∃ g, g = w2.heap.size := ⟨_, rfl⟩
    rw [← hg2] at hrow3 ⊢
    have hb13 : Below W1.heap.size W1 w3 := HB2.out.trans (hb3.mono HB2.out.size)
    have htk := rtoks11_any w3 A2 m c2 l (some ⟨g1, 0, none⟩) 288 288 fixA (some ⟨g2, 0, none⟩) 32 32 fixB HM.out ((HT1.out.below hb13 (Nat.le_refl _)).more hb13.size) (hr2.rd (fun j => by have := fixA_le j; omega)) (hrow3.rd (fun j => by have := fixB_le j; omega)) (by omega) (by omega) (by omega) fixA_le fixB_le allA allB (by omega) (tokOk_fix HOK.out)
    have HTK := Lib.hid htk; have HB13 := Lib.hid hb13
    clear htk hb13 hr2 hrow3 hb3 hg2
    go_wp2_with fail
    refine HTK.out.mono ?_
    rintro e w4 ⟨A4, n4, c4, rfl, hnu, hb4⟩
    have hb14 : Below W1.heap.size W1 w4 := HB13.out.trans (hb4.mono HB13.out.size)
    have hb04 : Below w.heap.size w w4 := HB1.out.trans (hb14.mono HB1.out.size)
    have hlen := toksP_len fixA 288 fixB 32 l
    have hn4 := hnu.1
    obtain ⟨A', c', w5, hrun, hown, hb5, -⟩ := run_catN_g w4 w.heap.size w4.heap.size (some ⟨w.heap.size, 0, none⟩) 2 2 _ (own_keepG HO1.out hb14) A4 n4 c4 _ hnu.1 hnu.2.1 hnu.2.2.1 (by have := HLL.out; omega) hb04.size
    rw [← HBLK.out] at hown
    have HRUN := Lib.hid hrun; have HN := Lib.hid (NuR.of_own hown); have HB5 := Lib.hid (hb04.trans hb5)
    clear hrun hown hb5 hb04 hb14 hlen hn4 hnu hb4
    go_wp2_with (at_builtin; refine wpList_append_run rfl (.tmp 28) (.tmp 32) 67 rfl (.slice (some ⟨w.heap.size, 0, none⟩) 2 2) (.slice A4 n4 c4) (.slice A' (2 + n4) c') w5 rfl rfl HRUN.out ?_)
    go_ret
    exact ⟨A', 2 + n4, c', rfl, HN.out, HB5.out⟩
  have d1 : ((k : Int) == 1) = false := by simp; omega
  by_cases k2 : k = 2
  · have d2 : ((k : Int) == 2) = true := by simp [k2]
    have hblk : blkP a k n r l false = ([(0, 1), (k, 2)] ++ dynP l) ++ toksP (lnA l) (nA l) (lnB l) (nB l) l := by unfold blkP; rw [if_neg k1, if_pos k2, List.append_assoc]; rfl
    have HBLK := Lib.hid hblk
    have hdy := rdyn11_any W1 A2 m c2 l HM.out HT1.out (by omega) HOK.out
    have hdl := dynP_len l HLL.out
    obtain ⟨dA15, dB15, dAall, dBall, dA1, dA2, dB1, dB2, -⟩ := dyn_ok l (by have := HLL.out; omega)
    have htok := tokOk_dyn HLL.out HOK.out
    have HA15 := Lib.hid dA15; have HB15 := Lib.hid dB15; have HAALL := Lib.hid dAall; have HBALL := Lib.hid dBall; have HTOK := Lib.hid htok
    have htl := toksP_len (lnA l) (nA l) (lnB l) (nB l) l
    obtain ⟨TP, hTP⟩ : ∃ T, T = toksP (lnA l) (nA l) (lnB l) (nB l) l := ⟨_, rfl⟩
    obtain ⟨DP, hDP⟩ : ∃ T, T = dynP l := ⟨_, rfl⟩
    rw [← hDP] at hdy hdl hblk
    rw [← hTP] at htl hblk
    have HTL := Lib.hid htl
    obtain ⟨FA, hFA⟩ : ∃ F, F = lnA l := ⟨_, rfl⟩
    obtain ⟨FB, hFB⟩ : ∃ F, F = lnB l := ⟨_, rfl⟩
    obtain ⟨NA, hNA⟩ : ∃ F, F = nA l := ⟨_, rfl⟩
    obtain ⟨NB, hNB⟩ : ∃ F, F = nB l := ⟨_, rfl⟩
    rw [← hFA, ← hFB, ← hNA, ← hNB] at hdy hTP
    rw [← hFA] at HA15
    rw [← hFB] at HB15
    rw [← hFA, ← hNA] at HAALL
    rw [← hFB, ← hNB] at HBALL
    rw [← hNA, ← hNB] at HTOK
    rw [← hNA] at dA1 dA2
    rw [← hNB] at dB1 dB2
    have HBLK := Lib.hid hblk; have HDY := Lib.hid hdy; have HTPE := Lib.hid hTP; have HDL := Lib.hid hdl
    clear hblk k1 k2 hdy hTP htl dA15 dB15 dAall dBall htok hFA hFB hNA hNB hDP hdl
    go_enter Tryz.func31, Tryz.ntmps31
    go_wp2_with (first
      | (refine wpList_buildTo rfl 102 #[(0, .const (.int .u32 0)), (1, .const (.int .i64 1))] rfl (some 17) rfl #[.int .u32 0, .int .i64 1] ?_ ?_; focus (simpa [Act.eval] using built_num 0 1))
      | (refine wpList_buildTo rfl 102 #[(0, .tmp 19), (1, .const (.int .i64 2))] rfl (some 20) rfl #[.int .u32 (k : Int), .int .i64 2] ?_ ?_; focus (simpa [Act.eval] using built_num (k : Int) 2))
      | fail)
    rw [← HW1.out]
    refine HDY.out.mono ?_
    rintro e w2 ⟨ga, gb, A2n, n2, c2n, rfl, hra, hrb, hnu, hb2, hga, hgb⟩
    have hb02 : Below w.heap.size w w2 := HB1.out.trans (hb2.mono HB1.out.size)
    have hn2 := hnu.1
    obtain ⟨A3, c3, w3, run3, own3, hb3, keep3⟩ := run_catN_g w2 w.heap.size w2.heap.size (some ⟨w.heap.size, 0, none⟩) 2 2 _ (own_keepG HO1.out hb2) A2n n2 c2n _ hnu.1 hnu.2.1 hnu.2.2.1 (by have := HDL.out; omega) hb02.size
    have hgal : ga < w2.heap.size := by
      obtain ⟨b, o, e, h, _⟩ := hra.2 (by omega)
      injection e with e
      injection e with e1 _ _
      rw [e1]; exact h
    have hgbl : gb < w2.heap.size := by
      obtain ⟨b, o, e, h, _⟩ := hrb.2 (by omega)
      injection e with e
      injection e with e1 _ _
      rw [e1]; exact h
    have hra3 : RdB w3 w3.heap.size (some ⟨ga, 0, none⟩) NA FA := hra.keep (keep3 ga hgal (own_out HO1.out hga)) (by have := hb3.size; omega)
    have hrb3 : RdB w3 w3.heap.size (some ⟨gb, 0, none⟩) NB FB := hrb.keep (keep3 gb hgbl (own_out HO1.out hgb)) (by have := hb3.size; omega)
    have hb03 : Below w.heap.size w w3 := hb02.trans hb3
    have htk := rtoks11_any w3 A2 m c2 l (some ⟨ga, 0, none⟩) NA 286 FA (some ⟨gb, 0, none⟩) NB 30 FB HM.out ((HT.out.below hb03 (Nat.le_refl _)).more hb03.size) hra3 hrb3 (by omega) (by omega) (by omega) HA15.out HB15.out HAALL.out HBALL.out (by omega) HTOK.out
    rw [← HTPE.out] at htk
    have HTK := Lib.hid htk; have RUN3 := Lib.hid run3; have OWN3 := Lib.hid own3; have HB03 := Lib.hid hb03
    have hn2b : n2 ≤ 700 := by have := HDL.out; omega
    clear htk run3 own3 hb03 hb3 keep3 hgal hgbl hra3 hrb3 hb02 hra hrb hnu hb2 hga hgb hn2
    go_wp2_with (first
      | (at_builtin; refine wpList_append_run rfl (.tmp 42) (.tmp 43) 67 rfl (.slice (some ⟨w.heap.size, 0, none⟩) 2 2) (.slice A2n n2 c2n) (.slice A3 (2 + n2) c3) w3 rfl rfl RUN3.out ?_)
      | fail)
    refine HTK.out.mono ?_
    rintro e w4 ⟨A4, n4, c4, rfl, hnu, hb4⟩
    have hb04 : Below w.heap.size w w4 := HB03.out.trans (hb4.mono HB03.out.size)
    have hn4 := hnu.1
    obtain ⟨A', c', w5, hrun, hown, hb5, -⟩ := run_catN_g w4 w.heap.size w4.heap.size A3 (2 + n2) c3 _ (own_keepG OWN3.out hb4) A4 n4 c4 _ hnu.1 hnu.2.1 hnu.2.2.1 (by have := HLL.out; have := HTL.out; omega) hb04.size
    rw [← HBLK.out] at hown
    have HRUN := Lib.hid hrun; have HN := Lib.hid (NuR.of_own hown); have HB5 := Lib.hid (hb04.trans hb5)
    clear hrun hown hb5 hb04 hn4 hnu hb4
    go_wp2_with (at_builtin; refine wpList_append_run rfl (.tmp 45) (.tmp 49) 67 rfl (.slice A3 (2 + n2) c3) (.slice A4 n4 c4) (.slice A' (2 + n2 + n4) c') w5 rfl rfl HRUN.out ?_)
    go_ret
    exact ⟨A', 2 + n2 + n4, c', rfl, HN.out, HB5.out⟩
  have d2 : ((k : Int) == 2) = false := by simp; omega
  have hblk : blkP a k n r l false = (([(0, 1), (k, 2)] ++ List.replicate (padN a) (0, 1)) ++ [(n, 16), (65535 - n, 16)]) ++ ((List.range n).map fun i => (r i, 8)) := by unfold blkP stoP; rw [if_neg k1, if_neg k2]; simp only [List.append_assoc]; rfl
  have hpad : padN a ≤ 7 := by unfold padN; omega
  have hpl : ∀ j, j ≤ padN a → ((a + 3 + j) % 8 ≠ 0 ↔ j < padN a) := fun j hj => pad_lt hj
  obtain ⟨PD, hPD⟩ : ∃ x, x = padN a := ⟨_, rfl⟩
  rw [← hPD] at hblk hpad hpl
  have HBLK := Lib.hid hblk; have HPL := Lib.hid hpl
  have mn : (n : Int) % 4294967296 = (n : Int) := by omega
  have wn : IntKind.u32.wrap (n : Int) = (n : Int) := by rw [IntKind.wrap_u32]; omega
  obtain ⟨z, hz⟩ : ∃ z, z = 65535 - n := ⟨_, rfl⟩
  have ez : (65535 : Int) - (n : Int) = (z : Int) := by omega
  have mz : (z : Int) % 4294967296 = (z : Int) := by omega
  have wz : IntKind.u32.wrap (z : Int) = (z : Int) := by rw [IntKind.wrap_u32]; omega
  have HZ := Lib.hid hz
  obtain ⟨s, hs⟩ : ∃ s, s = a + 3 := ⟨_, rfl⟩
  have es : (a : Int) + 3 = (s : Int) := by omega
  have HS := Lib.hid hs
  have hs10 : s ≤ 10 := by omega
  clear hblk hpl k1 k2 hPD hz hs
  go_enter Tryz.func31, Tryz.ntmps31
  go_wp2_with (first
    | (refine wpList_buildTo rfl 102 #[(0, .const (.int .u32 0)), (1, .const (.int .i64 1))] rfl (some 17) rfl #[.int .u32 0, .int .i64 1] ?_ ?_; focus (simpa [Act.eval] using built_num 0 1))
    | (refine wpList_buildTo rfl 102 #[(0, .tmp 19), (1, .const (.int .i64 2))] rfl (some 20) rfl #[.int .u32 (k : Int), .int .i64 2] ?_ ?_; focus (simpa [Act.eval] using built_num (k : Int) 2))
    | fail)
  go_loopw [11, 15] (fun ov iv wr => ∃ (j p i : Nat) (At : Option Addr) (ct : Nat), j ≤ PD ∧ p = 2 + j ∧ i = s + j ∧ ov = .slice At p ct ∧ iv = .int .i64 (i : Int) ∧ Hid (wr.ownsRow w.heap.size 102 2 (.slice At p ct) p (numsL ([(0, 1), (k, 2)] ++ List.replicate j (0, 1)))) ∧ Hid (Below w.heap.size w wr)) (fun _ iv _ => s + PD - (intOf iv).toNat)
  case atStart => exact ⟨0, 2, s, some ⟨w.heap.size, 0, none⟩, 2, Nat.zero_le _, rfl, rfl, rfl, rfl, Lib.hid (by rw [← HW1.out]; exact HO1.out), Lib.hid (by rw [← HW1.out]; exact HB1.out)⟩
  case round =>
    obtain ⟨j, p, i, At, ct, hj, hp, hi, rfl, rfl, HO, HB⟩ := hrel
    have hpl := HPL.out j hj
    rw [← HS.out, ← hi] at hpl
    have hp9 : p ≤ 9 := by omega
    have HP := Lib.hid hp; have HI := Lib.hid hi
    have hi17 : i ≤ 17 := by omega
    by_cases hlt : j < PD
    · have hne := hpl.2 hlt
      have dn : (((i : Int) % 8) != 0) = true := by simp; omega
      obtain ⟨A', c', w', hr2, ho2, hb2⟩ := run_oneN wr w.heap.size At p ct _ HO.out (0, 1) (by omega) HB.out.size
      rw [List.append_assoc, rep_snoc] at ho2
      have HR2 := Lib.hid (show (Builtin.append_ #[67, 67] 67 #[.slice At p ct, .slice (some ⟨wr.heap.size, 0, none⟩) 1 1]).run Tryz.prog (wr.alloc (.cells #[.int .u32 0, .int .i64 1] 102)) = .ok (.slice A' (p + 1) c') w' from hr2)
      have HO2 := Lib.hid ho2; have HB2 := Lib.hid (HB.out.trans hb2)
      have hp1 : p + 1 = 2 + (j + 1) := by omega
      have hi1 : i + 1 = s + (j + 1) := by omega
      have HP1 := Lib.hid hp1; have HI1 := Lib.hid hi1
      have hmeas : s + PD - (i + 1) < s + PD - i := by omega
      clear hr2 ho2 hb2 hp1 hi1 hpl hne hp hi
      go_wp2_with (first
        | (refine wpList_buildTo rfl 102 #[(0, .const (.int .u32 0)), (1, .const (.int .i64 1))] rfl (some 59) rfl #[.int .u32 0, .int .i64 1] ?_ ?_; focus (simpa [Act.eval] using built_num 0 1))
        | (at_builtin; refine wpList_append_run rfl (.tmp 58) (.tmp 60) 67 rfl (.slice At p ct) (.slice (some ⟨wr.heap.size, 0, none⟩) 1 1) (.slice A' (p + 1) c') w' rfl rfl HR2.out ?_))
      go_roundw
      case rel => exact ⟨j + 1, p + 1, i + 1, A', c', by omega, HP1.out, HI1.out, rfl, by go_num, HO2, HB2⟩
      case measure => simpa [intOf] using hmeas
    · obtain rfl : j = PD := by omega
      have heq : i % 8 = 0 := by
        rcases Nat.eq_zero_or_pos (i % 8) with h | h
        · exact h
        · exact absurd (hpl.1 (by omega)) (by omega)
      have dn : (((i : Int) % 8) != 0) = false := by simp; omega
      obtain ⟨A3, c3, w3, run3, own3, hb3⟩ := run_moreN wr w.heap.size At p ct _ HO.out [(n, 16), (z, 16)] 2 rfl #[.int .u32 (n : Int), .int .i64 16, .int .u32 (z : Int), .int .i64 16] rfl (by omega) HB.out.size
      have RUN3 := Lib.hid run3; have HB3 := Lib.hid (HB.out.trans hb3)
      have own3' : w3.ownsRow w.heap.size 102 2 (.slice A3 (p + 2) c3) (p + 2) (numsL ((([(0, 1), (k, 2)] ++ List.replicate j (0, 1)) ++ [(n, 16), (z, 16)]) ++ ((List.range 0).map fun i => (r i, 8)))) := by
        rw [List.range_zero, List.map_nil, List.append_nil]; exact own3
      have OWN3 := Lib.hid own3'
      have hblk := HBLK.out
      rw [← HZ.out] at hblk
      obtain ⟨L1, hL1⟩ : ∃ L, L = ([(0, 1), (k, 2)] ++ List.replicate j (0, 1)) ++ [(n, 16), (z, 16)] := ⟨_, rfl⟩
      rw [← hL1] at OWN3 hblk
      have HBLK2 := Lib.hid hblk
      clear run3 own3 own3' hb3 heq hpl hlt hL1 hblk hp hi
      go_wp2_with (first
        | (refine wpList_buildTo rfl 102 #[(0, .tmp 65), (1, .const (.int .i64 16))] rfl (some 66) rfl #[.int .u32 (n : Int), .int .i64 16] ?_ ?_; focus (simpa [Act.eval] using built_num (n : Int) 16))
        | (refine wpList_buildTo rfl 102 #[(0, .tmp 70), (1, .const (.int .i64 16))] rfl (some 71) rfl #[.int .u32 (z : Int), .int .i64 16] ?_ ?_; focus (simpa [Act.eval] using built_num (z : Int) 16))
        | (at_builtin; refine wpList_append_run rfl (.tmp 62) (.tmp 72) 67 rfl (.slice At p ct) (.slice (some ⟨wr.heap.size, 0, none⟩) 2 2) (.slice A3 (p + 2) c3) w3 rfl rfl RUN3.out ?_))
      obtain ⟨q0, hq0⟩ : ∃ q, q = p + 2 := ⟨_, rfl⟩
      have hq11 : q0 ≤ 11 := by omega
      rw [← hq0] at OWN3 ⊢
      clear hq0
      go_loopw [11, 16] (fun ov iv wr => ∃ (i p : Nat) (At : Option Addr) (ct : Nat), i ≤ n ∧ p = q0 + i ∧ ov = .slice At p ct ∧ iv = .int .i64 (i : Int) ∧ Hid (wr.ownsRow w.heap.size 102 2 (.slice At p ct) p (numsL (L1 ++ ((List.range i).map fun i => (r i, 8))))) ∧ Hid (Below w.heap.size w wr)) (fun _ iv _ => n - (intOf iv).toNat)
      case atStart => exact ⟨0, q0, A3, c3, Nat.zero_le _, rfl, rfl, rfl, OWN3, HB3⟩
      case round =>
        obtain ⟨i5, p5, A5, c5, hi5, hp5, rfl, rfl, HO5, HB5⟩ := hrel
        by_cases hlt5 : i5 < n
        · have hlti5 : (i5 : Int) < (n : Int) := by omega
          obtain ⟨b, o, rfl, _, hcc⟩ := (HR.out.below HB5.out (Nat.le_refl _)).2 (by omega)
          have c0 := hcc i5 hlt5
          have hx8 := HR.out.1 i5
          obtain ⟨A', c', w', hr3, ho3, hb3'⟩ := run_oneN wr w.heap.size A5 p5 c5 _ HO5.out (r i5, 8) (by omega) HB5.out.size
          have hlist : (L1 ++ ((List.range i5).map fun i => (r i, 8))) ++ [(r i5, 8)] = L1 ++ ((List.range (i5 + 1)).map fun i => (r i, 8)) := by
            rw [List.range_succ, List.map_append, List.append_assoc]; rfl
          rw [hlist] at ho3
          obtain ⟨x, hx⟩ : ∃ x, x = r i5 := ⟨_, rfl⟩
          dsimp only at hr3
          rw [← hx] at c0 hr3 hx8
          have HR3 := Lib.hid (show (Builtin.append_ #[67, 67] 67 #[.slice A5 p5 c5, .slice (some ⟨wr.heap.size, 0, none⟩) 1 1]).run Tryz.prog (wr.alloc (.cells #[.int .u32 (x : Int), .int .i64 8] 102)) = .ok (.slice A' (p5 + 1) c') w' from hr3)
          have HO3' := Lib.hid ho3; have HB3' := Lib.hid (HB5.out.trans hb3')
          have wx : IntKind.u32.wrap (x : Int) = (x : Int) := by rw [IntKind.wrap_u32]; omega
          have mx : (x : Int) % 4294967296 = (x : Int) := by omega
          have hp5' : p5 + 1 = q0 + (i5 + 1) := by omega
          have HP5 := Lib.hid hp5'
          clear hr3 ho3 hb3' hlist hx hcc hp5' hp5
          go_wp2_with (first
            | (refine wpList_buildTo rfl 102 #[(0, .tmp 85), (1, .const (.int .i64 8))] rfl (some 86) rfl #[.int .u32 (x : Int), .int .i64 8] ?_ ?_; focus (simpa [Act.eval] using built_num (x : Int) 8))
            | (at_builtin; refine wpList_append_run rfl (.tmp 80) (.tmp 87) 67 rfl (.slice A5 p5 c5) (.slice (some ⟨wr.heap.size, 0, none⟩) 1 1) (.slice A' (p5 + 1) c') w' rfl rfl HR3.out ?_))
          go_roundw
          case rel => exact ⟨i5 + 1, p5 + 1, A', c', by omega, HP5.out, rfl, by go_num, HO3', HB3'⟩
          case measure => simp [intOf]; omega
        · obtain rfl : i5 = n := by omega
          have hlti5 : ¬ (i5 : Int) < (i5 : Int) := by omega
          have hown := HO5.out
          rw [← HBLK2.out] at hown
          have HN := Lib.hid (NuR.of_own hown)
          clear hown hp5 hlt5
          go_wp2
          go_ret
          exact ⟨A5, p5, c5, rfl, HN.out, HB5.out⟩
theorem rnums11_any (w : World) (a k : Nat) (A : Option Addr) (n c : Nat) (r : Nat → Nat) (A2 : Option Addr) (m c2 : Nat) (l : List Tok) (last : Bool) (ha : a ≤ 7) (hk : k ≤ 2) (hr : RdB w w.heap.size A n r) (hn : n ≤ 65535) (hm : m = l.length) (hrt : RdT w w.heap.size A2 l) (hm2 : m ≤ 65535) (hok : ∀ t ∈ l, mayT t = true ∧ t.x < 256) :
    Calls Tryz.prog 31 #[.int .i64 (a : Int), .int .u8 (k : Int), .slice A n c, .slice A2 m c2, .bool last] w fun e w' => ∃ A' n' c', e = .returned (.slice A' n' c') ∧ NuR w' w'.heap.size A' n' c' (blkP a k n r l last) ∧ Below w.heap.size w w' := by
  cases last
  · exact rnums11_more w a k A n c r A2 m c2 l ha hk hr hn hm hrt hm2 hok
  · exact rnums11_last w a k A n c r A2 m c2 l ha hk hr hn hm hrt hm2 hok
end Go.Proofs.YtjhljkhgjcckhaaGreat

namespace Go.Proofs.YtjhljkhgjcckhaaGreat
open Go.RowKit
theorem all_take {l : List Tok} {i : Nat} (h : i < l.length) : (l.take (i + 1)).all mayT = ((l.take i).all mayT && mayT (l.getD i tok0)) := by
  rw [List.take_add_one, List.all_append, List.getElem?_eq_getElem h, List.getD_eq_getElem?_getD, List.getElem?_eq_getElem h]
  simp
theorem all_no {l : List Tok} {i : Nat} (h : i < l.length) (hm : mayT (l.getD i tok0) = false) : l.all mayT = false := by
  have e : l.all mayT = ((l.take (i + 1)).all mayT && (l.drop (i + 1)).all mayT) := by rw [← List.all_append, List.take_append_drop]
  rw [e, all_take h, hm, Bool.and_false, Bool.false_and]
set_option maxRecDepth 100000 in
set_option maxHeartbeats 4000000 in
theorem rask11_any (w : World) (k : Nat) (A : Option Addr) (n c : Nat) (A2 : Option Addr) (m c2 : Nat) (l : List Tok) (hm : m = l.length) (hk : k < 256) (hn : n ≤ 9223372036854775807) (hm2 : m ≤ 9223372036854775807) (hr : RdT w w.heap.size A2 l) :
    Calls Tryz.prog 30 #[.int .u8 (k : Int), .slice A n c, .slice A2 m c2] w fun e w' => e = .returned (.int .i64 (askW k n l)) ∧ Below w.heap.size w w' := by
  by_cases h1 : 2 < k
  · have e : askW k n l = 2 := if_pos h1
    rw [e]
    have d1 : decide ((2 : Int) < (k : Int)) = true := decY (by omega)
    clear e hr
    go_enter Tryz.func30, Tryz.ntmps30
    go_wp2
    go_ret
    exact ⟨rfl, Below.refl _ _⟩
  have d1 : decide ((2 : Int) < (k : Int)) = false := decN (by omega)
  by_cases h2 : 65535 < n
  · have e : askW k n l = 4 := by unfold askW; rw [if_neg h1, if_pos (.inl h2)]
    rw [e]
    have d2 : decide ((65535 : Int) < (n : Int)) = true := decY (by omega)
    clear e hr
    go_enter Tryz.func30, Tryz.ntmps30
    go_wp2
    go_ret
    exact ⟨rfl, Below.refl _ _⟩
  have d2 : decide ((65535 : Int) < (n : Int)) = false := decN (by omega)
  by_cases h3 : 65535 < m
  · have e : askW k n l = 4 := by unfold askW; rw [if_neg h1, if_pos (.inr (by omega))]
    rw [e]
    have d3 : decide ((65535 : Int) < (m : Int)) = true := decY (by omega)
    clear e hr
    go_enter Tryz.func30, Tryz.ntmps30
    go_wp2
    go_ret
    exact ⟨rfl, Below.refl _ _⟩
  have d3 : decide ((65535 : Int) < (m : Int)) = false := decN (by omega)
  have e : askW k n l = if l.all mayT then 0 else 8 := by unfold askW; rw [if_neg h1, if_neg (by omega)]
  obtain ⟨R, hR⟩ : ∃ R, R = askW k n l := ⟨_, rfl⟩
  rw [← hR] at e ⊢
  have HE := Lib.hid e; have HR := Lib.hid hr; have HM := Lib.hid hm
  clear e hR hr hm
  go_enter Tryz.func30, Tryz.ntmps30
  go_wp2
  go_loopw [7] (fun iv wr => ∃ i : Nat, i ≤ m ∧ iv = .int .i64 (i : Int) ∧ Hid ((l.take i).all mayT = true) ∧ Hid (Below w.heap.size w wr)) (fun iv _ => m - (intOf iv).toNat)
  case atStart => exact ⟨0, Nat.zero_le _, rfl, Lib.hid rfl, Lib.hid (Below.refl _ _)⟩
  case round =>
    obtain ⟨i, hi, rfl, HA, HB⟩ := hrel
    by_cases hlt : i < m
    · have hil : i < l.length := by rw [← HM.out]; exact hlt
      have hr2 := HR.out.below HB.out (Nat.le_refl _)
      obtain ⟨b, o, rfl, _, _⟩ := hr2.at hil
      have hrg := hr2.range rfl hil
      have hst := all_take hil
      have hno := all_no hil
      obtain ⟨⟨tx, td, tn⟩, ht⟩ : ∃ t, t = l.getD i tok0 := ⟨_, rfl⟩
      rw [← ht] at hrg hst hno
      obtain ⟨mt, hmt⟩ : ∃ mt, mt = mayT ⟨tx, td, tn⟩ := ⟨_, rfl⟩
      have hmy := rmay8_any wr ⟨tx, td, tn⟩
      rw [← hmt] at hmy hst hno
      rw [HA.out, Bool.true_and] at hst
      have HRG := Lib.hid hrg; have HST := Lib.hid hst; have HNO := Lib.hid hno; have HMY := Lib.hid hmy
      clear hrg hst hno hmy ht hmt hr2
      go_wp2_with (first
        | (refine wpList_load_mid rfl _ _ rfl b (o + i * 3) rfl (tokC ⟨tx, td, tn⟩) _ HRG.out Tryz.underlying72 rfl szTok ?_)
        | fail)
      refine HMY.out.mono ?_
      rintro e w1 ⟨rfl, hb1⟩
      have HB1 := Lib.hid (HB.out.trans (hb1.mono HB.out.size))
      clear hb1
      rcases mt with _ | _
      · have hRe : R = 8 := by rw [HE.out, HNO.out rfl]; rfl
        have HRE := Lib.hid hRe
        clear hRe
        go_wp2
        go_ret
        exact ⟨by rw [HRE.out]; rfl, HB1.out⟩
      · go_wp2
        go_roundw
        case rel => exact ⟨i + 1, by omega, by go_num, HST, HB1⟩
        case measure => simp [intOf]; omega
    · obtain rfl : i = m := by omega
      have hlti : ¬ (i : Int) < (i : Int) := by omega
      have hRe : R = 0 := by
        have := HA.out
        rw [HM.out, List.take_length] at this
        rw [HE.out, this]; rfl
      have HRE := Lib.hid hRe
      clear hRe
      go_wp2
      go_ret
      exact ⟨by rw [HRE.out]; rfl, HB.out⟩
end Go.Proofs.YtjhljkhgjcckhaaGreat

namespace Go.Proofs.YtjhljkhgjcckhaaGreat
open Go.RowKit
set_option maxRecDepth 100000 in
set_option maxHeartbeats 2000000 in
theorem rlong11_any (w : World) (a : Int) (k : Nat) (A : Option Addr) (n c : Nat) (r : Nat → Nat) (A2 : Option Addr) (m c2 : Nat) (l : List Tok) (hk : k < 256) (hr : RdB w w.heap.size A n r) (hn : n ≤ 1000000) (hm : m = l.length) (hrt : RdT w w.heap.size A2 l) (hm2 : m ≤ 1000000) (hx : ∀ t ∈ l, t.x < 256) :
    Calls Tryz.prog 12 #[.int .i64 a, .int .u8 (k : Int), .slice A n c, .slice A2 m c2] w fun e w' => e = .returned (.tuple #[.int .i64 ((lngV a k n r l : Nat) : Int), .int .i64 (lngE a k n l)]) ∧ Below w.heap.size w w' := by
  obtain ⟨E, hE⟩ : ∃ E, E = lngE a k n l := ⟨_, rfl⟩
  obtain ⟨V, hV⟩ : ∃ V, V = lngV a k n r l := ⟨_, rfl⟩
  rw [← hE, ← hV]
  unfold lngV at hV
  rw [← hE] at hV
  unfold lngE at hE
  have hask := rask11_any w k A n c A2 m c2 l hm hk (by omega) (by omega) hrt
  obtain ⟨Q, hQ⟩ : ∃ Q, Q = askW k n l := ⟨_, rfl⟩
  rw [← hQ] at hask hE
  have HASK := Lib.hid hask; have HE := Lib.hid hE; have HV := Lib.hid hV; have HQ := Lib.hid hQ; have HR := Lib.hid hr; have HM := Lib.hid hm; have HT := Lib.hid hrt; have HX := Lib.hid hx
  clear hask hE hV hQ hr hm hrt hx
  by_cases y0 : a < 0
  · have d0 : decide (a < 0) = true := decY0 y0
    obtain rfl : E = 2 := by rw [HE.out, if_pos (.inl y0)]
    obtain rfl : V = 0 := by rw [HV.out, if_neg (by omega)]
    clear HE HV y0
    go_enter Tryz.func12, Tryz.ntmps12
    go_wp2
    go_ret2
    exact ⟨rfl, Below.refl _ _⟩
  have d0 : decide (a < 0) = false := decN0 y0
  by_cases y1 : 7 < a
  · have d1 : decide (7 < a) = true := decY0 y1
    obtain rfl : E = 2 := by rw [HE.out, if_pos (.inr y1)]
    obtain rfl : V = 0 := by rw [HV.out, if_neg (by omega)]
    clear HE HV y0 y1
    go_enter Tryz.func12, Tryz.ntmps12
    go_wp2
    go_ret2
    exact ⟨rfl, Below.refl _ _⟩
  have d1 : decide (7 < a) = false := decN0 y1
  obtain ⟨a, rfl⟩ := Int.eq_ofNat_of_zero_le (show 0 ≤ a by omega)
  have he := HE.out
  rw [if_neg (by omega)] at he
  subst he
  by_cases q0 : E = 0
  · subst q0
    obtain ⟨k2, n2, l2, hmay⟩ := askW_ok HQ.out.symm
    have hok : ∀ t ∈ l, mayT t = true ∧ t.x < 256 := fun t ht => ⟨hmay t ht, HX.out t ht⟩
    have hv := HV.out
    rw [if_pos rfl, Int.toNat_natCast] at hv
    have hnm : ∀ w', Below w.heap.size w w' → Calls Tryz.prog 31 #[.int .i64 (a : Int), .int .u8 (k : Int), .slice A n c, .slice A2 m c2, .bool false] w' fun e w'' => ∃ A' n' c', e = .returned (.slice A' n' c') ∧ NuR w'' w''.heap.size A' n' c' (blkP a k n r l false) ∧ Below w'.heap.size w' w'' :=
      fun w' hb => rnums11_any w' a k A n c r A2 m c2 l false (by omega) k2 ((HR.out.below hb (Nat.le_refl _)).more hb.size) n2 HM.out ((HT.out.below hb (Nat.le_refl _)).more hb.size) (by have := HM.out; omega) hok
    have hbt := blkP_bits (a := a) (last := false) k2 n2 HR.out.1 l2 hok
    have hbl := blkP_len (a := a) (k := k) (r := r) (last := false) n2 l2
    obtain ⟨P, hP⟩ : ∃ P, P = blkP a k n r l false := ⟨_, rfl⟩
    rw [← hP] at hv hnm hbt hbl
    have HNM := Lib.hid hnm; have HBT := Lib.hid hbt; have HBL := Lib.hid hbl
    subst hv
    clear hnm hbt hbl hP hok hmay HE HV HQ HR HT HX HM y0 y1 l2
    go_enter Tryz.func12, Tryz.ntmps12
    go_wp2_with fail
    refine HASK.out.mono ?_
    rintro e w2 ⟨rfl, hb2⟩
    have HB2 := Lib.hid hb2
    clear hb2
    go_wp2_with fail
    refine (HNM.out _ HB2.out).mono ?_
    rintro e w3 ⟨A', n', c', rfl, hnu, hb3⟩
    have hbits := rbitsT_any w3 A' n' c' P hnu.1 hnu.2.1 (by have := HBL.out; have := hnu.1; omega) (by have := HBT.out; omega)
    have HBITS := Lib.hid hbits; have HB3 := Lib.hid (HB2.out.trans (hb3.mono HB2.out.size))
    clear hbits hb3 hnu
    go_wp2_with fail
    refine HBITS.out.mono ?_
    rintro e w4 ⟨rfl, rfl⟩
    go_wp2
    go_ret2
    exact ⟨rfl, HB3.out⟩
  · have dq : (E != 0) = true := by simpa using q0
    obtain rfl : V = 0 := by rw [HV.out, if_neg q0]
    clear HE HV HQ q0 y0 y1
    go_enter Tryz.func12, Tryz.ntmps12
    go_wp2_with fail
    refine HASK.out.mono ?_
    rintro e w2 ⟨rfl, hb2⟩
    have HB2 := Lib.hid hb2
    clear hb2
    go_wp2
    go_ret2
    exact ⟨rfl, HB2.out⟩
set_option maxRecDepth 100000 in
set_option maxHeartbeats 4000000 in
theorem rshort11_any (w : World) (a : Nat) (A : Option Addr) (n c : Nat) (r : Nat → Nat) (A2 : Option Addr) (m c2 : Nat) (l : List Tok) (ha : a ≤ 7) (hr : RdB w w.heap.size A n r) (hn : n ≤ 65535) (hm : m = l.length) (hrt : RdT w w.heap.size A2 l) (hm2 : m ≤ 65535) (hok : ∀ t ∈ l, mayT t = true ∧ t.x < 256) :
    Calls Tryz.prog 37 #[.int .i64 (a : Int), .slice A n c, .slice A2 m c2] w fun e w' => e = .returned (.int .u8 ((bestK a n r l : Nat) : Int)) ∧ Below w.heap.size w w' := by
  have hnm : ∀ k : Nat, k ≤ 2 → ∀ w', Below w.heap.size w w' → Calls Tryz.prog 31 #[.int .i64 (a : Int), .int .u8 (k : Int), .slice A n c, .slice A2 m c2, .bool false] w' fun e w'' => ∃ A' n' c', e = .returned (.slice A' n' c') ∧ NuR w'' w''.heap.size A' n' c' (blkP a k n r l false) ∧ Below w'.heap.size w' w'' :=
    fun k hk w' hb => rnums11_any w' a k A n c r A2 m c2 l false ha hk ((hr.below hb (Nat.le_refl _)).more hb.size) hn hm ((hrt.below hb (Nat.le_refl _)).more hb.size) hm2 hok
  have hbt : ∀ k : Nat, k ≤ 2 → bitsT (blkP a k n r l false) ≤ 4320000 := fun k hk => blkP_bits (a := a) (last := false) hk hn hr.1 (by omega) hok
  have hbl : ∀ k : Nat, (blkP a k n r l false).length ≤ 270000 := fun k => blkP_len (a := a) (k := k) (r := r) (last := false) hn (by omega)
  obtain ⟨f, hf⟩ : ∃ f : Nat → Nat, f = fun k => bitsT (blkP a k n r l false) := ⟨_, rfl⟩
  have hfk : ∀ k : Nat, bitsT (blkP a k n r l false) = f k := fun k => by rw [hf]
  have hbest : bestK a n r l = shF f 2 := by rw [hf]; rfl
  rw [hbest]
  have HNM := Lib.hid hnm; have HBT := Lib.hid hbt; have HBL := Lib.hid hbl; have HFK := Lib.hid hfk
  clear hnm hbt hbl hfk hf hbest hr hrt hok hm
  go_enter Tryz.func37, Tryz.ntmps37
  go_wp2
  go_loopw [7, 8] (fun bv kv wr => ∃ j b : Nat, j ≤ 2 ∧ b ≤ j ∧ bv = .int .u8 (b : Int) ∧ kv = .int .u8 ((j + 1 : Nat) : Int) ∧ Hid (b = shF f j) ∧ Hid (Below w.heap.size w wr)) (fun _ kv _ => 3 - (intOf kv).toNat)
  case atStart => exact ⟨0, 0, Nat.zero_le _, Nat.le_refl _, rfl, rfl, Lib.hid rfl, Lib.hid (Below.refl _ _)⟩
  case round =>
    obtain ⟨j, b, hj, hb, rfl, rfl, HBS, HBW⟩ := hrel
    by_cases hlt : j < 2
    · obtain ⟨q, hq⟩ : ∃ q, q = j + 1 := ⟨_, rfl⟩
      have hq2 : q ≤ 2 := by omega
      have hqi : (q : Int) ≤ 2 := by omega
      have hqd : decide ((q : Int) ≤ 2) = true := by simp; omega
      have hst : shF f (j + 1) = if f q < f b then q else b := by simp only [shF]; rw [← HBS.out, ← hq]
      have HST := Lib.hid hst
      obtain ⟨q1, hq1⟩ : ∃ q1, q1 = q + 1 := ⟨_, rfl⟩
      have eq1 : (q : Int) + 1 = (q1 : Int) := by omega
      have mq1 : (q1 : Int) % 256 = (q1 : Int) := by omega
      have wq1 : IntKind.u8.wrap (q1 : Int) = (q1 : Int) := by rw [IntKind.wrap_u8]; omega
      have hkv : Value.int .u8 (q1 : Int) = .int .u8 ((j + 1 + 1 : Nat) : Int) := by rw [hq1, hq]
      have hmeas : 3 - q1 < 3 - q := by omega
      have HKV := Lib.hid hkv
      clear hq1 hkv
      rw [← hq]
      have HQ := Lib.hid hq
      clear hst hq
      go_wp2_with fail
      refine (HNM.out q hq2 _ HBW.out).mono ?_
      rintro e w3 ⟨A', n', c', rfl, hnu, hb3⟩
      have hbits := rbitsT_any w3 A' n' c' _ hnu.1 hnu.2.1 (by have := HBL.out q; have := hnu.1; omega) (by have := HBT.out q hq2; omega)
      rw [HFK.out] at hbits
      have HBITS := Lib.hid hbits; have HB3 := Lib.hid (HBW.out.trans (hb3.mono HBW.out.size))
      clear hbits hb3 hnu
      go_wp2_with fail
      refine HBITS.out.mono ?_
      rintro e w4 ⟨rfl, rfl⟩
      go_wp2_with fail
      refine (HNM.out b (by omega) _ HB3.out).mono ?_
      rintro e w5 ⟨A5, n5, c5, rfl, hnu, hb5⟩
      have hbits := rbitsT_any w5 A5 n5 c5 _ hnu.1 hnu.2.1 (by have := HBL.out b; have := hnu.1; omega) (by have := HBT.out b (by omega); omega)
      rw [HFK.out] at hbits
      have HBITS5 := Lib.hid hbits; have HB5 := Lib.hid (HB3.out.trans (hb5.mono HB3.out.size))
      clear hbits hb5 hnu
      go_wp2_with fail
      refine HBITS5.out.mono ?_
      rintro e w6 ⟨rfl, rfl⟩
      obtain ⟨x, hx⟩ : ∃ x, x = f q := ⟨_, rfl⟩
      obtain ⟨y, hy⟩ : ∃ y, y = f b := ⟨_, rfl⟩
      have HST2 := HST
      rw [← hx, ← hy] at HST2 ⊢
      clear hx hy HST HBITS HBITS5
      by_cases hlt2 : x < y
      · have dl : decide ((x : Int) < (y : Int)) = true := by simp; omega
        have dl2 : decide (x < y) = true := by simp; omega
        have hst := HST2.out
        rw [if_pos hlt2] at hst
        have HS := Lib.hid hst
        clear hst HST2 hlt2
        go_wp2
        go_roundw
        case rel => exact ⟨j + 1, q, by omega, by have := HQ.out; omega, rfl, HKV.out, Lib.hid HS.out.symm, HB5⟩
        case measure => simpa [intOf] using hmeas
      · have dl : decide ((x : Int) < (y : Int)) = false := by simp; omega
        have dl2 : decide (x < y) = false := by simp; omega
        have hst := HST2.out
        rw [if_neg hlt2] at hst
        have HS := Lib.hid hst
        clear hst HST2 hlt2
        go_wp2
        go_roundw
        case rel => exact ⟨j + 1, b, by omega, by omega, rfl, HKV.out, Lib.hid HS.out.symm, HB5⟩
        case measure => simpa [intOf] using hmeas
    · obtain rfl : j = 2 := by omega
      have hbs := HBS.out
      subst hbs
      go_wp2
      go_ret
      exact ⟨rfl, HBW.out⟩
set_option maxRecDepth 100000 in
set_option maxHeartbeats 2000000 in
theorem rbest11_any (w : World) (a : Int) (A : Option Addr) (n c : Nat) (r : Nat → Nat) (A2 : Option Addr) (m c2 : Nat) (l : List Tok) (hr : RdB w w.heap.size A n r) (hn : n ≤ 1000000) (hm : m = l.length) (hrt : RdT w w.heap.size A2 l) (hm2 : m ≤ 1000000) (hx : ∀ t ∈ l, t.x < 256) :
    Calls Tryz.prog 14 #[.int .i64 a, .slice A n c, .slice A2 m c2] w fun e w' => e = .returned (.tuple #[.int .u8 ((bestV a n r l : Nat) : Int), .int .i64 (bestE a n l)]) ∧ Below w.heap.size w w' := by
  have hlg := rlong11_any w a 0 A n c r A2 m c2 l (by omega) hr hn hm hrt hm2 hx
  have hE : bestE a n l = lngE a 0 n l := rfl
  rw [← hE] at hlg
  have hV : bestV a n r l = if bestE a n l = 0 then bestK a.toNat n r l else 0 := rfl
  obtain ⟨V, hV2⟩ : ∃ V, V = bestV a n r l := ⟨_, rfl⟩
  obtain ⟨E, hE2⟩ : ∃ E, E = bestE a n l := ⟨_, rfl⟩
  obtain ⟨LV, hLV⟩ : ∃ V, V = lngV a 0 n r l := ⟨_, rfl⟩
  rw [← hE2, ← hLV] at hlg
  rw [← hV2, ← hE2] at hV
  rw [← hE2] at hE
  rw [← hV2, ← hE2]
  have HLG : Hid (Calls Tryz.prog 12 #[.int .i64 a, .int .u8 0, .slice A n c, .slice A2 m c2] w fun e w' => e = .returned (.tuple #[.int .i64 (LV : Int), .int .i64 E]) ∧ Below w.heap.size w w') := Lib.hid hlg
  have HV := Lib.hid hV; have HE := Lib.hid hE; have HR := Lib.hid hr; have HM := Lib.hid hm; have HT := Lib.hid hrt; have HX := Lib.hid hx
  clear hlg hV hV2 hE hE2 hLV hr hm hrt hx
  by_cases q0 : E = 0
  · subst q0
    have hng : ¬ (a < 0 ∨ 7 < a) := by
      intro g; have h := HE.out; unfold lngE at h; rw [if_pos g] at h; omega
    have hq : askW 0 n l = 0 := by have h := HE.out; unfold lngE at h; rw [if_neg hng] at h; exact h.symm
    obtain ⟨_, n2, l2, hmay⟩ := askW_ok hq
    obtain ⟨a, rfl⟩ := Int.eq_ofNat_of_zero_le (show 0 ≤ a by omega)
    have hv := HV.out
    rw [if_pos rfl, Int.toNat_natCast] at hv
    have hsh : ∀ w', Below w.heap.size w w' → Calls Tryz.prog 37 #[.int .i64 (a : Int), .slice A n c, .slice A2 m c2] w' fun e w'' => e = .returned (.int .u8 (V : Int)) ∧ Below w'.heap.size w' w'' := fun w' hb => by
      rw [hv]
      exact rshort11_any w' a A n c r A2 m c2 l (by omega) ((HR.out.below hb (Nat.le_refl _)).more hb.size) n2 HM.out ((HT.out.below hb (Nat.le_refl _)).more hb.size) (by have := HM.out; omega) (fun t ht => ⟨hmay t ht, HX.out t ht⟩)
    have HSH := Lib.hid hsh
    clear hsh hv hmay l2 n2 hq hng HE HV HR HM HT HX
    go_enter Tryz.func14, Tryz.ntmps14
    go_wp2_with fail
    refine HLG.out.mono ?_
    rintro e w2 ⟨rfl, hb2⟩
    have HB2 := Lib.hid hb2
    clear hb2
    go_wp2_with fail
    refine (HSH.out _ HB2.out).mono ?_
    rintro e w3 ⟨rfl, hb3⟩
    have HB3 := Lib.hid (HB2.out.trans (hb3.mono HB2.out.size))
    clear hb3
    go_wp2
    go_ret2
    exact ⟨rfl, HB3.out⟩
  · have dq : (E != 0) = true := by simpa using q0
    obtain rfl : V = 0 := by rw [HV.out, if_neg q0]
    clear HE HV q0
    go_enter Tryz.func14, Tryz.ntmps14
    go_wp2_with fail
    refine HLG.out.mono ?_
    rintro e w2 ⟨rfl, hb2⟩
    have HB2 := Lib.hid hb2
    clear hb2
    go_wp2
    go_ret2
    exact ⟨rfl, HB2.out⟩
end Go.Proofs.YtjhljkhgjcckhaaGreat

