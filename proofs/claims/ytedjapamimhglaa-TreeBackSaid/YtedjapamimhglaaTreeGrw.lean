/-
  Layer 5 (tree): what the document's own Twin, Grown and Grow answer.
-/
import Derived.Test.YtedjapamimhglaaTreeMem
import Derived.Test.YtedjapamimhglaaCanonRef
namespace Go.Proofs.Ytedjapamimhglaa
open Go.RowKit
theorem setRow_tre {w : World} {b : Nat} {c d : Nat → Int} {u v : Value} (h : TreA w b c u) : TreA (w.setRow b (trA d v)) b d v := setRow_heap w b _ _ _ _ h
set_option maxRecDepth 100000 in
set_option maxHeartbeats 2000000 in
theorem twin5_any (w : World) (c : Nat → Int) (u : Value) (s : List Int) (hu : RdS w w.heap.size u s) (hs : s.length ≤ 1000000000) :
    Calls Try.prog 15 #[.agg (trA c u)] w fun e w' => ∃ v, e = .returned (.agg (trA c v)) ∧ OwnS w' w.heap.size v s ∧ Below w.heap.size w w' := by
  obtain ⟨A, ca, rfl, hra, hna⟩ := hu
  have hz := (zero_of_info infoTree).1
  obtain ⟨n, hn⟩ : ∃ n, n = s.length := ⟨_, rfl⟩
  have ht1 : TreA ((w.alloc (.cells (trA c (.slice A s.length ca)) 25)).alloc (.cells (trA (fun _ => 0) (.slice none 0 0)) 25)) w.heap.size c (.slice A s.length ca) := heap_alloc2_old w _ _
  have ht2 : TreA ((w.alloc (.cells (trA c (.slice A s.length ca)) 25)).alloc (.cells (trA (fun _ => 0) (.slice none 0 0)) 25)) (w.heap.size + 1) (fun _ => 0) (.slice none 0 0) := heap_alloc2_new w _ _
  have hb0 := ((Below.refl w.heap.size w).alloc (Nat.le_refl _) (.cells (trA c (.slice A s.length ca)) 25)).alloc (by simp) (.cells (trA (fun _ => 0) (.slice none 0 0)) 25)
  obtain ⟨A', c', w', hrun, hown, hbw⟩ := run_app (z := .int .i64 0) (by_ := 8) Try.underlying23 infoInt rfl (by decide) ((w.alloc (.cells (trA c (.slice A s.length ca)) 25)).alloc (.cells (trA (fun _ => 0) (.slice none 0 0)) 25)) (w.heap.size + 2) _ (.slice none 0 0) 0 [] (World.ownsRow_nil _ _ _ 1) A s.length ca _ (hra.below hb0 (Nat.le_refl _)) (intsL_one s) (by unfold maxLen; omega) (by omega) 23 hna.1 (by simp)
  rw [Nat.zero_add, List.nil_append] at hown
  rw [Nat.zero_add] at hrun
  have k1 := ht1.syms
  have hcap : A' = none → c' = 0 := fun h => (own_cap hown).2.2 h |>.2
  have ht1' := ht1.below (B := w.heap.size + 2) hbw (by omega)
  have ht2' := ht2.below (B := w.heap.size + 2) hbw (by omega)
  have hf := ht1'.frozen 16
  have k2 := ht1'.syms
  have hbt := hb0.trans (hbw.mono (by omega))
  have HR := Lib.hid hrun; have HT1 := Lib.hid ht1'; have HT2 := Lib.hid ht2'; have HOW := Lib.hid hown; have HC := Lib.hid hcap; have HBT := Lib.hid hbt
  clear hra hna hown hrun ht1 ht2 ht1' ht2' hcap hb0 hbw hbt
  rw [← hn] at HR hs k1 k2 HT1 ⊢
  have HN := Lib.hid hn
  clear hn
  go_enter Try.func15, Try.ntmps15
  have hs1 := HT1.out.setSyms (.slice A' n c')
  have hs2 : TreA (w'.setCell ⟨w.heap.size, 16, none⟩ (.slice A' n c')) (w.heap.size + 1) (fun _ => 0) (.slice none 0 0) := HT2.out.other (by simp) _
  have HS1 := Lib.hid hs1; have HS2 := Lib.hid hs2
  clear hs1 hs2
  go_wp2_with (first
    | (at_builtin; refine wpList_append_run rfl (.const (.slice none 0 0)) (.tmp 4) 23 rfl (.slice none 0 0) (.slice A n ca) (.slice A' n c') w' rfl rfl HR.out ?_)
    | (refine wpList_load_row rfl _ _ rfl w.heap.size rfl _ (trA c (.slice A' n c')) (0, 0) _ HS1.out Try.underlying25 rfl (by rw [trA_size]; exact szTree) ?_)
    | (refine wpList_store_rowT rfl _ _ _ rfl (w.heap.size + 1) (trA c (.slice A' n c')) rfl rfl _ (trA (fun _ => 0) (.slice none 0 0)) HS2.out (by rw [trA_size]; exact szTree) (by rw [trA_size, trA_size]) (trA_one _ _ rfl) ?_))
  have hbe := below_setRowT (HBT.out.setCell (p := ⟨w.heap.size, 16, none⟩) (Nat.le_refl _) (.slice A' n c')) (g := w.heap.size + 1) (by omega) (trA c (.slice A' n c'))
  refine bodyPost_ret (v := .agg (trA c (.slice A' n c'))) ?_ rfl ⟨_, rfl, ?_, hbe⟩
  · exact results_cell_row rfl _ _ (w.heap.size + 1) _ _ (0, 0) _ rfl (setRow_tre HS2.out (d := c) (v := .slice A' n c')) Try.underlying25 rfl (by rw [trA_size]; exact szTree)
  · have ho := ownsRow_same HOW.out (w' := (w'.setCell ⟨w.heap.size, 16, none⟩ (.slice A' n c')).setRow (w.heap.size + 1) (trA c (.slice A' n c'))) (fun g hg => (setRow_other _ _ _ _ (by omega)).trans (Below.heap_setCell _ _ _ _ (by show g ≠ w.heap.size; omega)))
    rw [← HN.out] at ho
    unfold OwnS
    rw [← HN.out]
    exact ownsRow_lower ho (by omega)
/-! ### grown -/
def cntG (f : Nat → Nat) (n k j m : Nat) : Int := if 0 < m ∧ m < k then (tcN f m n : Int) else if m = k ∧ 0 < m then (tcN f k j : Int) else 0
def symG (f : Nat → Nat) (n k j : Nat) : List Nat := symL f n (k - 1) ++ rowM f k j
theorem cntG_step {f : Nat → Nat} {n k j : Nat} (hk : 0 < k) (h : f j = k) : (fun m => if m = k then cntG f n k j k + 1 else cntG f n k j m) = cntG f n k (j + 1) := by
  funext m
  unfold cntG
  by_cases e : m = k
  · subst e
    rw [if_pos rfl, if_neg (by omega), if_pos ⟨rfl, hk⟩, if_neg (by omega), if_pos ⟨rfl, hk⟩]
    simp only [tcN]
    rw [if_pos ⟨by omega, h⟩]; omega
  · rw [if_neg e]
    by_cases g : 0 < m ∧ m < k
    · rw [if_pos g, if_pos g]
    · rw [if_neg g, if_neg (fun h => e h.1), if_neg g, if_neg (fun h => e h.1)]
theorem cntG_skip {f : Nat → Nat} {n k j : Nat} (h : f j ≠ k) : cntG f n k j = cntG f n k (j + 1) := by
  funext m
  unfold cntG
  simp only [tcN]
  rw [show (if 0 < f j ∧ f j = k then 1 else 0) = 0 from if_neg (fun g => h g.2)]; rfl
theorem cntG_next (f : Nat → Nat) (n k : Nat) : cntG f n k n = cntG f n (k + 1) 0 := by
  funext m
  unfold cntG
  simp only [tcN]
  by_cases g : 0 < m ∧ m < k
  · rw [if_pos g, if_pos ⟨g.1, by omega⟩]
  · rw [if_neg g]
    by_cases e : m = k ∧ 0 < m
    · rw [if_pos e, if_pos ⟨e.2, by omega⟩, e.1]
    · rw [if_neg e, if_neg (by omega)]; split <;> rfl
theorem cntG_none (f : Nat → Nat) (n : Nat) : cntG f n 1 0 = fun _ => 0 := by
  funext m; unfold cntG; rw [if_neg (by omega)]; split <;> rfl
theorem cntG_last (f : Nat → Nat) (n : Nat) {m : Nat} (h : m < 16) : cntG f n 16 0 m = (tcN f m n : Int) := by
  unfold cntG
  by_cases g : 0 < m
  · rw [if_pos ⟨g, h⟩]
  · rw [if_neg (by omega), if_neg (by omega), show m = 0 by omega, cntN_zero]; rfl
theorem symG_step {f : Nat → Nat} {n k j : Nat} (h : f j = k) : symG f n k j ++ [j] = symG f n k (j + 1) := by
  unfold symG; simp only [rowM]; rw [if_pos h, List.append_assoc]
theorem symG_skip {f : Nat → Nat} {n k j : Nat} (h : f j ≠ k) : symG f n k j = symG f n k (j + 1) := by
  unfold symG; simp only [rowM]; rw [if_neg h, List.append_nil]
theorem symG_next (f : Nat → Nat) (n : Nat) {k : Nat} (hk : 0 < k) : symG f n k n = symG f n (k + 1) 0 := by
  obtain ⟨K, rfl⟩ : ∃ K, k = K + 1 := ⟨k - 1, by omega⟩
  unfold symG
  rw [Nat.add_sub_cancel, Nat.add_sub_cancel]
  simp only [rowM, symL, List.append_nil]
theorem symG_last (f : Nat → Nat) (n : Nat) : symG f n 16 0 = symL f n 15 := by unfold symG; simp [rowM]
theorem sumC_le (f : Nat → Nat) (n : Nat) : ∀ M, sumC f n M ≤ n * M
  | 0 => Nat.zero_le _
  | M + 1 => by
    have h1 := sumC_le f n M
    have h2 := cntN_le f (M + 1) n
    simp only [sumC]; rw [Nat.mul_succ]; omega
theorem symG_le (f : Nat → Nat) {n k j : Nat} (hk : 0 < k) (hk2 : k ≤ 16) (hj : j ≤ n) : (symG f n k j).length ≤ n * 16 := by
  unfold symG
  rw [List.length_append, symL_length, rowM_length f hk]
  have h1 := sumC_le f n (k - 1)
  have h2 := cntN_le f k j
  have h3 : n * (k - 1) + n ≤ n * 16 := by rw [← Nat.mul_succ]; exact Nat.mul_le_mul_left _ (by omega)
  omega
theorem natsI_app (a b : List Nat) : natsI a ++ natsI b = natsI (a ++ b) := by simp [natsI]
theorem cntG_in (f : Nat → Nat) {n k j m : Nat} (hj : j ≤ n) : 0 ≤ cntG f n k j m ∧ cntG f n k j m ≤ n := by
  unfold cntG
  have h1 := cntN_le f m n
  have h2 := cntN_le f k j
  split
  · omega
  · split <;> omega
set_option maxRecDepth 100000 in
set_option maxHeartbeats 2000000 in
theorem grown_any (w : World) (A : Option Addr) (n c : Nat) (f : Nat → Nat) (hr : RdB w w.heap.size A n f) (hn : n ≤ 10000) :
    Calls Try.prog 30 #[.slice A n c] w fun e w' => ∃ v, e = .returned (.agg (trA (fun m => (tcN f m n : Int)) v)) ∧ OwnS w' w.heap.size v (natsI (symL f n 15)) ∧ Below w.heap.size w w' := by
  have hz := (zero_of_info infoTree).1
  have HR := Lib.hid hr
  clear hr
  go_enter Try.func30, Try.ntmps30
  go_wp2
  go_loopw [4] (fun i wr => ∃ (k : Nat) (Ao : Option Addr) (co : Nat), 1 ≤ k ∧ k ≤ 16 ∧ i = .int .i64 k ∧ TreA wr w.heap.size (fun _ => 0) (.slice none 0 0) ∧ TreA wr (w.heap.size + 1) (cntG f n k 0) (.slice Ao (symG f n k 0).length co) ∧
    wr.ownsRow (w.heap.size + 2) 3 1 (.slice Ao (symG f n k 0).length co) (symG f n k 0).length (intsL (natsI (symG f n k 0))) ∧ Below w.heap.size w wr) (fun i _ => 16 - (intOf i).toNat)
  case atStart =>
    refine ⟨1, none, 0, Nat.le_refl _, by omega, rfl, heap_alloc2_old w _ _, ?_, World.ownsRow_nil _ _ _ 1, ((Below.refl _ _).alloc (Nat.le_refl _) _).alloc (by simp) _⟩
    rw [cntG_none]; exact heap_alloc2_new w _ _
  case round =>
    obtain ⟨k, Ao, co, hk1, hk, rfl, h0, h1, hown, hb⟩ := hrel
    obtain ⟨wo, rfl⟩ : ∃ wo : World, wo = wr := ⟨_, rfl⟩
    by_cases hlt : k < 16
    · have hd : decide ((k : Int) ≤ 15) = true := by simp; omega
      have H0 := Lib.hid h0; have H1 := Lib.hid h1; have HO := Lib.hid hown; have HB := Lib.hid hb
      clear h0 h1 hown hb
      go_wp2
      go_loopw [5] (fun i wi => ∃ (j : Nat) (Ai : Option Addr) (ci : Nat), j ≤ n ∧ i = .int .i64 j ∧ TreA wi w.heap.size (fun _ => 0) (.slice none 0 0) ∧ TreA wi (w.heap.size + 1) (cntG f n k j) (.slice Ai (symG f n k j).length ci) ∧
        wi.ownsRow (w.heap.size + 2) 3 1 (.slice Ai (symG f n k j).length ci) (symG f n k j).length (intsL (natsI (symG f n k j))) ∧ Below w.heap.size w wi) (fun i _ => n - (intOf i).toNat)
      case atStart => exact ⟨0, Ao, co, Nat.zero_le _, rfl, H0.out, H1.out, HO.out, HB.out⟩
      case round =>
        obtain ⟨j, Ai, ci, hj, rfl, h0, h1, hown, hb⟩ := hrel
        by_cases hlt2 : j < n
        · obtain ⟨b, o, rfl, _, hc⟩ := (HR.out.below hb (Nat.le_refl _)).2 (by omega)
          have hcell := hc j hlt2
          have hf8 := HR.out.1 j
          clear hc
          by_cases he : f j = k
          · have hin := cntG_in f (n := n) (k := k) (j := j) (m := k) hj
            have hle := symG_le f (n := n) (k := k) (j := j) (by omega) hk hj
            have c1 := h1.cnt (show k < 16 by omega)
            have f1 := h1.frozen k
            have hset := h1.setCnt (show k < 16 by omega) (cntG f n k j k + 1)
            rw [cntG_step (by omega) he] at hset
            have hss := symG_step (n := n) he
            obtain ⟨L, hL⟩ : ∃ L, L = (symG f n k j).length := ⟨_, rfl⟩
            rw [← hL] at hown hset h1 hle
            obtain ⟨x, hx⟩ : ∃ x, x = cntG f n k j k := ⟨_, rfl⟩
            rw [← hx] at c1 hin hset
            have hown2 := ownsRow_setCell_below hown (a := ⟨w.heap.size + 1, k, none⟩) (by show w.heap.size + 1 < _; omega) (.int .i64 (x + 1))
            have hsz : (wr.setCell ⟨w.heap.size + 1, k, none⟩ (.int .i64 (x + 1))).heap.size = wr.heap.size := by simp [World.setCell]
            have hlt1 := h1.lt
            obtain ⟨A', c', w2, hrun, hown3, hb3⟩ := run_one (wr.setCell ⟨w.heap.size + 1, k, none⟩ (.int .i64 (x + 1))) (w.heap.size + 2) Ai L ci _ hown2 (j : Int) (by omega) (by rw [hsz]; omega)
            rw [hsz] at hrun
            have hs1 := hset.syms
            have ht2 := hset.below hb3 (by omega)
            have ht0 := (h0.other (p := ⟨w.heap.size + 1, k, none⟩) (by simp) (.int .i64 (x + 1))).below hb3 (by omega)
            have hbb := (hb.setCell (p := ⟨w.heap.size + 1, k, none⟩) (by simp) (.int .i64 (x + 1))).trans (hb3.mono (by omega))
            have hf2 := ht2.frozen 16
            have hs2 := ht2.syms
            have HSET := Lib.hid ht2; have HT0 := Lib.hid ht0; have HBB := Lib.hid hbb; have HRUN := Lib.hid hrun; have HOWN := Lib.hid hown3; have HSS := Lib.hid hss; have HLL := Lib.hid hL
            clear h0 h1 hown hb hset hown2 hrun hown3 hb3 ht2 ht0 hbb hss hL hx hsz
            have hkk : ((f j : Int) == (k : Int)) = true := by simp; omega
            go_wp2_with (at_builtin; refine wpList_append_run rfl (.tmp 31) (.tmp 33) 23 rfl (.slice Ai L ci) (.slice (some ⟨wr.heap.size, 0, none⟩) 1 1) (.slice A' (L + 1) c') w2 rfl rfl HRUN.out ?_)
            go_roundw
            case rel =>
              have e1 : L + 1 = (symG f n k (j + 1)).length := by rw [← HSS.out, List.length_append, ← HLL.out]; rfl
              have e2 : natsI (symG f n k j) ++ [(j : Int)] = natsI (symG f n k (j + 1)) := by rw [← HSS.out, ← natsI_app]; rfl
              refine ⟨j + 1, A', c', by omega, by go_num, HT0.out.other (by simp) _, ?_, ?_, HBB.out.setCell (by simp) _⟩
              · rw [← e1]; exact HSET.out.setSyms _
              · rw [← e1, ← e2]
                exact ownsRow_setCell_below HOWN.out (by show w.heap.size + 1 < _; omega) _
            case measure => simp [intOf]; omega
          · have hno : ((f j : Int) == (k : Int)) = false := by simp; omega
            have HC := Lib.hid (cntG_skip (n := n) he); have HS := Lib.hid (symG_skip (n := n) he)
            have H0' := Lib.hid h0; have H1' := Lib.hid h1; have HO' := Lib.hid hown; have HB' := Lib.hid hb
            clear h0 h1 hown hb
            go_wp2
            go_roundw
            case rel =>
              refine ⟨j + 1, Ai, ci, by omega, by go_num, H0'.out, ?_, ?_, HB'.out⟩
              · rw [← HC.out, ← HS.out]; exact H1'.out
              · rw [← HS.out]; exact HO'.out
            case measure => simp [intOf]; omega
        · obtain rfl : j = n := by omega
          have HC := Lib.hid (cntG_next f j k); have HS := Lib.hid (symG_next f j (k := k) (by omega))
          have H0' := Lib.hid h0; have H1' := Lib.hid h1; have HO' := Lib.hid hown; have HB' := Lib.hid hb
          clear h0 h1 hown hb hlt2 hj
          go_wp2
          go_roundw
          case rel =>
            refine ⟨k + 1, Ai, ci, by omega, by omega, by go_num, H0'.out, ?_, ?_, HB'.out⟩
            · rw [← HC.out, ← HS.out]; exact H1'.out
            · rw [← HS.out]; exact HO'.out
          case measure => simp [intOf]; omega
    · obtain rfl : k = 16 := by omega
      rw [symG_last] at h1 hown
      have h1' : TreA wo (w.heap.size + 1) (cntG f n 16 0) (.slice Ao (symL f n 15).length co) := h1
      have e := trA_ext (.slice Ao (symL f n 15).length co) (fun m hm => cntG_last f n (m := m) hm)
      unfold TreA at h1'
      rw [e] at h1'
      have hcap : Ao = none → co = 0 := fun h => (own_cap hown).2.2 h |>.2
      obtain ⟨L, hL⟩ : ∃ L, L = (symL f n 15).length := ⟨_, rfl⟩
      rw [← hL] at h1' hown
      have H0' := Lib.hid h0; have H1' := Lib.hid h1'; have HO' := Lib.hid hown; have HB' := Lib.hid hb; have HC := Lib.hid hcap; have HL := Lib.hid hL
      clear h0 h1 h1' hown hb hlt hk hk1 hcap e hL
      go_wp2_with (first
        | (refine wpList_load_row rfl _ _ rfl (w.heap.size + 1) rfl _ (trA (fun m => (tcN f m n : Int)) (.slice Ao L co)) (0, 0) _ H1'.out Try.underlying25 rfl (by rw [trA_size]; exact szTree) ?_)
        | (refine wpList_store_rowT rfl _ _ _ rfl w.heap.size (trA (fun m => (tcN f m n : Int)) (.slice Ao L co)) rfl rfl _ (trA (fun _ => 0) (.slice none 0 0)) H0'.out (by rw [trA_size]; exact szTree) (by rw [trA_size, trA_size]) (trA_one _ _ rfl) ?_))
      have hbe := below_setRowT HB'.out (g := w.heap.size) (Nat.le_refl _) (trA (fun m => (tcN f m n : Int)) (.slice Ao L co))
      refine bodyPost_ret (v := .agg (trA (fun m => (tcN f m n : Int)) (.slice Ao L co))) ?_ rfl ⟨_, rfl, ?_, hbe⟩
      · exact results_cell_row rfl _ _ w.heap.size _ _ (0, 0) _ rfl (setRow_tre H0'.out (d := fun m => (tcN f m n : Int)) (v := .slice Ao L co)) Try.underlying25 rfl (by rw [trA_size]; exact szTree)
      · have ho := ownsRow_same HO'.out (w' := wo.setRow w.heap.size (trA (fun m => (tcN f m n : Int)) (.slice Ao L co))) (fun g hg => setRow_other _ _ _ _ (by omega))
        unfold OwnS
        rw [natsI_length, ← HL.out]
        exact ownsRow_lower ho (by omega)
end Go.Proofs.Ytedjapamimhglaa
