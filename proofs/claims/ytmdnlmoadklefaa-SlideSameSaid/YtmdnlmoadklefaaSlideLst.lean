/-
  Layer 6 (slide): what the program's last, into and copied answer.
-/
import Derived.Test.YtmdnlmoadklefaaSlideNum
import Derived.Test.YtmdnlmoadklefaaConcat
import Derived.Great.BuildSlice
namespace Go.Proofs.Ytmdnlmoadklefaa
open Go.RowKit
set_option maxRecDepth 100000 in
set_option maxHeartbeats 1000000 in
theorem last_any (w : World) (A : Option Addr) (n c : Nat) (f : Nat → Nat) (hr : ByR w w.heap.size A n c f) (k : Nat) (hk : k ≤ 1000000000) :
    Calls Try.prog 14 #[.slice A n c, .int .i64 (k : Int)] w fun e w' => ∃ A' c', e = .returned (.slice A' (n - (n - k)) c') ∧ w = w' ∧ ByR w w.heap.size A' (n - (n - k)) c' (fun j => f (j + (n - k))) := by
  obtain ⟨q, hq⟩ : ∃ q, q = n - k := ⟨_, rfl⟩
  rw [← hq]
  have hmx : max ((n : Int) - (k : Int)) 0 = (q : Int) := by omega
  have hqn : q ≤ n := by omega
  have hnc := hr.2.2.1
  have hcm := hr.2.2.2
  unfold maxLen at hcm
  rcases A with _ | a
  · have hc0 : c = 0 := hr.2.1 rfl
    obtain rfl : n = 0 := by omega
    obtain rfl : q = 0 := by omega
    subst hc0
    have HR := Lib.hid hr
    clear hr hq hqn hnc hcm hmx
    by_cases h0 : 0 < k
    · have h1 : -(k : Int) < 0 := by omega
      go_enter Try.func14, Try.ntmps14
      go_wp2
      go_ret
      exact ⟨none, 0, rfl, rfl, HR.out⟩
    · obtain rfl : k = 0 := by omega
      go_enter Try.func14, Try.ntmps14
      go_wp2
      go_ret
      exact ⟨none, 0, rfl, rfl, HR.out⟩
  · by_cases hnk : n < k
    · obtain rfl : q = 0 := by omega
      have HR := Lib.hid hr
      have h1 : (n : Int) - (k : Int) < 0 := by omega
      have h2 : ¬ (0 : Int) ≤ (n : Int) - (k : Int) := by omega
      clear hr hq hmx
      go_enter Try.func14, Try.ntmps14
      go_wp2
      go_ret
      exact ⟨some a, c, rfl, rfl, HR.out⟩
    · obtain ⟨A2, hA2⟩ : ∃ A2, (if c = q then (some a : Option Addr) else some (a.add q)) = A2 := ⟨_, rfl⟩
      have HD := Lib.hid (hr.drop hqn hA2)
      have hqc : q ≤ c := by omega
      have hk2 : (n : Int) - (k : Int) = (q : Int) := by omega
      have h1 : ¬ (q : Int) < 0 := by omega
      clear hr hq hmx
      go_enter Try.func14, Try.ntmps14
      go_wp2
      go_ret
      exact ⟨A2, c - q, rfl, rfl, HD.out⟩

/-! ### into -/
def two {α : Type} (x y : α) : Nat → α
  | 0 => x
  | _ + 1 => y
theorem in_sum {S n m : Nat} (hn : n ≤ S) : sumU (two (n - (n - (S - (m - (m - S))))) (m - (m - S))) 2 = inN S n m := by
  simp only [sumU, two]
  unfold inN keepN
  omega
theorem in_cat {S n m : Nat} {f g : Nat → Nat} (hn : n ≤ S) {j : Nat} (hj : j < inN S n m) :
    catU (two (n - (n - (S - (m - (m - S))))) (m - (m - S))) (two (fun j => f (j + (n - (S - (m - (m - S)))))) (fun j => g (j + (m - S)))) 2 j = inF S n f m g j := by
  unfold inN keepN at hj
  simp only [catU, sumU, two]
  unfold inF dropN cat
  dsimp only
  repeat' split
  all_goals first | (exfalso; omega) | (congr 1; omega)
set_option maxRecDepth 100000 in
set_option maxHeartbeats 2000000 in
theorem into_any (w : World) (S : Nat) (hS1 : 1 ≤ S) (hS : S ≤ 32768) (A : Option Addr) (n c : Nat) (f : Nat → Nat) (hr : ByR w w.heap.size A n c f) (hn : n ≤ S) (A2 : Option Addr) (m c2 : Nat) (g : Nat → Nat) (hg : ByR w w.heap.size A2 m c2 g) (hm : m ≤ 1000000) (l : Nat) (hl : l = inN S n m) :
    Calls Try.prog 15 #[.agg #[.int .i64 (S : Int), .slice A n c], .slice A2 m c2] w fun e w' => ∃ A', e = .returned (.agg #[.int .i64 (S : Int), .slice A' l l]) ∧ ByR w' w'.heap.size A' l l (inF S n f m g) ∧ Below w.heap.size w w' ∧ (∀ b, A'.map (·.block) = some b → w.heap.size ≤ b) := by
  have hb0 := ((Below.refl w.heap.size w).alloc (Nat.le_refl _) (.cells #[.int .i64 (S : Int), .slice A n c] 24)).alloc (by simp) (.cells #[.int .i64 0, .slice none 0 0] 24)
  obtain ⟨W1, hW1⟩ : ∃ W1, W1 = (w.alloc (.cells #[.int .i64 (S : Int), .slice A n c] 24)).alloc (.cells #[.int .i64 0, .slice none 0 0] 24) := ⟨_, rfl⟩
  have hsz : W1.heap.size = w.heap.size + 2 := by rw [hW1]; simp
  rw [← hW1] at hb0
  have p1 : W1.heap[w.heap.size]? = some (.cells #[.int .i64 (S : Int), .slice A n c] 24 (0, 0)) := by
    rw [hW1, heap_alloc_old _ _ (by simp)]; exact heap_alloc_new w _
  have p2 : W1.heap[w.heap.size + 1]? = some (.cells #[.int .i64 0, .slice none 0 0] 24 (0, 0)) := by
    rw [hW1]; have := heap_alloc_new (w.alloc (.cells #[.int .i64 (S : Int), .slice A n c] 24)) (.cells #[.int .i64 0, .slice none 0 0] 24); simpa using this
  have HR := Lib.hid ((hr.below hb0 (Nat.le_refl _)).more hb0.size); have HG := Lib.hid ((hg.below hb0 (Nat.le_refl _)).more hb0.size); have HB0 := Lib.hid hb0; have HW1 := Lib.hid hW1; have HP1 := Lib.hid p1; have HP2 := Lib.hid p2; have HL := Lib.hid hl
  have a1 : W1.cell? ⟨w.heap.size, 0, none⟩ = some (.int .i64 (S : Int)) := (cell_of_row W1 _ 0 _ _ (0, 0) p1).trans rfl
  have a2 : W1.cell? ⟨w.heap.size, 1, none⟩ = some (.slice A n c) := (cell_of_row W1 _ 1 _ _ (0, 0) p1).trans rfl
  have hwz : w.heap.size < W1.heap.size := by omega
  have HSZ := Lib.hid hsz
  clear hr hg hb0 hW1 p1 p2 hl hsz
  go_enter Try.func15, Try.ntmps15
  go_wp2_with fail
  rw [← HW1.out]
  go_wp2_with fail
  refine (last_any W1 A2 m c2 g HG.out S (by omega)).mono ?_
  rintro e w' ⟨A3, c3, rfl, rfl, h3⟩
  have H3 := Lib.hid h3
  clear h3
  obtain ⟨m', hm'⟩ : ∃ m', m' = m - (m - S) := ⟨_, rfl⟩
  rw [← hm'] at H3 ⊢
  have HM := Lib.hid hm'
  obtain ⟨t, ht⟩ : ∃ t, t = S - m' := ⟨_, rfl⟩
  have et : (S : Int) - (m' : Int) = (t : Int) := by omega
  have HT := Lib.hid ht
  have hm2 : m' ≤ S := by omega
  clear hm' ht
  go_wp2_with fail
  refine (last_any W1 A n c f HR.out t (by omega)).mono ?_
  rintro e w' ⟨A4, c4, rfl, rfl, h4⟩
  have H4 := Lib.hid h4
  clear h4
  obtain ⟨n', hn'⟩ : ∃ n', n' = n - (n - t) := ⟨_, rfl⟩
  rw [← hn'] at H4 ⊢
  have HN := Lib.hid hn'
  clear hn'
  obtain ⟨W2, hW2⟩ : ∃ W2, W2 = W1.alloc (.cells #[.slice A4 n' c4, .slice A3 m' c3] 22) := ⟨_, rfl⟩
  have hb2 : Below W1.heap.size W1 W2 := by rw [hW2]; exact (Below.refl _ _).alloc (Nat.le_refl _) _
  have q2 : W2.heap[W1.heap.size]? = some (.cells #[.slice A4 n' c4, .slice A3 m' c3] 22 (0, 0)) := by rw [hW2]; exact heap_alloc_new W1 _
  have hsz2 : W2.heap.size = w.heap.size + 3 := by rw [hW2]; simp [HSZ.out]
  have hff : ∀ i j, two (fun j => f (j + (n - t))) (fun j => g (j + (m - S))) i j < 256 := by
    intro i j
    cases i with
    | zero => exact H4.out.1.1 j
    | succ i => exact H3.out.1.1 j
  have hrows : RowsB W2 W2.heap.size (some ⟨W1.heap.size, 0, none⟩) 2 (two n' m') (two (fun j => f (j + (n - t))) (fun j => g (j + (m - S)))) := by
    refine fun _ => ⟨W1.heap.size, 0, rfl, by have := HSZ.out; omega, fun i hi => ?_⟩
    have e : i = 0 ∨ i = 1 := by omega
    rcases e with rfl | rfl
    · exact ⟨A4, c4, (cell_of_row W2 _ 0 _ _ (0, 0) q2).trans rfl, (H4.out.1.below hb2 (Nat.le_refl _)).more hb2.size, H4.out.2.1⟩
    · exact ⟨A3, c3, (cell_of_row W2 _ 1 _ _ (0, 0) q2).trans rfl, (H3.out.1.below hb2 (Nat.le_refl _)).more hb2.size, H3.out.2.1⟩
  have hsum : sumU (two n' m') 2 = l := by rw [HL.out, HN.out, HT.out, HM.out]; exact in_sum hn
  have hl3 : l ≤ 32768 := by rw [HL.out]; exact Nat.le_trans (inN_le S n m) hS
  have hcn := concat_any W2 (some ⟨W1.heap.size, 0, none⟩) 2 2 (two n' m') _ hff hrows (by omega) (by rw [hsum]; omega)
  rw [hsum] at hcn
  have hwz2 : w.heap.size < W2.heap.size := by omega
  have hwz3 : w.heap.size + 1 < W2.heap.size := by omega
  have HSZ2 := Lib.hid hsz2
  have HCN := Lib.hid hcn; have HW2 := Lib.hid hW2; have HB2 := Lib.hid (HB0.out.trans (hb2.mono (by have := HSZ.out; omega)))
  have hP1 : W2.heap[w.heap.size]? = _ := (hb2.block w.heap.size (by omega)).trans HP1.out
  have hP2 : W2.heap[w.heap.size + 1]? = _ := (hb2.block (w.heap.size + 1) (by have := HSZ.out; omega)).trans HP2.out
  have HQ1 := Lib.hid hP1; have HQ2 := Lib.hid hP2
  clear hff hrows hsum hcn hW2 q2 hP1 hP2 hb2 hsz2
  go_wp2_with fail
  rw [← HW2.out]
  refine HCN.out.mono ?_
  rintro e w3 ⟨A5, c5, rfl, h5, hb5, hge⟩
  have hp1 := (hb5.block w.heap.size hwz2).trans HQ1.out
  have hp2 := (hb5.block (w.heap.size + 1) hwz3).trans HQ2.out
  have b1 : w3.cell? ⟨w.heap.size, 0, none⟩ = some (.int .i64 (S : Int)) := (cell_of_row w3 _ 0 _ _ (0, 0) hp1).trans rfl
  have d1 : w3.cell? ⟨w.heap.size + 1, 0, none⟩ = some (.int .i64 0) := (cell_of_row w3 _ 0 _ _ (0, 0) hp2).trans rfl
  have d2 : w3.cell? ⟨w.heap.size + 1, 1, none⟩ = some (.slice none 0 0) := (cell_of_row w3 _ 1 _ _ (0, 0) hp2).trans rfl
  have f1 : w3.frozen? ⟨w.heap.size + 1, 0, none⟩ = false := frozen_of_row w3 _ 0 _ _ hp2
  have f2 : w3.frozen? ⟨w.heap.size + 1, 1, none⟩ = false := frozen_of_row w3 _ 1 _ _ hp2
  have hlc := h5.2.2.1
  have hcm := h5.2.2.2
  unfold maxLen at hcm
  have hfin : ByR w3 w3.heap.size A5 l l (inF S n f m g) := by
    refine (h5.cut l (Nat.le_refl _) hlc).ext (inF_lt HR.out.1.1 HG.out.1.1) fun j hj => ?_
    rw [HL.out] at hj
    rw [← in_cat hn hj, HN.out, HT.out, HM.out]
  have HF := Lib.hid hfin; have HB5 := Lib.hid (HB2.out.trans (hb5.mono (by have := HSZ2.out; omega))); have HGE := Lib.hid hge
  clear h5 hb5 hge hp1 hp2 hfin a1 a2
  have e1 : ((w3.setCell ⟨w.heap.size + 1, 0, none⟩ (.int .i64 (S : Int))).setCell ⟨w.heap.size + 1, 1, none⟩ (.slice A5 l l)).cell? ⟨w.heap.size + 1, 0, none⟩ = some (.int .i64 (S : Int)) := (World.cell?_setCell_other _ _ _ _ (by simp)).trans (World.cell?_setCell_same _ _ _ d1)
  have e2 : ((w3.setCell ⟨w.heap.size + 1, 0, none⟩ (.int .i64 (S : Int))).setCell ⟨w.heap.size + 1, 1, none⟩ (.slice A5 l l)).cell? ⟨w.heap.size + 1, 1, none⟩ = some (.slice A5 l l) := World.cell?_setCell_same _ _ _ ((World.cell?_setCell_other _ _ _ _ (by simp)).trans d2)
  go_wp2
  go_region
  go_wp2
  refine bodyPost_ret (v := .agg #[.int .i64 (S : Int), .slice A5 l l]) (by simp [results, Try.results15, go_sem, e1, e2]) rfl ⟨A5, rfl, ?_, ?_, fun b hb => by have := HGE.out b hb; have := HSZ2.out; omega⟩
  · have hlt := HSZ2.out
    exact (((HF.out.other ⟨w.heap.size + 1, 0, none⟩ (.int .i64 (S : Int)) (fun b hb => by have := HGE.out b hb; show b ≠ w.heap.size + 1; omega)).other ⟨w.heap.size + 1, 1, none⟩ (.slice A5 l l) (fun b hb => by have := HGE.out b hb; show b ≠ w.heap.size + 1; omega)).drew).more (by simp)
  · exact ((HB5.out.setCell (p := ⟨w.heap.size + 1, 0, none⟩) (Nat.le_succ _) _).setCell (p := ⟨w.heap.size + 1, 1, none⟩) (Nat.le_succ _) _).drew
/-! ### copied -/
set_option maxRecDepth 100000 in
set_option maxHeartbeats 2000000 in
theorem copied_any (w : World) (A : Option Addr) (d c : Nat) (f : Nat → Nat) (hr : ByR w w.heap.size A d c f) (hd : 0 < d) (hd6 : d ≤ 1000000) (n : Nat) (hn : n ≤ 1000000) :
    Calls Try.prog 13 #[.slice A d c, .int .i64 (n : Int)] w fun e w' => ∃ A' c', e = .returned (.slice A' n c') ∧ ByR w' w'.heap.size A' n c' (fun i => f (i % d)) ∧ Below w.heap.size w w' ∧ (∀ b, A'.map (·.block) = some b → w.heap.size ≤ b) := by
  obtain ⟨F, hF⟩ : ∃ F : Nat → Nat, F = fun i => f (i % d) := ⟨_, rfl⟩
  rw [← hF]
  have hF6 : ∀ j, F j < 256 := by rw [hF]; exact fun j => hr.1.1 _
  have hmk := make_cap8 n (by omega)
  have hown := own_madeB w n (by omega) F
  have hbl : Below w.heap.size w (w.alloc (.cells (madeCells #[.int .u8 0] n) 5)) := (Below.refl _ w).alloc (Nat.le_refl _) _
  obtain ⟨u, hu⟩ : ∃ u, u = w.alloc (.cells (madeCells #[.int .u8 0] n) 5) := ⟨_, rfl⟩
  rw [← hu] at hown hbl
  have HR := Lib.hid hr; have HF := Lib.hid hF; have HF6 := Lib.hid hF6; have HU := Lib.hid hu; have HO := Lib.hid hown; have HB := Lib.hid hbl
  clear hr hF hF6 hu hown hbl
  go_enter Try.func13, Try.ntmps13
  go_wp2
  rw [← HU.out]
  clear hmk
  go_loopw [5, 10] (fun s i wr => ∃ (t : Nat) (At : Option Addr) (ct : Nat), t ≤ n ∧ i = .int .i64 (t : Int) ∧ s = .slice At t ct ∧ Hid (wr.ownsRow w.heap.size 5 1 (.slice At t ct) t (bytesL t F)) ∧ Hid (Below w.heap.size w wr)) (fun _ i _ => n - (intOf i).toNat)
  case atStart => exact ⟨0, _, _, Nat.zero_le _, rfl, rfl, HO, HB⟩
  case round =>
    obtain ⟨t, At, ct, ht, rfl, rfl, HO2, HB2⟩ := hrel
    by_cases hlt : t < n
    · have hlti : (t : Int) < (n : Int) := by omega
      obtain ⟨b, o, rfl, hb, hcc⟩ := (HR.out.1.below HB2.out (Nat.le_refl _)).2 hd
      obtain ⟨p, hp⟩ : ∃ p, p = t % d := ⟨_, rfl⟩
      have hpd : p < d := by rw [hp]; exact Nat.mod_lt _ hd
      have e0 : (t : Int) % (d : Int) = (p : Int) := by omega
      have e1 : Int.tmod (t : Int) (d : Int) = (p : Int) := by rw [Int.tmod_eq_emod_of_nonneg (by omega)]; exact e0
      have k1 := hcc p hpd
      obtain ⟨x, hx⟩ : ∃ x, x = f p := ⟨_, rfl⟩
      rw [← hx] at k1
      have hxF : x = F t := by rw [HF.out, hx, hp]
      obtain ⟨A', c', w', r1, r2, r3⟩ := run_oneB wr w.heap.size At t ct F HF6.out HO2.out x hxF (by omega) HB2.out.size
      have R1 := Lib.hid r1; have R2 := Lib.hid r2; have R3 := Lib.hid (HB2.out.trans r3)
      clear hcc r1 r2 r3 hp hx hxF
      go_wp2_with (at_builtin; refine wpList_append_run rfl (.tmp 13) (.tmp 21) 22 rfl (.slice At t ct) (.slice (some ⟨wr.heap.size, 0, none⟩) 1 1) (.slice A' (t + 1) c') w' rfl rfl R1.out ?_)
      go_roundw
      case rel => exact ⟨t + 1, A', c', by omega, by go_num, rfl, R2, R3⟩
      case measure => simp [intOf]; omega
    · obtain rfl : t = n := by omega
      have hlti : ¬ (t : Int) < (t : Int) := by omega
      go_wp2
      go_ret
      exact ⟨At, ct, rfl, ByR.of_own HO2.out HF6.out, HB2.out, fun b hb => by subst hb; exact own_ge HO2.out b.block rfl⟩
end Go.Proofs.Ytmdnlmoadklefaa
