/-
  Layer 9 (reach), the landed code: filled; the kinds of lengths and of distances.
-/
import Derived.Test.YtdecacajignkoaaReaKnd
import Derived.Test.YtdecacajignkoaaApp
import Derived.BigRegion
import Derived.BigQuiet
import Derived.Great.BuildSlice
namespace Go.Proofs.Ytdecacajignkoaa
open Go.RowKit
theorem tbl_ext {T T' : Nat → Int} {n : Nat} (h : ∀ i, i < n → T i = T' i) : tblA T n = tblA T' n := by
  unfold tblA tblL
  congr 1
  exact List.map_congr_left fun i hi => by rw [h i (List.mem_range.1 hi)]
theorem tbl_set (T : Nat → Int) (n i : Nat) (x : Int) : (tblA T n).setIfInBounds i (.int .i64 x) = tblA (fun k => if k = i then x else T k) n := by
  apply Array.ext_getElem?
  intro k
  rw [Array.getElem?_setIfInBounds, tblA_size]
  rcases Nat.lt_or_ge k n with h | h
  · rw [tblA_get _ _ _ h]
    by_cases e : i = k
    · subst e; rw [if_pos rfl, if_pos h, tblA_get _ _ _ h, if_pos rfl]
    · rw [if_neg e, tblA_get _ _ _ h, if_neg (fun g : k = i => e g.symm)]
  · have h1 : (tblA T n)[k]? = none := Array.getElem?_eq_none (by rw [tblA_size]; exact h)
    have h2 : (tblA (fun k => if k = i then x else T k) n)[k]? = none := Array.getElem?_eq_none (by rw [tblA_size]; exact h)
    rw [h1, h2]
    by_cases e : i = k
    · subst e; rw [if_pos rfl, if_neg (by omega)]
    · rw [if_neg e]
section
variable {w : World} {g : Nat} {l m f s o : Int} {M : Nat → Nat}
theorem Knd.setMany (h : Knd w g l m f s o M) {j : Nat} (hj : j < 14) (x : Nat) : Knd (w.setCell ⟨g, 4 + j, none⟩ (.int .i64 (x : Int))) g l m f s o (fun i => if i = j then x else M i) := by
  unfold Knd kdA
  rw [heap_setCell_same w g (4 + j) _ _ _ h]
  unfold kdA
  rw [tbl_set]
  refine congrArg (fun a => some (Obj.cells a 41 (0, 0))) (tbl_ext fun i hi => ?_)
  unfold kdC
  by_cases e : i = 4 + j
  · subst e
    rw [if_pos rfl, if_neg (by omega), if_neg (by omega), if_neg (by omega), if_neg (by omega), if_pos (by omega)]
    show (x : Int) = ((if 4 + j - 4 = j then x else M (4 + j - 4) : Nat) : Int)
    rw [if_pos (by omega)]
  · rw [if_neg e]
    by_cases h4 : i < 4
    · have : i = 0 ∨ i = 1 ∨ i = 2 ∨ i = 3 := by omega
      rcases this with rfl | rfl | rfl | rfl <;> rfl
    · rw [if_neg (show ¬ i = 0 by omega), if_neg (show ¬ i = 1 by omega), if_neg (show ¬ i = 2 by omega), if_neg (show ¬ i = 3 by omega), if_neg (show ¬ i = 0 by omega), if_neg (show ¬ i = 1 by omega), if_neg (show ¬ i = 2 by omega), if_neg (show ¬ i = 3 by omega)]
      show _ = (if i < 18 then ((if i - 4 = j then x else M (i - 4) : Nat) : Int) else o)
      rw [if_neg (show ¬ i - 4 = j by omega)]
theorem Knd.setAt (h : Knd w g l m f s o M) {l' m' f' s' o' : Int} (k : Nat) (x : Int) (he : ∀ i, i < 19 → (if i = k then x else kdC l m f s o M i) = kdC l' m' f' s' o' M i) : Knd (w.setCell ⟨g, k, none⟩ (.int .i64 x)) g l' m' f' s' o' M := by
  unfold Knd kdA
  rw [heap_setCell_same w g k _ _ _ h]
  unfold kdA
  rw [tbl_set]
  exact congrArg (fun a => some (Obj.cells a 41 (0, 0))) (tbl_ext he)
theorem Knd.setMost (h : Knd w g l m f s o M) (x : Int) : Knd (w.setCell ⟨g, 1, none⟩ (.int .i64 x)) g l x f s o M :=
  h.setAt 1 x fun i hi => by
    unfold kdC
    by_cases e : i = 1
    · subst e; rfl
    · rw [if_neg e]; by_cases e0 : i = 0
      · subst e0; rfl
      · rw [if_neg e0, if_neg e, if_neg e0, if_neg e]
theorem Knd.setLast (h : Knd w g l m f s o M) (x : Int) : Knd (w.setCell ⟨g, 3, none⟩ (.int .i64 x)) g l m f x o M :=
  h.setAt 3 x fun i hi => by
    unfold kdC
    by_cases e : i = 3
    · subst e; rfl
    · rw [if_neg e, if_neg e, if_neg e]
theorem Knd.setOwn (h : Knd w g l m f s o M) (x : Int) : Knd (w.setCell ⟨g, 18, none⟩ (.int .i64 x)) g l m f s x M :=
  h.setAt 18 x fun i hi => by
    unfold kdC
    by_cases e : i = 18
    · subst e; rfl
    · rw [if_neg e]
      by_cases e0 : i < 18
      · rw [if_pos e0, if_pos e0]
      · omega
theorem Knd.other (h : Knd w g l m f s o M) {p : Addr} (hp : g ≠ p.block) (u : Value) : Knd (w.setCell p u) g l m f s o M := (Below.heap_setCell w p u g hp).trans h
end
theorem built_kd (a b c d : Int) : Try.prog.built 41 [(0, .int .i64 a), (1, .int .i64 b), (2, .int .i64 c), (3, .int .i64 d)] = some (kdA a b c d 0 (fun _ => 0)) := by kernel_rfl
/-- The first j numbers of a list, then none. -/
def fstM (L : List Nat) (j : Nat) : Nat → Nat := fun i => if i < j then L.getD i 0 else 0
theorem fstM_next (L : List Nat) (j : Nat) : (fun i => if i = j then L.getD j 0 else fstM L j i) = fstM L (j + 1) := by
  funext i
  unfold fstM
  by_cases e : i = j
  · subst e; rw [if_pos rfl, if_pos (by omega)]
  · rw [if_neg e]
    by_cases h : i < j
    · rw [if_pos h, if_pos (by omega)]
    · rw [if_neg h, if_neg (by omega)]
theorem fstM_all (L : List Nat) : fstM L L.length = fun i => L.getD i 0 := by
  funext i
  unfold fstM
  by_cases h : i < L.length
  · rw [if_pos h]
  · rw [if_neg h, List.getD_eq_getElem?_getD, List.getElem?_eq_none (by omega)]; rfl
def lsM (L : List Nat) : Nat → Nat := fun i => L.getD i 0
set_option maxRecDepth 100000 in
set_option maxHeartbeats 4000000 in
theorem filled9_any (w : World) (l f : Int) (A : Option Addr) (cap N : Nat) (L : List Nat) (hN : N = L.length) (hN14 : N ≤ 14) (hr : RdI w w.heap.size A (natsI L)) (hl : 0 ≤ l ∧ l ≤ 1000) (hf : 0 ≤ f ∧ f ≤ 1000) (hS : smS (lsM L) N ≤ 40000) (hC : smC (lsM L) N ≤ 40) :
    Calls Try.prog 31 #[.int .i64 l, .int .i64 f, .slice A N cap] w fun e w' => e = .returned (.agg (kdA l (l - 1 + ((smS (lsM L) N : Nat) : Int)) f (f - 1 + ((smC (lsM L) N : Nat) : Int)) 0 (lsM L))) ∧ Below w.heap.size w w' := by
  have hz := (zero_of_info infoKd).1
  have HR := Lib.hid hr; have HS := Lib.hid hS; have HC := Lib.hid hC; have HN := Lib.hid hN
  obtain ⟨hl0, hl1⟩ := hl
  obtain ⟨hf0, hf1⟩ := hf
  clear hr hS hC hN
  obtain ⟨V, hV⟩ : ∃ V, V = mkV (w.alloc (.cells (kdA 0 0 0 0 0 (fun _ => 0)) 41)) (kdA 0 0 0 0 0 (fun _ => 0)) (kdA l (l - 1) f (f - 1) 0 (fun _ => 0)) 41 := ⟨_, rfl⟩
  have v1 : Knd V (w.heap.size + 1) l (l - 1) f (f - 1) 0 (fun _ => 0) := by
    have := mkV_row (w.alloc (.cells (kdA 0 0 0 0 0 (fun _ => 0)) 41)) (kdA 0 0 0 0 0 (fun _ => 0)) (kdA l (l - 1) f (f - 1) 0 (fun _ => 0)) 41
    rw [World.size_alloc, ← hV] at this; exact this
  have bV := mkV_below (w.alloc (.cells (kdA 0 0 0 0 0 (fun _ => 0)) 41)) (kdA 0 0 0 0 0 (fun _ => 0)) (kdA l (l - 1) f (f - 1) 0 (fun _ => 0)) 41
  rw [← hV] at bV
  have v0 : Knd V w.heap.size 0 0 0 0 0 (fun _ => 0) := (knd_new w 0 0 0 0 0 (fun _ => 0)).below bV (by simp)
  have b0 : Below w.heap.size w V := ((Below.refl _ _).alloc (Nat.le_refl _) _).trans (bV.mono (by simp))
  have hn := (heap_alloc_new (w.alloc (.cells (kdA 0 0 0 0 0 (fun _ => 0)) 41)) (.cells (kdA 0 0 0 0 0 (fun _ => 0)) 41))
  rw [World.size_alloc] at hn
  have hVe : ((w.alloc (.cells (kdA 0 0 0 0 0 (fun _ => 0)) 41)).alloc (.cells (kdA 0 0 0 0 0 (fun _ => 0)) 41)).setRow (w.heap.size + 1) (kdA l (l - 1) f (f - 1) 0 (fun _ => 0)) = V := by
    rw [hV]; unfold mkV; rw [World.size_alloc]
  have V0 := Lib.hid v0; have V1 := Lib.hid v1; have B0 := Lib.hid b0; have HVN := Lib.hid hn; have HVE := Lib.hid hVe
  clear v0 v1 b0 hn hVe bV hV
  go_enter Try.func31, Try.ntmps31
  go_wp2_with (first
    | (refine wpList_buildTo rfl 41 #[(0, .tmp 10), (1, .tmp 12), (2, .tmp 13), (3, .tmp 15)] rfl (some 16) rfl (kdA l (l - 1) f (f - 1) 0 (fun _ => 0)) ?_ ?_; focus (simpa [Act.eval] using built_kd l (l - 1) f (f - 1)))
    | (refine wpList_store_rowTo rfl _ _ _ rfl rfl (w.heap.size + 1) (kdA l (l - 1) f (f - 1) 0 (fun _ => 0)) rfl rfl 41 (kdA 0 0 0 0 0 (fun _ => 0)) HVN.out (szKd _) rfl (tblA_one _ _) ?_; rw [HVE.out])
    | fail)
  go_loopw [19] (fun iv wr => ∃ j S C : Nat, j ≤ N ∧ S ≤ 40000 ∧ C ≤ 40 ∧ iv = .int .i64 (j : Int) ∧ Hid (S = smS (lsM L) j) ∧ Hid (C = smC (lsM L) j) ∧ Hid (Knd wr w.heap.size 0 0 0 0 0 (fun _ => 0)) ∧ Hid (Knd wr (w.heap.size + 1) l (l - 1 + (S : Int)) f (f - 1 + (C : Int)) 0 (fstM L j)) ∧ Hid (Below w.heap.size w wr)) (fun iv _ => N - (intOf iv).toNat)
  case atStart =>
    refine ⟨0, 0, 0, Nat.zero_le _, by omega, by omega, rfl, Lib.hid rfl, Lib.hid rfl, V0, Lib.hid ?_, B0⟩
    have h0 : fstM L 0 = fun _ => 0 := funext fun i => if_neg (by omega)
    rw [h0]
    simpa using V1.out
  case round =>
    obtain ⟨j, S, C, hj, hS, hC, rfl, HSS, HCC, K0, K1, HBR⟩ := hrel
    by_cases hlt : j < N
    · have hj14 : j < 14 := by omega
      obtain ⟨b, o, rfl, _, hc⟩ := (HR.out.below HBR.out (Nat.le_refl _)).at (k := j) (by rw [natsI_length, ← HN.out]; exact hlt)
      have e1 := hc j (by rw [natsI_length, ← HN.out]; exact hlt)
      rw [natsI_get] at e1
      obtain ⟨q, hq⟩ : ∃ q, q = L.getD j 0 := ⟨_, rfl⟩
      rw [← hq] at e1
      have HQ := Lib.hid hq
      clear hq hc
      have r1 := K1.out.many hj14
      have r2 := K1.out.frozen (4 + j)
      have s1 := K1.out.setMany hj14 q
      have r3 := s1.most
      have r4 := s1.frozen 1
      have s2 := (s1.setMost (wrap64 (l - 1 + (S : Int) + wrap64 ((q : Int) * 2 ^ j)))).drew
      have r5 := s2.last
      have r6 := s2.frozen 3
      have s3 := s2.setLast (f - 1 + (C : Int) + (q : Int))
      have t3 := (((K0.out.other (p := ⟨w.heap.size + 1, 4 + j, none⟩) (by simp) (.int .i64 (q : Int))).other (p := ⟨w.heap.size + 1, 1, none⟩) (by simp) (.int .i64 (wrap64 (l - 1 + (S : Int) + wrap64 ((q : Int) * 2 ^ j))))).drew).other (p := ⟨w.heap.size + 1, 3, none⟩) (by simp) (.int .i64 (f - 1 + (C : Int) + (q : Int)))
      have b3 := ((((HBR.out.setCell (p := ⟨w.heap.size + 1, 4 + j, none⟩) (by simp) (.int .i64 (q : Int))).setCell (p := ⟨w.heap.size + 1, 1, none⟩) (by simp) (.int .i64 (wrap64 (l - 1 + (S : Int) + wrap64 ((q : Int) * 2 ^ j))))).drew)).setCell (p := ⟨w.heap.size + 1, 3, none⟩) (by simp) (.int .i64 (f - 1 + (C : Int) + (q : Int)))
      have S3 := Lib.hid s3; have T3 := Lib.hid t3; have B3 := Lib.hid b3
      clear s1 s2 s3 t3 b3
      have hq40 : q ≤ 40 := by
        have h1 : smC (lsM L) (j + 1) ≤ smC (lsM L) N := smC_le _ (by omega)
        have h2 : smC (lsM L) (j + 1) = smC (lsM L) j + q := by rw [HQ.out]; rfl
        have := HC.out; omega
      go_wp2
      go_region
      all_goals (
        go_wp2
        go_roundw
        case rel =>
          obtain ⟨g1, g2⟩ := sh9 q j (by omega) hj14
          have hS1 : smS (lsM L) (j + 1) = S + q * p2N j := by rw [HSS.out, HQ.out]; rfl
          have hS2 : smS (lsM L) (j + 1) ≤ 40000 := Nat.le_trans (smS_le _ (by omega)) HS.out
          have hC1 : smC (lsM L) (j + 1) = C + q := by rw [HCC.out, HQ.out]; rfl
          have hC2 : smC (lsM L) (j + 1) ≤ 40 := Nat.le_trans (smC_le _ (by omega)) HC.out
          have hv1 : wrap64 (l - 1 + (S : Int) + wrap64 ((q : Int) * 2 ^ j)) = l - 1 + ((S + q * p2N j : Nat) : Int) := by rw [g1]; unfold wrap64; omega
          have hv2 : f - 1 + (C : Int) + (q : Int) = f - 1 + ((C + q : Nat) : Int) := by omega
          have s3 := S3.out; have t3 := T3.out; have b3 := B3.out
          rw [hv1, hv2] at s3
          have hM : (fun i => if i = j then q else fstM L j i) = fstM L (j + 1) := by rw [HQ.out]; exact fstM_next L j
          rw [hM] at s3
          rw [hv1, hv2] at t3 b3
          rw [hv1, hv2]
          exact ⟨j + 1, S + q * p2N j, C + q, by omega, by omega, by omega, by go_num, Lib.hid hS1.symm, Lib.hid hC1.symm, Lib.hid t3, Lib.hid s3, Lib.hid b3⟩
        case measure => simp [intOf]; omega)
    · obtain rfl : j = N := by omega
      obtain ⟨m1, hm1⟩ : ∃ m1, m1 = l - 1 + (S : Int) := ⟨_, rfl⟩
      obtain ⟨s1, hs1⟩ : ∃ s1, s1 = f - 1 + (C : Int) := ⟨_, rfl⟩
      have k1 := K1.out
      rw [← hm1, ← hs1] at k1
      have K2 := Lib.hid k1; have HM1 := Lib.hid hm1; have HS1 := Lib.hid hs1
      clear k1 hm1 hs1 K1
      go_wp2_with (first
        | (refine wpList_load_row rfl _ _ rfl (w.heap.size + 1) rfl _ (kdA l m1 f s1 0 (fstM L j)) (0, 0) _ K2.out Try.underlying41 rfl (szKd _) ?_)
        | (refine wpList_store_rowTo rfl _ _ _ rfl rfl w.heap.size (kdA l m1 f s1 0 (fstM L j)) rfl rfl 41 (kdA 0 0 0 0 0 (fun _ => 0)) K0.out (szKd _) rfl (tblA_one _ _) ?_)
        | fail)
      refine bodyPost_ret (v := .agg (kdA l m1 f s1 0 (fstM L j))) ?_ rfl ⟨?_, below_row9 HBR.out (Nat.le_refl _) _⟩
      · exact results_cell_row rfl _ _ w.heap.size _ _ (0, 0) _ rfl (setRow_heap _ _ _ _ _ _ K0.out) Try.underlying41 rfl (szKd _)
      · have hM : fstM L j = lsM L := by rw [HN.out]; exact fstM_all L
        rw [hM, HM1.out, HS1.out, HSS.out, HCC.out]
/-- The row of a literal of numbers. -/
theorem natsI_row (L : List Nat) (cs : Array Value) (h : cs.toList = L.map fun (x : Nat) => Value.int .i64 (x : Int)) : cs.toList = intsL (natsI L) := by
  rw [h]; simp [intsL, natsI]
def longL : List Nat := [8, 4, 4, 4, 4, 4]
def farL : List Nat := [4, 2, 2, 2, 2, 2, 2, 2, 2, 2, 2, 2, 2, 2]
/-- A variable, and a row of numbers that is made behind it. -/
theorem made_row (w : World) (Z : Array Value) (T : TypeId) (L : List Nat) (cs : Array Value) (h : cs.toList = intsL (natsI L)) :
    RdI ((w.alloc (.cells Z T)).alloc (.cells cs 3)) ((w.alloc (.cells Z T)).alloc (.cells cs 3)).heap.size (some ⟨w.heap.size + 1, 0, none⟩) (natsI L) ∧
    ((w.alloc (.cells Z T)).alloc (.cells cs 3)).heap[w.heap.size]? = some (.cells Z T (0, 0)) ∧ Below w.heap.size w ((w.alloc (.cells Z T)).alloc (.cells cs 3)) ∧ w.heap.size < ((w.alloc (.cells Z T)).alloc (.cells cs 3)).heap.size := by
  have h1 := rdI_new (w.alloc (.cells Z T)) (natsI L) cs h
  have h2 : ((w.alloc (.cells Z T)).alloc (.cells cs 3)).heap[w.heap.size]? = some (.cells Z T (0, 0)) := (Below.heap_alloc _ _ _ (by simp)).trans (heap_alloc_new w _)
  refine ⟨?_, h2, ((Below.refl _ _).alloc (Nat.le_refl _) _).alloc (by simp) _, by simp; omega⟩
  rw [World.size_alloc w] at h1
  exact h1
set_option maxRecDepth 100000 in
set_option maxHeartbeats 2000000 in
theorem fars9_any (w : World) : Calls Try.prog 25 #[] w fun e w' => e = .returned (.agg (kdA 1 32768 0 29 0 (lsM farL))) ∧ Below w.heap.size w w' := by
  have hz := (zero_of_info infoKd).1
  obtain ⟨hr, v0, b0, hlt⟩ := made_row w (kdA 0 0 0 0 0 (fun _ => 0)) 41 farL #[.int .i64 4, .int .i64 2, .int .i64 2, .int .i64 2, .int .i64 2, .int .i64 2, .int .i64 2, .int .i64 2, .int .i64 2, .int .i64 2, .int .i64 2, .int .i64 2, .int .i64 2, .int .i64 2] rfl
  have hfl := filled9_any _ 1 0 _ 14 14 farL rfl (by omega) hr (by omega) (by omega) (by decide) (by decide)
  have e1 : (1 : Int) - 1 + ((smS (lsM farL) 14 : Nat) : Int) = 32768 := by decide
  have e2 : (0 : Int) - 1 + ((smC (lsM farL) 14 : Nat) : Int) = 29 := by decide
  rw [e1, e2] at hfl
  obtain ⟨V, hV⟩ : ∃ V, V = ((w.alloc (.cells (kdA 0 0 0 0 0 (fun _ => 0)) 41)).alloc (.cells #[.int .i64 4, .int .i64 2, .int .i64 2, .int .i64 2, .int .i64 2, .int .i64 2, .int .i64 2, .int .i64 2, .int .i64 2, .int .i64 2, .int .i64 2, .int .i64 2, .int .i64 2, .int .i64 2] 3)) := ⟨_, rfl⟩
  rw [← hV] at hfl v0 b0 hlt
  have HF := Lib.hid hfl; have V0 := Lib.hid v0; have B0 := Lib.hid b0; have HV := Lib.hid hV.symm; have HLT := Lib.hid hlt
  clear hfl v0 b0 hV hr e1 e2 hlt
  obtain ⟨X, hX⟩ : ∃ X, X = kdA 1 32768 0 29 0 (lsM farL) := ⟨_, rfl⟩
  obtain ⟨x1, x2⟩ : X.size = 19 ∧ X.all (·.oneCell') = true := by rw [hX]; exact ⟨tblA_size _ _, tblA_one _ _⟩
  have x3 : (Try.prog.info? 41).map (·.size) = some X.size := by rw [hX]; exact szKd _
  rw [← hX] at HF ⊢
  clear hX
  go_enter Try.func25, Try.ntmps25
  go_wp2_with fail
  rw [HV.out]
  refine HF.out.mono ?_
  rintro e w1 ⟨rfl, hb1⟩
  have hk1 := (hb1.block w.heap.size HLT.out).trans V0.out
  have K1 := Lib.hid hk1; have HB1 := Lib.hid (B0.out.trans (hb1.mono (Nat.le_of_lt HLT.out)))
  clear hk1 hb1
  go_wp2_with (first
    | (refine wpList_store_rowTo rfl _ _ _ rfl rfl w.heap.size X rfl rfl 41 (kdA 0 0 0 0 0 (fun _ => 0)) K1.out x3 (by rw [x1]; rfl) x2 ?_)
    | fail)
  refine bodyPost_ret (v := .agg X) ?_ rfl ⟨rfl, below_row9 HB1.out (Nat.le_refl _) _⟩
  exact results_cell_row rfl _ _ w.heap.size _ _ (0, 0) _ rfl (setRow_heap _ _ _ _ _ _ K1.out) Try.underlying41 rfl x3
end Go.Proofs.Ytdecacajignkoaa
