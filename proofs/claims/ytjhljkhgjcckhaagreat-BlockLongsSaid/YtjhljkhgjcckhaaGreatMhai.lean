/-
  Layer 8 (token): the document's own checks.
-/
import Derived.Laws.StructEq
import Derived.Deep.DeepCutAuto
import Derived.BigRegion
import Derived.BigQuiet
import Derived.Lib.SmallJoins
import Derived.RangeFuncFrom
import Derived.RangeFuncBox
import Derived.RangeFuncLeaves
import Derived.RangeFuncBound
import Derived.RangeFuncCalls
import Derived.Shelf.Abstract
import Derived.Shelf.RegionOpen
import Derived.OwnWalkIn
import Derived.TacticsInMore
import Derived.LoopNIn
import Derived.LoopIn
import Derived.Sort.QuietIn
import Derived.Lib.Bytes
import Derived.Laws.Tables
import Derived.Great.BuildSlice
import Derived.Lib.AppendZeros
import Derived.LoopN
import Derived.Test.YtjhljkhgjcckhaaGreatMhaa
import Derived.Test.YtjhljkhgjcckhaaGreatMhab
import Derived.Test.YtjhljkhgjcckhaaGreatMhac
import Derived.Test.YtjhljkhgjcckhaaGreatMhad
import Derived.Test.YtjhljkhgjcckhaaGreatMhae
import Derived.Test.YtjhljkhgjcckhaaGreatMhaf
import Derived.Test.YtjhljkhgjcckhaaGreatMhag
import Derived.Test.YtjhljkhgjcckhaaGreatMhah
namespace Go.Proofs.YtjhljkhgjcckhaaGreat
open Go.RowKit Go.ChangeShapes Go.WideShapes Go.ChangeAt Go.Joins
/-- What Write answers: an error; so many bits; bytes. -/
def wrtE (f : Nat → Nat) (n : Nat) (k : Int) (kind rn : Nat) (r : Nat → Nat) (l : List Tok) (last : Bool) : Int :=
  if penB f n k = false then 8 else if askW kind rn l ≠ 0 then askW kind rn l else if 8388608 < k.toNat + bitsT (blkP (k.toNat % 8) kind rn r l last) then 9 else 0
def wrtK (f : Nat → Nat) (n : Nat) (k : Int) (kind rn : Nat) (r : Nat → Nat) (l : List Tok) (last : Bool) : Nat :=
  if wrtE f n k kind rn r l last = 0 then k.toNat + bitsT (blkP (k.toNat % 8) kind rn r l last) else 0
def wrtF (f : Nat → Nat) (n : Nat) (k : Int) (kind rn : Nat) (r : Nat → Nat) (l : List Tok) (last : Bool) : Nat → Nat :=
  if wrtE f n k kind rn r l last = 0 then putsF (zext n f) k.toNat (blkP (k.toNat % 8) kind rn r l last) else fun _ => 0
theorem built_pen0 : Tryz.prog.built 24 [] = some #[.slice none 0 0, .int .i64 0] := by kernel_rfl
theorem cell_pen {fn : Func} {p u : Tmp} (h : fn.results = #[.cell p 24, .tmp u]) (tmps : Array Value) (w : World) (g : Nat) (cs : Array Value) (hs : cs.size = 2) (hp : tmps.getD p undef = .pointer (some ⟨g, 0, none⟩)) (ht : w.heap[g]? = some (.cells cs 24 (0, 0))) :
    (results fn tmps).run Tryz.prog w = .ok (.tuple #[.agg cs, tmps.getD u undef]) w := by
  have hp' : tmps[p]?.getD undef = .pointer (some ⟨g, 0, none⟩) := by simpa using hp
  have hl := run_loadVar_row (P := Tryz.prog) w g 24 24 cs (0, 0) _ ht Tryz.underlying24 rfl (by rw [hs]; exact szPen2)
  simp [results, h, hp', asAddr, hl]
/-- What Write leaves: a pen's bytes, to be read. -/
def WrtR (w w' : World) (e : Ending) (K : Nat) (E : Int) (F : Nat → Nat) : Prop := ∃ A' c' L, L = (K + 7) / 8 ∧ e = .returned (.tuple #[.agg #[.slice A' L c', .int .i64 (K : Int)], .int .i64 E]) ∧ RdB w' w'.heap.size A' L F ∧ (A' = none → c' = 0) ∧ Below w.heap.size w w'
theorem rdNone (w : World) (B : Nat) : RdB w B none 0 (fun _ => 0) := ⟨fun _ => by show 0 < 256; omega, fun h => absurd h (by omega)⟩
theorem penB_nat {f : Nat → Nat} {n : Nat} {k : Int} (hf : ∀ j, f j < 256) (h : penB f n k = true) : ∃ K : Nat, k = K ∧ K ≤ 8388608 ∧ n = (K + 7) / 8 ∧ Clean (zext n f) K := check_clean hf (by unfold penE; rw [if_pos h])
set_option maxRecDepth 100000 in
set_option maxHeartbeats 4000000 in
theorem rwrite11_any (w : World) (A : Option Addr) (n c : Nat) (f : Nat → Nat) (k : Int) (kind : Nat) (A1 : Option Addr) (rn rc : Nat) (r : Nat → Nat) (A2 : Option Addr) (m c2 : Nat) (l : List Tok) (last : Bool) (hr : RdB w w.heap.size A n f) (hA : A = none → c = 0) (hkd : kind < 256)
    (hrr : RdB w w.heap.size A1 rn r) (hrn : rn ≤ 1000000) (hm : m = l.length) (hrt : RdT w w.heap.size A2 l) (hm2 : m ≤ 1000000) (hx : ∀ t ∈ l, t.x < 256) :
    Calls Tryz.prog 7 #[.agg #[.slice A n c, .int .i64 k], .int .u8 (kind : Int), .slice A1 rn rc, .slice A2 m c2, .bool last] w fun e w' => WrtR w w' e (wrtK f n k kind rn r l last) (wrtE f n k kind rn r l last) (wrtF f n k kind rn r l last) := by
  obtain ⟨E, hE⟩ : ∃ E, E = wrtE f n k kind rn r l last := ⟨_, rfl⟩
  obtain ⟨KK, hKK⟩ : ∃ K, K = wrtK f n k kind rn r l last := ⟨_, rfl⟩
  obtain ⟨FF, hFF⟩ : ∃ F, F = wrtF f n k kind rn r l last := ⟨_, rfl⟩
  rw [← hE, ← hKK, ← hFF]
  unfold wrtK at hKK
  unfold wrtF at hFF
  rw [← hE] at hKK hFF
  unfold wrtE at hE
  have herr : ∀ w' : World, E ≠ 0 → RdB w' w'.heap.size none 0 FF ∧ KK = 0 := fun w' h => by
    rw [hKK, hFF, if_neg h, if_neg h]; exact ⟨rdNone _ _, rfl⟩
  obtain ⟨h, hh⟩ : ∃ h, h = w.heap.size := ⟨_, rfl⟩
  obtain ⟨W1, hW1⟩ : ∃ W, W = (w.alloc (.cells #[.slice A n c, .int .i64 k] 24)).alloc (.cells #[.slice none 0 0, .int .i64 0] 24) := ⟨_, rfl⟩
  have h0 : W1.heap[h]? = some (.cells #[.slice A n c, .int .i64 k] 24 (0, 0)) := by rw [hW1, hh]; exact heap_alloc2_old w _ _
  have h1 : W1.heap[h + 1]? = some (.cells #[.slice none 0 0, .int .i64 0] 24 (0, 0)) := by rw [hW1, hh]; exact heap_alloc2_new w _ _
  have hb1 : Below h w W1 := by rw [hW1, hh]; exact ((Below.refl w.heap.size w).alloc (Nat.le_refl _) _).alloc (by simp) _
  have hs1 : h + 1 < W1.heap.size := (Array.getElem?_eq_some_iff.1 h1).1
  rw [← hh] at hr hrr hrt
  have HR1 := Lib.hid ((hr.below hb1 (Nat.le_refl _)).more (show h ≤ W1.heap.size by omega))
  have HRR1 := Lib.hid ((hrr.below hb1 (Nat.le_refl _)).more (show h ≤ W1.heap.size by omega))
  have HRT1 := Lib.hid ((hrt.below hb1 (Nat.le_refl _)).more (show h ≤ W1.heap.size by omega))
  have HMAY := Lib.hid (rmay_any W1 A n c f k HR1.out)
  have H0 := Lib.hid h0; have H1 := Lib.hid h1; have HB1 := Lib.hid hb1; have HS1 := Lib.hid hs1; have HW1 := Lib.hid hW1; have HH := Lib.hid hh
  have HE := Lib.hid hE; have HKK := Lib.hid hKK; have HFF := Lib.hid hFF; have HA := Lib.hid hA; have HM := Lib.hid hm; have HX := Lib.hid hx; have HERR := Lib.hid herr
  clear hE hKK hFF hA hm hx herr hr hrr hrt h0 h1 hb1 hs1 hW1 hh
  obtain ⟨B, hB⟩ : ∃ B, B = penB f n k := ⟨_, rfl⟩
  rw [← hB] at HMAY HE
  cases B with
  | false =>
    obtain rfl : E = 8 := by rw [HE.out, if_pos rfl]
    have HNZ : Hid ((8 : Int) ≠ 0) := Lib.hid (by omega)
    clear HE HKK HFF hB
    go_enter Tryz.func7, Tryz.ntmps7
    go_wp2_with (first
      | (rw [← HW1.out, ← HH.out]; refine wpList_load_row rfl _ _ rfl h rfl _ #[.slice A n c, .int .i64 k] (0, 0) _ H0.out Tryz.underlying24 rfl szPen2 ?_)
      | fail)
    refine HMAY.out.mono ?_
    rintro e w2 ⟨rfl, hb2⟩
    have H02 := Lib.hid ((hb2.block h (by have := HS1.out; omega)).trans H0.out)
    have H12 := Lib.hid ((hb2.block (h + 1) HS1.out).trans H1.out)
    have HB2 := Lib.hid hb2
    have HB02 := Lib.hid (HB1.out.trans (hb2.mono (by have := HS1.out; omega)))
    clear hb2
    obtain ⟨U, hU⟩ : ∃ U, U = w2.setRow (h + 1) #[.slice none 0 0, .int .i64 0] := ⟨_, rfl⟩
    have HU1 : Hid (U.heap[h + 1]? = some (.cells #[.slice none 0 0, .int .i64 0] 24 (0, 0))) := Lib.hid (by rw [hU]; exact setRow_heap _ _ _ _ _ _ H12.out)
    have HUB : Hid (Below h w U) := Lib.hid (by rw [hU]; exact below_row9 HB02.out (by omega) _)
    have HU := Lib.hid hU
    clear hU
    go_wp2_with (first
      | (refine wpList_buildTo rfl 24 #[] rfl (some 17) rfl #[.slice none 0 0, .int .i64 0] ?_ ?_; focus (simpa [Act.eval] using built_pen0))
      | (refine wpList_store_rowTo rfl _ _ _ rfl rfl (h + 1) #[.slice none 0 0, .int .i64 0] rfl rfl 24 #[.slice none 0 0, .int .i64 0] H12.out szPen2 rfl (by simp [Value.oneCell']) ?_; rw [← HU.out]))
    refine bodyPost_ret (cell_pen rfl _ _ (h + 1) _ rfl rfl HU1.out) rfl ?_
    obtain ⟨e1, e2⟩ := HERR.out U HNZ.out
    exact ⟨none, 0, 0, by rw [e2], by rw [e2]; rfl, e1, fun _ => rfl, by rw [← HH.out]; exact HUB.out⟩
  | true =>
    obtain ⟨K, rfl, hK8, hnK, hcl⟩ := penB_nat HR1.out.1 hB.symm
    have he := HE.out
    rw [if_neg (by simp), Int.toNat_natCast] at he
    have hkk := HKK.out
    have hff := HFF.out
    rw [Int.toNat_natCast] at hkk hff
    obtain ⟨a, ha⟩ : ∃ a, a = K % 8 := ⟨_, rfl⟩
    have ha7 : a ≤ 7 := by omega
    have ea : (K : Int) % 8 = (a : Int) := by omega
    obtain ⟨Q, hQ⟩ : ∃ Q, Q = askW kind rn l := ⟨_, rfl⟩
    rw [← hQ, ← ha] at he
    rw [← ha] at hkk hff
    have HASK : Hid (∀ V, Below W1.heap.size W1 V → Calls Tryz.prog 30 #[.int .u8 (kind : Int), .slice A1 rn rc, .slice A2 m c2] V fun e w' => e = .returned (.int .i64 Q) ∧ Below V.heap.size V w') := Lib.hid fun V hV => by
      rw [hQ]; exact rask11_any V kind A1 rn rc A2 m c2 l HM.out hkd (by omega) (by omega) ((HRT1.out.below hV (Nat.le_refl _)).more hV.size)
    have HNK := Lib.hid hnK; have HCL := Lib.hid hcl; have HQ := Lib.hid hQ
    clear hnK hcl ha hQ hB HE HKK HFF
    by_cases q0 : Q = 0
    · subst q0
      rw [if_neg (fun g => g rfl)] at he
      obtain ⟨k2, n2, l2, hmay⟩ := askW_ok HQ.out.symm
      have hok : ∀ t ∈ l, mayT t = true ∧ t.x < 256 := fun t ht => ⟨hmay t ht, HX.out t ht⟩
      have HNM : Hid (∀ V, Below W1.heap.size W1 V → Calls Tryz.prog 31 #[.int .i64 (a : Int), .int .u8 (kind : Int), .slice A1 rn rc, .slice A2 m c2, .bool last] V fun e w'' => ∃ A' n' c', e = .returned (.slice A' n' c') ∧ NuR w'' w''.heap.size A' n' c' (blkP a kind rn r l last) ∧ Below V.heap.size V w'') :=
        Lib.hid fun V hV => rnums11_any V a kind A1 rn rc r A2 m c2 l last ha7 k2 ((HRR1.out.below hV (Nat.le_refl _)).more hV.size) n2 HM.out ((HRT1.out.below hV (Nat.le_refl _)).more hV.size) (by have := HM.out; omega) hok
      have hbt := blkP_bits (a := a) (last := last) k2 n2 HRR1.out.1 l2 hok
      have hbl := blkP_len (a := a) (k := kind) (r := r) (last := last) n2 l2
      have hbo := blkP_ok (a := a) (last := last) k2 n2 HRR1.out.1 l2 hok
      obtain ⟨PP, hP⟩ : ∃ P, P = blkP a kind rn r l last := ⟨_, rfl⟩
      rw [← hP] at he hkk hff HNM hbt hbl hbo
      obtain ⟨T, hT⟩ : ∃ T, T = bitsT PP := ⟨_, rfl⟩
      rw [← hT] at he hkk hbt
      have HBT := Lib.hid hbt; have HBL := Lib.hid hbl; have HBO := Lib.hid hbo; have HT := Lib.hid hT
      have hT4 : T ≤ 4320000 := hbt
      clear hbt hbl hbo hP hT hok hmay l2 n2 k2
      by_cases hfull : 8388608 < K + T
      · rw [if_pos hfull] at he
        subst he
        obtain ⟨kt, hkt⟩ : ∃ x, x = K + T := ⟨_, rfl⟩
        have ekt : (K : Int) + (T : Int) = (kt : Int) := by omega
        have dkt : decide ((8388608 : Int) < (kt : Int)) = true := by simp; omega
        have HNZ : Hid ((9 : Int) ≠ 0) := Lib.hid (by omega)
        clear hkk hff hfull hkt
        go_enter Tryz.func7, Tryz.ntmps7
        go_wp2_with (first
          | (rw [← HW1.out, ← HH.out]; refine wpList_load_row rfl _ _ rfl h rfl _ #[.slice A n c, .int .i64 (K : Int)] (0, 0) _ H0.out Tryz.underlying24 rfl szPen2 ?_)
          | fail)
        refine HMAY.out.mono ?_
        rintro e w2 ⟨rfl, hb2⟩
        have H02 := Lib.hid ((hb2.block h (by have := HS1.out; omega)).trans H0.out)
        have H12 := Lib.hid ((hb2.block (h + 1) HS1.out).trans H1.out)
        have HB2 := Lib.hid hb2
        have HB02 := Lib.hid (HB1.out.trans (hb2.mono (by have := HS1.out; omega)))
        clear hb2
        go_wp2_with fail
        refine (HASK.out _ HB2.out).mono ?_
        rintro e w3 ⟨rfl, hb3⟩
        have hb13 := HB2.out.trans (hb3.mono HB2.out.size)
        have H03 := Lib.hid ((hb3.block h (Nat.lt_of_lt_of_le (show h < W1.heap.size by have := HS1.out; omega) HB2.out.size)).trans H02.out)
        have H13 := Lib.hid ((hb3.block (h + 1) (Nat.lt_of_lt_of_le HS1.out HB2.out.size)).trans H12.out)
        have HB13 := Lib.hid hb13
        have k31 : w3.cell? ⟨h, 1, none⟩ = some (.int .i64 (K : Int)) := (cell_of_row w3 h 1 _ _ (0, 0) H03.out).trans rfl
        clear hb3 hb13
        go_wp2_with fail
        refine (HNM.out _ HB13.out).mono ?_
        rintro e w4 ⟨A4, n4, c4, rfl, hnu, hb4⟩
        have hb14 := HB13.out.trans (hb4.mono HB13.out.size)
        have h04 := (hb14.block h (by have := HS1.out; omega)).trans H0.out
        have h14 := (hb14.block (h + 1) HS1.out).trans H1.out
        have hn4 := hnu.1
        have hB04 : Below h w w4 := HB1.out.trans (hb14.mono (by have := HS1.out; omega))
        have k41 : ∀ p : After w4.heap.size w4, p.w.cell? ⟨h, 1, none⟩ = some (.int .i64 (K : Int)) := fun p => (cell_of_row p.w h 1 _ _ (0, 0) ((p.h.block h (Array.getElem?_eq_some_iff.1 h04).1).trans h04)).trans rfl
        have TB : ∀ V, Below w4.heap.size w4 V → Calls Tryz.prog 32 #[.slice A4 n4 c4] V fun e V' => e = .returned (.int .i64 (T : Int)) ∧ Below w4.heap.size w4 V' := fun V hV =>
          (rbitsT_any V A4 n4 c4 PP hnu.1 ((hnu.2.1.below hV (Nat.le_refl _)).more hV.size) (by have := HBL.out; omega) (by have := HT.out; omega)).mono fun e V' ⟨a, h⟩ => ⟨by rw [HT.out]; exact a, h ▸ hV⟩
        have TTB := Lib.hid TB; have H04 := Lib.hid h04; have H14 := Lib.hid h14; have HNU := Lib.hid hnu; have HB14 := Lib.hid hb14; have HB04 := Lib.hid hB04
        have hn4b : n4 ≤ 270000 := by have := HBL.out; omega
        clear TB h04 h14 hnu hb14 hB04 hb4 hn4 k31
        go_wp2
        -- region 7: how many bits together
        go_cut [39] (fun v39 wx => v39 = .bool (decide ((8388608 : Int) < (kt : Int))) ∧ Below w4.heap.size w4 wx)
        case first =>
          refine wp_region_after w4.heap.size w4 (Below.refl _ _) (by kernel_rfl) (by kernel_rfl) ?_
          repeat (first
            | (go_big_quiet_step (with_reducible exact call_after TTB.out _)))
          refine wpQuiet_nil ?_
          rintro V ⟨⟨V, hV⟩, rfl⟩
          go_wp2_with fail
          go_meet
          exact ⟨by rw [dkt], hV⟩
        case rest =>
          obtain ⟨rfl, hcb⟩ := hcut
          obtain ⟨w5, rfl⟩ : ∃ w5 : World, w5 = wc := ⟨_, rfl⟩
          have H15 := Lib.hid ((hcb.block (h + 1) (Array.getElem?_eq_some_iff.1 H14.out).1).trans H14.out)
          have H05 := Lib.hid ((hcb.block h (Array.getElem?_eq_some_iff.1 H04.out).1).trans H04.out)
          have HB05 := Lib.hid (HB04.out.trans (hcb.mono (by have := (Array.getElem?_eq_some_iff.1 H04.out).1; omega)))
          have HB15 := Lib.hid (HB14.out.trans (hcb.mono HB14.out.size))
          have HNU5 := Lib.hid ((HNU.out.2.1.below hcb (Nat.le_refl _)).more hcb.size)
          clear hcb k41
          rw [dkt]
          obtain ⟨U, hU⟩ : ∃ U, U = w5.setRow (h + 1) #[.slice none 0 0, .int .i64 0] := ⟨_, rfl⟩
          have HU1 : Hid (U.heap[h + 1]? = some (.cells #[.slice none 0 0, .int .i64 0] 24 (0, 0))) := Lib.hid (by rw [hU]; exact setRow_heap _ _ _ _ _ _ H15.out)
          have HUB : Hid (Below h w U) := Lib.hid (by rw [hU]; exact below_row9 HB05.out (by omega) _)
          have HU := Lib.hid hU
          clear hU
          go_wp2_with (first
            | (refine wpList_buildTo rfl 24 #[] rfl (some 40) rfl #[.slice none 0 0, .int .i64 0] ?_ ?_; focus (simpa [Act.eval] using built_pen0))
            | (refine wpList_store_rowTo rfl _ _ _ rfl rfl (h + 1) #[.slice none 0 0, .int .i64 0] rfl rfl 24 #[.slice none 0 0, .int .i64 0] H15.out szPen2 rfl (by simp [Value.oneCell']) ?_; rw [← HU.out]))
          refine bodyPost_ret (cell_pen rfl _ _ (h + 1) _ rfl rfl HU1.out) rfl ?_
          obtain ⟨e1, e2⟩ := HERR.out U HNZ.out
          exact ⟨none, 0, 0, by rw [e2], by rw [e2]; rfl, e1, fun _ => rfl, by rw [← HH.out]; exact HUB.out⟩
      · rw [if_neg hfull] at he
        subst he
        rw [if_pos rfl] at hkk hff
        have hF := hff
        obtain ⟨kt, hkt⟩ : ∃ x, x = K + T := ⟨_, rfl⟩
        have ekt : (K : Int) + (T : Int) = (kt : Int) := by omega
        have dkt : decide ((8388608 : Int) < (kt : Int)) = false := by simp; omega
        have hkt8 : kt ≤ 8388608 := by omega
        rw [← hkt] at hkk
        have HKT := Lib.hid hkt; have HKK2 := Lib.hid hkk; have HFF2 := Lib.hid hff
        clear hkk hff hF hfull hkt HERR
        go_enter Tryz.func7, Tryz.ntmps7
        go_wp2_with (first
          | (rw [← HW1.out, ← HH.out]; refine wpList_load_row rfl _ _ rfl h rfl _ #[.slice A n c, .int .i64 (K : Int)] (0, 0) _ H0.out Tryz.underlying24 rfl szPen2 ?_)
          | fail)
        refine HMAY.out.mono ?_
        rintro e w2 ⟨rfl, hb2⟩
        have H02 := Lib.hid ((hb2.block h (by have := HS1.out; omega)).trans H0.out)
        have H12 := Lib.hid ((hb2.block (h + 1) HS1.out).trans H1.out)
        have HB2 := Lib.hid hb2
        have HB02 := Lib.hid (HB1.out.trans (hb2.mono (by have := HS1.out; omega)))
        clear hb2
        go_wp2_with fail
        refine (HASK.out _ HB2.out).mono ?_
        rintro e w3 ⟨rfl, hb3⟩
        have hb13 := HB2.out.trans (hb3.mono HB2.out.size)
        have H03 := Lib.hid ((hb3.block h (Nat.lt_of_lt_of_le (show h < W1.heap.size by have := HS1.out; omega) HB2.out.size)).trans H02.out)
        have H13 := Lib.hid ((hb3.block (h + 1) (Nat.lt_of_lt_of_le HS1.out HB2.out.size)).trans H12.out)
        have HB13 := Lib.hid hb13
        have k31 : w3.cell? ⟨h, 1, none⟩ = some (.int .i64 (K : Int)) := (cell_of_row w3 h 1 _ _ (0, 0) H03.out).trans rfl
        clear hb3 hb13
        go_wp2_with fail
        refine (HNM.out _ HB13.out).mono ?_
        rintro e w4 ⟨A4, n4, c4, rfl, hnu, hb4⟩
        have hb14 := HB13.out.trans (hb4.mono HB13.out.size)
        have h04 := (hb14.block h (by have := HS1.out; omega)).trans H0.out
        have h14 := (hb14.block (h + 1) HS1.out).trans H1.out
        have hn4 := hnu.1
        have hB04 : Below h w w4 := HB1.out.trans (hb14.mono (by have := HS1.out; omega))
        have k41 : ∀ p : After w4.heap.size w4, p.w.cell? ⟨h, 1, none⟩ = some (.int .i64 (K : Int)) := fun p => (cell_of_row p.w h 1 _ _ (0, 0) ((p.h.block h (Array.getElem?_eq_some_iff.1 h04).1).trans h04)).trans rfl
        have TB : ∀ V, Below w4.heap.size w4 V → Calls Tryz.prog 32 #[.slice A4 n4 c4] V fun e V' => e = .returned (.int .i64 (T : Int)) ∧ Below w4.heap.size w4 V' := fun V hV =>
          (rbitsT_any V A4 n4 c4 PP hnu.1 ((hnu.2.1.below hV (Nat.le_refl _)).more hV.size) (by have := HBL.out; omega) (by have := HT.out; omega)).mono fun e V' ⟨a, h⟩ => ⟨by rw [HT.out]; exact a, h ▸ hV⟩
        have TTB := Lib.hid TB; have H04 := Lib.hid h04; have H14 := Lib.hid h14; have HNU := Lib.hid hnu; have HB14 := Lib.hid hb14; have HB04 := Lib.hid hB04
        have hn4b : n4 ≤ 270000 := by have := HBL.out; omega
        clear TB h04 h14 hnu hb14 hB04 hb4 hn4 k31
        go_wp2
        -- region 7: how many bits together
        go_cut [39] (fun v39 wx => v39 = .bool (decide ((8388608 : Int) < (kt : Int))) ∧ Below w4.heap.size w4 wx)
        case first =>
          refine wp_region_after w4.heap.size w4 (Below.refl _ _) (by kernel_rfl) (by kernel_rfl) ?_
          repeat (first
            | (go_big_quiet_step (with_reducible exact call_after TTB.out _)))
          refine wpQuiet_nil ?_
          rintro V ⟨⟨V, hV⟩, rfl⟩
          go_wp2_with fail
          go_meet
          exact ⟨by rw [dkt], hV⟩
        case rest =>
          obtain ⟨rfl, hcb⟩ := hcut
          obtain ⟨w5, rfl⟩ : ∃ w5 : World, w5 = wc := ⟨_, rfl⟩
          have H15 := Lib.hid ((hcb.block (h + 1) (Array.getElem?_eq_some_iff.1 H14.out).1).trans H14.out)
          have H05 := Lib.hid ((hcb.block h (Array.getElem?_eq_some_iff.1 H04.out).1).trans H04.out)
          have HB05 := Lib.hid (HB04.out.trans (hcb.mono (by have := (Array.getElem?_eq_some_iff.1 H04.out).1; omega)))
          have HB15 := Lib.hid (HB14.out.trans (hcb.mono HB14.out.size))
          have HNU5 := Lib.hid ((HNU.out.2.1.below hcb (Nat.le_refl _)).more hcb.size)
          clear hcb k41
          rw [dkt]
          have htw := twin_any w5 A n c f (K : Int) ((HR1.out.below HB15.out (Nat.le_refl _)).more HB15.out.size) (by have := HNK.out; omega) HA.out
          have HTW := Lib.hid htw
          clear htw
          go_wp2_with (refine wpList_load_row rfl _ _ rfl h rfl _ #[.slice A n c, .int .i64 (K : Int)] (0, 0) _ H05.out Tryz.underlying24 rfl szPen2 ?_)
          refine HTW.out.mono ?_
          rintro e w6 ⟨A6, c6, rfl, ho6, hb6⟩
          have hf := HR1.out.1
          have hs5 := (Array.getElem?_eq_some_iff.1 H15.out).1
          have hn6 : ∀ g o, 0 < n → A6 = some ⟨g, o, none⟩ → h + 1 < g := fun g o h0 hA6 => by
            obtain ⟨g', cap, hv, hge, _⟩ := ho6.form h0
            injection hv with hv _ _
            rw [hA6] at hv
            injection hv with hv
            injection hv with e1 _ _
            omega
          have HN6 := Lib.hid hn6
          have hby := ByR.of_own ho6 hf
          have hput := rput11_any w6 A6 n c6 f K A4 n4 c4 PP hby.1 hby.2.1 HNK.out HCL.out HNU.out.1 ((HNU5.out.below hb6 (Nat.le_refl _)).more hb6.size) (by omega) HBO.out (by have := HT.out; have := HKT.out; omega)
          rw [← HT.out, ← HKT.out, ← HFF2.out] at hput
          have HPUT := Lib.hid hput
          have H16 := Lib.hid ((hb6.block (h + 1) (Array.getElem?_eq_some_iff.1 H15.out).1).trans H15.out)
          have HB06 := Lib.hid (HB05.out.trans (hb6.mono (by have := (Array.getElem?_eq_some_iff.1 H15.out).1; omega)))
          clear hf hby hput ho6 hb6 hn6 hs5
          go_wp2_with fail
          refine HPUT.out.mono ?_
          rintro e w7 ⟨A7, c7, L7, hL7, rfl, hr7, hA7, hb7, hw7⟩
          have hne7 : ∀ g o, 0 < L7 → A7 = some ⟨g, o, none⟩ → g ≠ h + 1 := fun g o h0 e => by
            have hh6 := (Array.getElem?_eq_some_iff.1 H16.out).1
            rcases hw7 g o h0 e with ⟨e6, en⟩ | hge
            · rw [e6] at e
              have := HN6.out g o (by omega) e; omega
            · omega
          have hh7 := (Array.getElem?_eq_some_iff.1 H16.out).1
          have h17 := (hb7.block (h + 1) hh7).trans H16.out
          have hb07 := HB06.out.trans (hb7.mono (by omega))
          obtain ⟨U, hU⟩ : ∃ U, U = w7.setRow (h + 1) #[.slice A7 L7 c7, .int .i64 (kt : Int)] := ⟨_, rfl⟩
          have HU1 : Hid (U.heap[h + 1]? = some (.cells #[.slice A7 L7 c7, .int .i64 (kt : Int)] 24 (0, 0))) := Lib.hid (by rw [hU]; exact setRow_heap _ _ _ _ _ _ h17)
          have HUB : Hid (Below h w U) := Lib.hid (by rw [hU]; exact below_row9 hb07 (by omega) _)
          have HUR : Hid (RdB U U.heap.size A7 L7 FF) := Lib.hid (by rw [hU, size_setRow]; exact hr7.setRow _ fun g o h0 e => hne7 g o h0 e)
          have HU := Lib.hid hU; have H17 := Lib.hid h17; have HL7 := Lib.hid hL7; have HA7 := Lib.hid hA7
          clear hU hr7 h17 hb07 hb7 hh7 hL7 hA7 hw7 hne7
          go_wp2_with (refine wpList_store_rowTo rfl _ _ _ rfl rfl (h + 1) #[.slice A7 L7 c7, .int .i64 (kt : Int)] rfl rfl 24 #[.slice none 0 0, .int .i64 0] H17.out szPen2 rfl (by simp [Value.oneCell']) ?_; rw [← HU.out])
          refine bodyPost_ret (cell_pen rfl _ _ (h + 1) _ rfl rfl HU1.out) rfl ?_
          have e1 := HKK2.out
          have e2 := HL7.out
          exact ⟨A7, c7, L7, by rw [e1, e2], by rw [e1]; rfl, HUR.out, HA7.out, by rw [← HH.out]; exact HUB.out⟩
    · rw [if_pos q0] at he
      obtain rfl : E = Q := he
      have dq : (E != 0) = true := by simpa using q0
      have HNZ := Lib.hid q0
      clear hkk hff HQ q0
      go_enter Tryz.func7, Tryz.ntmps7
      go_wp2_with (first
        | (rw [← HW1.out, ← HH.out]; refine wpList_load_row rfl _ _ rfl h rfl _ #[.slice A n c, .int .i64 (K : Int)] (0, 0) _ H0.out Tryz.underlying24 rfl szPen2 ?_)
        | fail)
      refine HMAY.out.mono ?_
      rintro e w2 ⟨rfl, hb2⟩
      have H02 := Lib.hid ((hb2.block h (by have := HS1.out; omega)).trans H0.out)
      have H12 := Lib.hid ((hb2.block (h + 1) HS1.out).trans H1.out)
      have HB2 := Lib.hid hb2
      have HB02 := Lib.hid (HB1.out.trans (hb2.mono (by have := HS1.out; omega)))
      clear hb2
      go_wp2_with fail
      refine (HASK.out _ HB2.out).mono ?_
      rintro e w3 ⟨rfl, hb3⟩
      have H13 := Lib.hid ((hb3.block (h + 1) (Nat.lt_of_lt_of_le HS1.out HB2.out.size)).trans H12.out)
      have HB03 := Lib.hid (HB02.out.trans (hb3.mono (by have := HB2.out.size; have := HS1.out; omega)))
      clear hb3
      obtain ⟨U, hU⟩ : ∃ U, U = w3.setRow (h + 1) #[.slice none 0 0, .int .i64 0] := ⟨_, rfl⟩
      have HU1 : Hid (U.heap[h + 1]? = some (.cells #[.slice none 0 0, .int .i64 0] 24 (0, 0))) := Lib.hid (by rw [hU]; exact setRow_heap _ _ _ _ _ _ H13.out)
      have HUB : Hid (Below h w U) := Lib.hid (by rw [hU]; exact below_row9 HB03.out (by omega) _)
      have HU := Lib.hid hU
      clear hU
      go_wp2_with (first
        | (refine wpList_buildTo rfl 24 #[] rfl (some 24) rfl #[.slice none 0 0, .int .i64 0] ?_ ?_; focus (simpa [Act.eval] using built_pen0))
        | (refine wpList_store_rowTo rfl _ _ _ rfl rfl (h + 1) #[.slice none 0 0, .int .i64 0] rfl rfl 24 #[.slice none 0 0, .int .i64 0] H13.out szPen2 rfl (by simp [Value.oneCell']) ?_; rw [← HU.out]))
      refine bodyPost_ret (cell_pen rfl _ _ (h + 1) _ rfl rfl HU1.out) rfl ?_
      obtain ⟨e1, e2⟩ := HERR.out U HNZ.out
      exact ⟨none, 0, 0, by rw [e2], by rw [e2]; rfl, e1, fun _ => rfl, by rw [← HH.out]; exact HUB.out⟩
end Go.Proofs.YtjhljkhgjcckhaaGreat

namespace Go.Proofs.YtjhljkhgjcckhaaGreat
open Go.RowKit
theorem undTok : Tryz.prog.underlying 72 = some (.struct (Tryz.prog.fieldsOf 72)) := by kernel_rfl
theorem heldTok : Tryz.prog.stoodInHeld 72 = false := by kernel_rfl
theorem guardTok : Tryz.prog.eqGuardType Tryz.prog.depth 72 = false := by kernel_rfl
theorem fieldsTok : (Tryz.prog.fieldsOf 72).toList.map (fun f => (f.type, f.offset, f.name == "_")) = [(5, 0, false), (3, 1, false), (3, 2, false)] := by kernel_rfl
theorem cell8 : Tryz.prog.cellsOf 5 = 1 := by kernel_rfl
theorem cell64 : Tryz.prog.cellsOf 3 = 1 := by kernel_rfl
theorem run_eq_tok (w : World) (t : Tok) : (Op.equalIn 10000 72 (.agg (tokC t).toArray) (.agg (tokC t).toArray)).run Tryz.prog w = .ok true w := by
  rw [run_equalIn_struct w 9999 _ _ _ undTok heldTok]
  have hf := fieldsTok
  obtain ⟨fs, hfs⟩ : ∃ fs, fs = (Tryz.prog.fieldsOf 72).toList := ⟨_, rfl⟩
  rw [← hfs] at hf ⊢
  clear hfs
  have hl : fs.length = 3 := by have := congrArg List.length hf; simpa using this
  match fs, hl, hf with
  | [f0, f1, f2], _, hf =>
    simp at hf
    obtain ⟨⟨a1, a2, a3⟩, ⟨b1, b2, b3⟩, ⟨c1, c2, c3⟩⟩ := hf
    simp [Op.eqFields, a1, a2, a3, b1, b2, b3, c1, c2, c3, tokC, go_sem, Tryz.underlying5, Tryz.underlying3]
theorem run_neq_tok (w : World) (t : Tok) : (binOp .neq 72 (.agg (tokC t).toArray) (.agg (tokC t).toArray)).run Tryz.prog w = .ok (.bool false) w := by
  rw [run_neq_struct, run_eq_tok]; rfl
theorem szTokC (t : Tok) : (Tryz.prog.info? 72).map (·.size) = some (tokC t).length := szTok
set_option maxRecDepth 100000 in
set_option maxHeartbeats 2000000 in
theorem rsame8_any (w : World) (B : Nat) (A A2 : Option Addr) (c c2 : Nat) (l : List Tok) (hr : RdT w B A l) (hr2 : RdT w B A2 l) (hn : l.length ≤ 1000000) :
    Calls Tryz.prog 9 #[.slice A l.length c, .slice A2 l.length c2] w fun e w' => e = .returned (.bool true) ∧ ∃ q, w' = w.drewN q := by
  have HR := Lib.hid hr; have HR2 := Lib.hid hr2
  clear hr hr2
  obtain ⟨n, hln⟩ : ∃ n, n = l.length := ⟨_, rfl⟩
  rw [← hln] at hn ⊢
  have HN := Lib.hid hln
  clear hln
  have hnn : ((n : Int) != (n : Int)) = false := by simp
  go_enter Tryz.func9, Tryz.ntmps9
  go_wp2
  go_loopw [5] (fun iv wr => ∃ i : Nat, i ≤ n ∧ iv = .int .i64 (i : Int) ∧ Hid (∃ q, wr = w.drewN q)) (fun iv _ => n - (intOf iv).toNat)
  case atStart => exact ⟨0, Nat.zero_le _, rfl, Lib.hid ⟨0, rfl⟩⟩
  case round =>
    obtain ⟨i, hi, rfl, HD⟩ := hrel
    have h1 : Hid (RdT wr B A l) := Lib.hid (by obtain ⟨q, hq⟩ := HD.out; rw [hq]; exact HR.out)
    have h2 : Hid (RdT wr B A2 l) := Lib.hid (by obtain ⟨q, hq⟩ := HD.out; rw [hq]; exact HR2.out)
    by_cases hlt : i < n
    · have hlti : (i : Int) < (n : Int) := by omega
      have hi0 : (0 : Int) ≤ (i : Int) := by omega
      have hil : i < l.length := by rw [← HN.out]; exact hlt
      obtain ⟨b, o, rfl, _, _⟩ := h1.out.at hil
      obtain ⟨b2, o2, rfl, _, _⟩ := h2.out.at hil
      have r1 := h1.out.range rfl hil
      have r2 := h2.out.range rfl hil
      obtain ⟨t, ht⟩ : ∃ t, t = l.getD i tok0 := ⟨_, rfl⟩
      rw [← ht] at r1 r2
      have R1 : Hid (∀ V, (∃ q, V = wr.drewN q) → V.rangeAt b (o + i * 3) (tokC t)) := Lib.hid fun V hV => by obtain ⟨q, rfl⟩ := hV; exact r1
      have R2 : Hid (∀ V, (∃ q, V = wr.drewN q) → V.rangeAt b2 (o2 + i * 3) (tokC t)) := Lib.hid fun V hV => by obtain ⟨q, rfl⟩ := hV; exact r2
      clear r1 r2 ht hil
      go_wp2
      refine wp_region_quiet_lit (by kernel_rfl) (by kernel_rfl) ?_
      repeat (first
        | (go_big_quiet_want; with_reducible refine quiet_load_row _ _ rfl _ _ rfl _ _ R1.out Tryz.underlying72 rfl (szTokC t) ?_; go_big_quiet_on; simp only [Act.put, List.setIfInBounds_toArray, List.set_cons_succ, List.set_cons_zero])
        | (go_big_quiet_want; with_reducible refine quiet_load_row _ _ rfl _ _ rfl _ _ R2.out Tryz.underlying72 rfl (szTokC t) ?_; go_big_quiet_on; simp only [Act.put, List.setIfInBounds_toArray, List.set_cons_succ, List.set_cons_zero])
        | (go_big_quiet_want; with_reducible refine quiet_neq _ _ _ rfl (.agg (tokC t).toArray) (.agg (tokC t).toArray) false rfl rfl (fun w => run_eqGuard_agg _ _ _ _ _ _ _ guardTok) (fun w => run_neq_tok w t) ?_; go_big_quiet_on; simp only [Act.put, List.setIfInBounds_toArray, List.set_cons_succ, List.set_cons_zero])
        | go_big_quiet_step (fail))
      refine wpQuiet_nil ?_
      rintro V ⟨q, rfl⟩
      go_wp2
      go_roundw
      case rel => exact ⟨i + 1, by omega, by go_num, Lib.hid (by obtain ⟨p, hp⟩ := HD.out; exact ⟨p + q, by rw [hp, World.drewN_drewN]⟩)⟩
      case measure => simp [intOf]; omega
    · obtain rfl : i = n := by omega
      have hlti : ¬ (i : Int) < (i : Int) := by omega
      go_wp2
      go_ret
      exact ⟨rfl, HD.out⟩
end Go.Proofs.YtjhljkhgjcckhaaGreat

namespace Go.Proofs.YtjhljkhgjcckhaaGreat
open Go.RowKit Go.ChangeShapes Go.WideShapes Go.ChangeAt Go.Joins
/-- A world that differs by draws alone. -/
def Drw (w u : World) : Prop := ∃ t, u = w.drewN t
theorem Drw.refl (w : World) : Drw w w := ⟨0, rfl⟩
theorem Drw.more {w u : World} (h : Drw w u) (n : Nat) : Drw w (u.drewN n) := by
  obtain ⟨t, rfl⟩ := h
  exact ⟨t + n, by rw [World.drewN_drewN]⟩
theorem Drw.rd {w u : World} (h : Drw w u) {B n : Nat} {A : Option Addr} {f : Nat → Nat} (hr : RdB w B A n f) : RdB u B A n f := by
  obtain ⟨t, rfl⟩ := h
  exact hr
theorem Drw.below {w u : World} (h : Drw w u) {g : Nat} {a : World} (hb : Below g a w) : Below g a u := by
  obtain ⟨t, rfl⟩ := h
  exact ⟨hb.os, hb.tape, hb.output, hb.size, hb.block⟩
end Go.Proofs.YtjhljkhgjcckhaaGreat

namespace Go.Proofs.YtjhljkhgjcckhaaGreat
open Go.RowKit
/-- An iterator that hands on the L values encs 0, encs 1, .., one a round, if no round leaves it, and a round keeps what Kp says. -/
def SeqTied (F : Fence) (n : Nat) (P : Program) (g : Nat) (lb : Array Value) (encs : Nat → Array Value) (Kp : World → World → Prop) (L : Nat) (w : World) : Prop :=
  ∀ (l : Nat) (J : Nat → World → Prop) (W : World), Below w.heap.size w W →
    (∀ j W1, J j W1 → j < L → YieldAt F (n - 1) P l (encs j) W1 fun e W' => e = .returned (.bool true) ∧ J (j + 1) W' ∧ Kp W1 W') →
    J 0 W → CallsIn F n P g (#[.func (.yield l) #[] #[]] ++ lb) W fun e W' => (∃ v, e = .returned v) ∧ J L W'
theorem wpIn_range_tied {F : Fence} {n : Nat} {P : Program} {g : Operand} {ps : Array Tmp} {assign body : Code} {Q : Exit → Act → World → Prop} {a : Act} {w : World}
    (hro : F.round = none) (h1 : 1 ≤ n) {gf : Nat} {lb : Array Value} (hg : a.eval g = .func (.func gf) #[] lb) (hFg : F.fn gf) (eg : ∀ args w, (callFunc gf args).run P w = .ok (.enter gf args) w)
    {encs : Nat → Array Value} {Kp : World → World → Prop} {L : Nat} (hseq : SeqTied F (n - 1) P gf lb encs Kp L w)
    (hKt : ∀ {A B C : World}, Kp A B → Kp B C → Kp A C) (hKb : ∀ (W : World) (l : Nat) (o o' : Obj), w.heap.size ≤ l → W.heap[l]? = some o → o.isCells = false → o.isWalk = false → Kp W (W.putObj l o')) (hps : ∀ j, (encs j).size = ps.size)
    (I : Nat → World → Prop) (hI : OwnFrom w.heap.size I) (h0 : I 0 w) (a₁ : Nat → Act)
    (hassign : ∀ (l j : Nat) (W : World) (K : Act → World → Prop), K (a₁ j) W →
      assign.wpIn (F.inRound l) (n - 1 - 1) P (Exit.then K (fun _ _ _ => False)) { tmps := (ps.zip (encs j)).foldl (fun t (p, v) => t.setIfInBounds p v) a.tmps, defers := [] } W)
    (hbody : ∀ (l j : Nat) (W : World), I j W → j < L → body.wpIn (F.inRound l) (n - 1 - 1) P (fun e _ W' => e = .normal ∧ KeepsOthers W W' ∧ Kp W W' ∧ I (j + 1) W') (a₁ j) W)
    (hdone : ∀ (D : Nat) (W : World), w.heap.size ≤ D → I L W → W.heap[D]? = some (.deferred (some [])) → Q .normal { a with defers := { target := .collected D, args := #[] } :: a.defers } W) :
    (Code.rangeFunc g ps assign body).wpIn F n P Q a w := by
  refine wpIn_rangeFunc fun fn hfn => ?_
  rw [hro]
  obtain ⟨rec, hrec⟩ : ∃ rec : LoopState → Loop, rec = fun st => { state := st, pending := none, fn, tmps := a.tmps, params := ps, assign, body, defers := w.heap.size } := ⟨_, rfl⟩
  obtain ⟨D, hD⟩ : ∃ D, D = w.heap.size := ⟨_, rfl⟩
  obtain ⟨W1, hW1⟩ : ∃ W1, W1 = (w.alloc (.deferred (some []))).alloc (.loop (rec .ready)) := ⟨_, rfl⟩
  have hL1 : W1.heap[D + 1]? = some (.loop (rec .ready)) := by
    rw [hW1, hD]; have h := World.alloc_heap_new (w.alloc (.deferred (some []))) (.loop (rec .ready)); rwa [World.size_alloc] at h
  have hK1 : W1.heap[D]? = some (.deferred (some [])) := by
    rw [hW1, hD]; exact (Below.heap_alloc _ _ _ (by simp)).trans (World.alloc_heap_new w _)
  have hI1 : I 0 W1 := by rw [hW1]; exact hI.alloc _ (hI.alloc _ h0)
  have hb1 : Below w.heap.size w W1 := by
    rw [hW1]; exact ((Below.refl _ w).alloc (Nat.le_refl _) _).alloc (by simp) _
  refine ⟨D + 1, [{ target := .collected D, args := #[] }], W1, { target := .fn (.func gf) lb, args := #[.func (.yield (D + 1)) #[] #[]] }, W1, gf, #[.func (.yield (D + 1)) #[] #[]] ++ lb, W1, ?_, ?_, ?_, ?_, fun _ => h1, ?_⟩
  · rw [hW1, hrec, hD]; exact run_enterLoop_outer _ _ _ _ _
  · simp only [resolve, hg]
    simp [go_sem]
  · intro f' hf'; simp [Target.leads] at hf'; subst hf'; exact hFg
  · simp [invoke, go_sem, eg]
  · refine (hseq (D + 1) (fun j W => I j W ∧ W.heap[D + 1]? = some (.loop (rec .ready)) ∧ W.heap[D]? = some (.deferred (some []))) W1 hb1 ?_ ⟨hI1, hL1, hK1⟩).mono ?_
    · rintro j W ⟨hi, hl, hk⟩ hj
      have hlt : D + 1 < W.heap.size := (Array.getElem?_eq_some_iff.1 hl).1
      have hy := run_yield (P := P) (args := encs j) hl (by rw [hrec]; exact hps j)
      rw [hrec] at hy
      refine ⟨fn, _, assign, body, hy, roundIn_of_wpIn hfn (hassign _ j W _ ⟨_, run_beginRound hl (by rw [hrec]), ?_⟩)⟩
      have hl2 : (W.putObj (D + 1) (.loop { rec .ready with state := .busy })).heap[D + 1]? = some (.loop { rec .ready with state := .busy }) := World.putObj_heap_same hlt
      have hk2 : (W.putObj (D + 1) (.loop { rec .ready with state := .busy })).heap[D]? = some (.deferred (some [])) := (World.putObj_heap_other (by omega)).trans hk
      have hp2 : Kp W (W.putObj (D + 1) (.loop { rec .ready with state := .busy })) := hKb W _ _ _ (by omega) hl rfl rfl
      refine wpIn_mono (hbody _ j _ (hI.putObj _ hi (by omega) hl rfl) hj) ?_
      rintro e a3 W3 ⟨rfl, hk3, hp3, hi3⟩
      have hl3 := hk3.same _ _ hl2 rfl
      have hr := run_endRound (P := P) none hl3
      rw [hrec] at hr hl3
      refine ⟨_, _, hr, rfl, ⟨hI.putObj _ hi3 (by omega) hl3 rfl, ?_, (World.putObj_heap_other (by omega)).trans (hk3.same _ _ hk2 rfl)⟩, hKt (hKt hp2 hp3) (hKb W3 _ _ _ (by omega) hl3 rfl rfl)⟩
      rw [World.putObj_heap_same (Array.getElem?_eq_some_iff.1 hl3).1, hrec]; rfl
    · rintro e W2 ⟨⟨v, rfl⟩, hi, hl, hk⟩
      refine ⟨none, _, by have h := run_endLoop (P := P) hl (by rw [hrec]; simp); rw [hrec] at h; exact h, ?_⟩
      exact hdone D _ (by omega) (hI.putObj _ hi (by omega) hl rfl) ((World.putObj_heap_other (by omega)).trans hk)
end Go.Proofs.YtjhljkhgjcckhaaGreat

namespace Go.Proofs.YtjhljkhgjcckhaaGreat
open Go.RowKit
/-- The blocks of S lie as they lay. -/
def KpB (S : Nat → Prop) (W W' : World) : Prop := ∀ k, S k → W'.heap[k]? = W.heap[k]?
theorem KpB.refl (S : Nat → Prop) (W : World) : KpB S W W := fun _ _ => rfl
theorem KpB.tr {S : Nat → Prop} {A B C : World} (h : KpB S A B) (k : KpB S B C) : KpB S A C := fun i hi => (k i hi).trans (h i hi)
theorem KpB.cell {S : Nat → Prop} {W W' : World} (h : KpB S W W') {p : Addr} (hp : S p.block) : W'.cell? p = W.cell? p := by
  simp only [World.cell?, h _ hp]
theorem RdB.kept {S : Nat → Prop} {w w' : World} {B n : Nat} {A : Option Addr} {f : Nat → Nat} (h : RdB w B A n f) (hk : KpB S w w') (hS : ∀ k, k < B → S k) : RdB w' B A n f := by
  refine ⟨h.1, fun hn => ?_⟩
  obtain ⟨b, o, rfl, hlt, hc⟩ := h.2 hn
  exact ⟨b, o, rfl, hlt, fun j hj => by rw [hk.cell (p := ⟨b, o + j, none⟩) (hS b hlt)]; exact hc j hj⟩
end Go.Proofs.YtjhljkhgjcckhaaGreat

namespace Go.Proofs.YtjhljkhgjcckhaaGreat
open Go.RowKit Go.Shelf
attribute [local go_sem] Oper.semAt_some
theorem wide_fn (f : FuncId) : Fence.wide.fn f = True := rfl
attribute [local simp] wide_fn
end Go.Proofs.YtjhljkhgjcckhaaGreat

namespace Go.Proofs.YtjhljkhgjcckhaaGreat
open Go.RowKit Go.Shelf
attribute [local go_sem] Oper.semAt_some
attribute [local simp] wide_fn
/-- What stays. -/
def SBst (h k : Nat) : Prop := k < h + 2 ∨ (h + 5 ≤ k ∧ k < h + 8)
/-- Between two rounds. -/
def BstI (w u : World) (h : Nat) (f : Nat → Nat) (L a z : Nat) (T : Nat × Nat) (j : Nat) (W : World) : Prop :=
  Below h w W ∧ KpB (SBst h) u W ∧ h + 8 ≤ W.heap.size ∧ ∃ c d n : Nat, Boxed W (h + 2) 3 (.int .i64 (c : Int)) ∧ Boxed W (h + 3) 3 (.int .i64 (d : Int)) ∧ Boxed W (h + 4) 3 (.int .i64 (n : Int)) ∧ 0 < c ∧ c ≤ 256 ∧ n ≤ 258 ∧ d ≤ a ∧ bstN f L a z (a - j) c d n = T
def BstX (w : World) (h _a : Nat) (T : Nat × Nat) (_ : Nat) (W : World) : Prop :=
  Below h w W ∧ ∃ d n : Nat, Boxed W (h + 3) 3 (.int .i64 (d : Int)) ∧ Boxed W (h + 4) 3 (.int .i64 (n : Int)) ∧ (d, n) = T
theorem boxed_own {W W' : World} {row : Option Nat} {B : Nat} {t : TypeId} {v : Value} (h : Boxed W B t v) (hg : W.grownBy W' row) (hr : ∀ r, row = some r → ∃ o : Obj, W.heap[r]? = some o ∧ o.isCells = false) : Boxed W' B t v :=
  h.kept hg (fun e => by obtain ⟨o, h1, h2⟩ := hr B e.symm; rw [h] at h1; cases h1; cases h2)
theorem BstI.own (w u : World) (f : Nat → Nat) (L a z : Nat) (T : Nat × Nat) (B : Nat) (hB : w.heap.size + 8 ≤ B) : OwnFrom B (BstI w u w.heap.size f L a z T) := by
  rintro j W W' row ⟨h1, h2, hs, c, d, n, h3, h4, h5, h6⟩ hg hr
  refine ⟨h1.grown hg h1.size (fun r e => by have := (hr r e).1; omega), fun k hk => ?_, Nat.le_trans hs hg.size, c, d, n, boxed_own h3 hg fun r e => (hr r e).2, boxed_own h4 hg fun r e => (hr r e).2, boxed_own h5 hg fun r e => (hr r e).2, h6⟩
  refine (hg.block k (by rcases hk with hk | hk <;> omega) (fun e => ?_)).trans (h2 k hk)
  have := (hr k e.symm).1
  rcases hk with hk | hk <;> omega
theorem BstX.own (w : World) (a : Nat) (T : Nat × Nat) (B : Nat) (hB : w.heap.size ≤ B) : OwnFrom B (BstX w w.heap.size a T) := by
  rintro j W W' row ⟨h1, d, n, h4, h5, h6⟩ hg hr
  exact ⟨h1.grown hg h1.size (fun r e => by have := (hr r e).1; omega), d, n, boxed_own h4 hg fun r e => (hr r e).2, boxed_own h5 hg fun r e => (hr r e).2, h6⟩
end Go.Proofs.YtjhljkhgjcckhaaGreat

namespace Go.Proofs.YtjhljkhgjcckhaaGreat
open Go.RowKit Go.ChangeShapes Go.WideShapes Go.ChangeAt Go.Joins
/-- A slice of tokens, its room too. -/
def TkR (w : World) (B : Nat) (A : Option Addr) (n c : Nat) (l : List Tok) : Prop := n = l.length ∧ RdT w B A l ∧ (A = none → c = 0) ∧ n ≤ c ∧ c ≤ maxLen
theorem TkR.below {w w' : World} {B B' n c : Nat} {A : Option Addr} {l : List Tok} (h : TkR w B A n c l) (hb : Below B' w w') (hB : B ≤ B') : TkR w' B A n c l := ⟨h.1, h.2.1.below hb hB, h.2.2⟩
theorem TkR.more {w : World} {B B' n c : Nat} {A : Option Addr} {l : List Tok} (h : TkR w B A n c l) (hB : B ≤ B') : TkR w B' A n c l := ⟨h.1, h.2.1.more hB, h.2.2⟩
theorem TkR.nil (w : World) (B : Nat) : TkR w B none 0 0 [] := ⟨rfl, RdT.nil w B none, fun _ => rfl, Nat.le_refl _, by unfold maxLen; omega⟩
theorem TkR.of_own {w : World} {base n c : Nat} {A : Option Addr} {l : List Tok} (h : w.ownsRow base 72 3 (.slice A n c) n (toksL l)) : TkR w w.heap.size A n c l := by
  obtain ⟨h1, h2⟩ := RdT.of_own h
  refine ⟨h1, h2, ?_⟩
  rcases h.2 with ⟨hv, h0⟩ | ⟨g, cap, cur, hv, _, _, k1, k2, _⟩
  · injection hv with h3 h4 h5
    exact ⟨fun _ => h5, by omega, by unfold maxLen; omega⟩
  · injection hv with h3 h4 h5
    exact ⟨(fun h => by rw [h] at h3; cases h3), by omega, by omega⟩
end Go.Proofs.YtjhljkhgjcckhaaGreat

namespace Go.Proofs.YtjhljkhgjcckhaaGreat
open Go.RowKit Go.ChangeShapes Go.WideShapes Go.ChangeAt Go.Joins Go.Deep
theorem cellsTok : Tryz.prog.cellsOf 72 = 3 := by kernel_rfl
def TokIn (t : Tok) : Prop := t.x < 256 ∧ (-9223372036854775808 ≤ t.d ∧ t.d ≤ 9223372036854775807) ∧ (-9223372036854775808 ≤ t.n ∧ t.n ≤ 9223372036854775807)
set_option maxRecDepth 100000 in
theorem open_toks {H : Type} {enc : TypeId × Value → H} {W : World} {base : Nat} {sp : Nat → Bool} {hd : Bool} {a : Option Addr} {len cap : Nat} {d : DataW H} {p : List MemPlace}
    (h : ∃ fuel, DataW.trod enc Tryz.prog W base sp hd fuel 25 (Value.slice a len cap).cells.toList = some (d, p)) : ∃ l, TkR W W.heap.size a len cap l ∧ ∀ t ∈ l, TokIn t := by
  obtain ⟨fuel, hf⟩ := h
  rcases open_slice Tryz.underlying25 hf with ⟨hcs, _⟩ | ⟨x, len', cap', m, n, D, Pl, hcs, hb, hl, hm, hmm, _, hx⟩
  · simp [Value.cells] at hcs
    obtain ⟨rfl, rfl, rfl⟩ := hcs
    exact ⟨[], TkR.nil _ _, fun t ht => by simp at ht⟩
  · simp [Value.cells] at hcs
    obtain ⟨rfl, rfl, rfl⟩ := hcs
    have hlm : len ≤ m := by rw [hmm]; split <;> omega
    have each : ∀ i, i < m → ∃ t : Tok, (W.cell? (x.add (i * 3)) = some (.int .u8 (t.x : Int)) ∧ W.cell? (x.add (i * 3 + 1)) = some (.int .i64 t.d) ∧ W.cell? (x.add (i * 3 + 2)) = some (.int .i64 t.n)) ∧ TokIn t := by
      intro i hi
      obtain ⟨cs', h1, h2⟩ := hx i hi
      rw [cellsTok] at h1
      obtain ⟨_, hlen, hcell⟩ := World.cells?_some h1
      obtain ⟨y0, y1, y2, k, _, _, g0, g1, g2⟩ := trod_struct3 Tryz.underlying72 h2
      match cs', hlen with
      | [v0, v1, v2], _ =>
        have e0 := hcell 0 (by omega)
        have e1 := hcell 1 (by omega)
        have e2 := hcell 2 (by omega)
        rw [add_add] at e0 e1 e2
        simp at e0 e1 e2
        obtain ⟨k0, q0, _, w0⟩ := DataW.trod_int Tryz.underlying5 g0
        obtain ⟨k1, q1, _, w1⟩ := DataW.trod_int Tryz.underlying3 g1
        obtain ⟨k2, q2, _, w2⟩ := DataW.trod_int Tryz.underlying3 g2
        replace q0 : List.take (Tryz.prog.cellsOf 5) [v0, v1, v2] = [.int .u8 k0] := q0
        replace q1 : List.take (Tryz.prog.cellsOf 3) [v1, v2] = [.int .i64 k1] := q1
        replace q2 : List.take (Tryz.prog.cellsOf 3) [v2] = [.int .i64 k2] := q2
        rw [cell8] at q0
        rw [cell64] at q1 q2
        simp at q0 q1 q2
        subst q0; subst q1; subst q2
        have b0 := wf_u8_range w0
        exact ⟨⟨k0.toNat, k1, k2⟩, ⟨by rw [e0]; show some (Value.int .u8 k0) = some (Value.int .u8 (k0.toNat : Int)); rw [Int.toNat_of_nonneg b0.1], e1, e2⟩, by show k0.toNat < 256; omega, wf_i64_range w1, wf_i64_range w2⟩
    haveI : Inhabited Tok := ⟨tok0⟩
    obtain ⟨q, hq⟩ := choose_lt each
    have hlen : ((List.range len).map q).length = len := by simp
    have hgd : ∀ j, j < len → ((List.range len).map q).getD j tok0 = q j := fun j hj => by simp [List.getD_eq_getElem?_getD, hj]
    have hlen3 : (toksL ((List.range len).map q)).length = len * 3 := by rw [toksL_length, hlen]
    refine ⟨(List.range len).map q, ⟨hlen.symm, ⟨by rw [hlen]; exact hlen3, fun hn => ?_⟩, (fun h => by cases h), hl, hm⟩, fun t ht => ?_⟩
    · rw [hlen] at hn
      obtain ⟨b, off, spot⟩ := x
      have h0 := (hq 0 (by omega)).1.1
      have hspot : spot = none := by simpa [Addr.add] using World.cell?_spot h0
      subst hspot
      have hlt : b < W.heap.size := by
        rcases Nat.lt_or_ge b W.heap.size with h | h
        · exact h
        · simp [Addr.add, World.cell?, Array.getElem?_eq_none h] at h0
      have hadd : ∀ j, (⟨b, off, none⟩ : Addr).add j = ⟨b, off + j, none⟩ := fun j => by unfold Addr.add; split <;> simp_all
      refine ⟨b, off, rfl, hlt, fun j u hu => ?_⟩
      have hj : j < len * 3 := by
        rcases Nat.lt_or_ge j (len * 3) with h | h
        · exact h
        · rw [List.getElem?_eq_none (by omega)] at hu; cases hu
      have hd3 : j / 3 < len := by omega
      have hg := toksL_get ((List.range len).map q) (j / 3) (j % 3) (by omega) (Nat.mod_lt _ (by omega))
      rw [show j / 3 * 3 + j % 3 = j by omega, hu, hgd _ hd3] at hg
      obtain ⟨c0, c1, c2⟩ := (hq (j / 3) (by omega)).1
      rw [hadd] at c0 c1 c2
      have h3 : j % 3 = 0 ∨ j % 3 = 1 ∨ j % 3 = 2 := by omega
      rcases h3 with h | h | h
      · rw [h] at hg
        rw [show off + j = off + j / 3 * 3 by omega, c0]
        simpa [tokC] using hg.symm
      · rw [h] at hg
        rw [show off + j = off + (j / 3 * 3 + 1) by omega, c1]
        simpa [tokC] using hg.symm
      · rw [h] at hg
        rw [show off + j = off + (j / 3 * 3 + 2) by omega, c2]
        simpa [tokC] using hg.symm
    · rw [List.mem_map] at ht
      obtain ⟨i, hi, rfl⟩ := ht
      exact (hq i (by have := List.mem_range.1 hi; omega)).2
end Go.Proofs.YtjhljkhgjcckhaaGreat

namespace Go.Proofs.YtjhljkhgjcckhaaGreat
open Go.RowKit Go.ChangeShapes Go.WideShapes Go.ChangeAt Go.Joins
/-- A row that may be written: its block is not one of those below base. -/
def NewB (w : World) (base : Nat) (A : Option Addr) (n : Nat) : Prop := 0 < n → ∃ (g o : Nat) (cur : Array Value), A = some ⟨g, o, none⟩ ∧ base ≤ g ∧ w.heap[g]? = some (.cells cur 5 (0, 0))
theorem NewB.nil (w : World) (base : Nat) (A : Option Addr) : NewB w base A 0 := fun h => absurd h (by omega)
theorem NewB.of_own {w : World} {base q c n : Nat} {ad : Addr} {A3 : Option Addr} {xs : List Value} (h : w.ownsRow base 5 1 (.slice (some ad) q c) q xs) (hqc : q ≤ c) (hnq : n ≤ q) (hA : (if c = n then (some ad : Option Addr) else some (ad.add n)) = A3) : NewB w base A3 (q - n) := fun h0 => by
  rcases h.2 with ⟨hv, _⟩ | ⟨g, cap, cur, hv, hg, hh, _⟩
  · injection hv with h1; cases h1
  · injection hv with h1 h2 h3
    injection h1 with h1
    subst h1
    rw [if_neg (by omega)] at hA
    have e : (⟨g, 0, none⟩ : Addr).add n = ⟨g, 0 + n, none⟩ := by unfold Addr.add; split <;> simp_all
    rw [e] at hA
    exact ⟨g, 0 + n, cur, hA.symm, hg, hh⟩
theorem NewB.below {w w' : World} {base B n : Nat} {A : Option Addr} (h : NewB w base A n) (hb : Below B w w') (hB : w.heap.size ≤ B) : NewB w' base A n := fun h0 => by
  obtain ⟨g, o, cur, h1, h2, h3⟩ := h h0
  exact ⟨g, o, cur, h1, h2, (hb.block g (by have := (Array.getElem?_eq_some_iff.1 h3).1; omega)).trans h3⟩
/-- A row of bytes that may be written. -/
def WrB (w : World) (base : Nat) (A : Option Addr) (n : Nat) : Prop := 0 < n → ∃ (g o : Nat) (cur : Array Value) (F : Nat → Nat), A = some ⟨g, o, none⟩ ∧ base ≤ g ∧ w.heap[g]? = some (.cells cur 5 (0, 0)) ∧ (∀ j, F j < 256) ∧ ∀ j, j < n → cur[o + j]? = some (.int .u8 (F j : Int))
theorem WrB.of {w : World} {base B n : Nat} {A : Option Addr} {f : Nat → Nat} (h1 : NewB w base A n) (h2 : RdB w B A n f) : WrB w base A n := fun h0 => by
  obtain ⟨g, o, cur, rfl, q2, q3⟩ := h1 h0
  obtain ⟨b, o', e, _, hc⟩ := h2.2 h0
  injection e with e
  injection e with e1 e2 _
  subst e1; subst e2
  exact ⟨g, o, cur, f, rfl, q2, q3, h2.1, fun j hj => by rw [← cell_of_row w g (o + j) _ _ (0, 0) q3]; exact hc j hj⟩
theorem WrB.below {w w' : World} {base B n : Nat} {A : Option Addr} (h : WrB w base A n) (hb : Below B w w') (hB : w.heap.size ≤ B) : WrB w' base A n := fun h0 => by
  obtain ⟨g, o, cur, F, h1, h2, h3, h4, h5⟩ := h h0
  exact ⟨g, o, cur, F, h1, h2, (hb.block g (by have := (Array.getElem?_eq_some_iff.1 h3).1; omega)).trans h3, h4, h5⟩
theorem WrB.set {w : World} {base n g o : Nat} (h : WrB w base (some ⟨g, o, none⟩) n) {i : Nat} (hi : i < n) (x : Nat) (hx : x < 256) : WrB (w.setCell ⟨g, o + i, none⟩ (.int .u8 (x : Int))) base (some ⟨g, o, none⟩) n := fun h0 => by
  obtain ⟨g', o', cur, F, h1, h2, h3, h4, h5⟩ := h h0
  injection h1 with h1
  injection h1 with e1 e2 _
  subst e1; subst e2
  refine ⟨g, o, cur.setIfInBounds (o + i) (.int .u8 (x : Int)), upd F i x, rfl, h2, heap_setCell_same w g (o + i) cur _ _ h3, fun j => by unfold upd; split; exact hx; exact h4 j, fun j hj => ?_⟩
  rw [Array.getElem?_setIfInBounds, upd]
  have hs : o + i < cur.size := by
    rcases Nat.lt_or_ge (o + i) cur.size with q | q
    · exact q
    · have := h5 i hi; rw [Array.getElem?_eq_none q] at this; cases this
  by_cases e : j = i
  · subst e; simp [hs]
  · rw [if_neg (by omega), if_neg e]; exact h5 j hj
end Go.Proofs.YtjhljkhgjcckhaaGreat

namespace Go.Proofs.YtjhljkhgjcckhaaGreat
open Go.RowKit
/-- What the program's Write leaves: a pen whose bytes are new memory. -/
def WrtN (w w' : World) (e : Ending) (K : Nat) (E : Int) (F : Nat → Nat) : Prop := ∃ A' c' L, L = (K + 7) / 8 ∧ e = .returned (.tuple #[.agg #[.slice A' L c', .int .i64 (K : Int)], .int .i64 E]) ∧ ByR w' w'.heap.size A' L c' F ∧ Below w.heap.size w w' ∧ NewB w' w.heap.size A' L
def WriteCon : Prop := ∀ (w : World) (A : Option Addr) (n c : Nat) (f : Nat → Nat) (k : Int) (kind : Nat) (A1 : Option Addr) (rn rc : Nat) (r : Nat → Nat) (A2 : Option Addr) (m c2 : Nat) (l : List Tok) (last : Bool), ByR w w.heap.size A n c f → n ≤ 2000000 → -9223372036854775808 ≤ k → k ≤ 9223372036854775807 → kind < 256 →
  ByR w w.heap.size A1 rn rc r → rn ≤ 1000000 → TkR w w.heap.size A2 m c2 l → m ≤ 1000000 → (∀ t ∈ l, TokIn t) →
  Calls Tryz.prog 6 #[.agg #[.slice A n c, .int .i64 k], .int .u8 (kind : Int), .slice A1 rn rc, .slice A2 m c2, .bool last] w fun e w' => WrtN w w' e (wrtK f n k kind rn r l last) (wrtE f n k kind rn r l last) (wrtF f n k kind rn r l last)
def LongCon : Prop := ∀ (w : World) (a : Int) (kind : Nat) (A1 : Option Addr) (rn rc : Nat) (r : Nat → Nat) (A2 : Option Addr) (m c2 : Nat) (l : List Tok), -9223372036854775808 ≤ a → a ≤ 9223372036854775807 → kind < 256 →
  ByR w w.heap.size A1 rn rc r → rn ≤ 1000000 → TkR w w.heap.size A2 m c2 l → m ≤ 1000000 → (∀ t ∈ l, TokIn t) →
  Calls Tryz.prog 11 #[.int .i64 a, .int .u8 (kind : Int), .slice A1 rn rc, .slice A2 m c2] w fun e w' => e = .returned (.tuple #[.int .i64 ((lngV a kind rn r l : Nat) : Int), .int .i64 (lngE a kind rn l)]) ∧ Below w.heap.size w w'
def BestCon : Prop := ∀ (w : World) (a : Int) (A1 : Option Addr) (rn rc : Nat) (r : Nat → Nat) (A2 : Option Addr) (m c2 : Nat) (l : List Tok), -9223372036854775808 ≤ a → a ≤ 9223372036854775807 →
  ByR w w.heap.size A1 rn rc r → rn ≤ 1000000 → TkR w w.heap.size A2 m c2 l → m ≤ 1000000 → (∀ t ∈ l, TokIn t) →
  Calls Tryz.prog 13 #[.int .i64 a, .slice A1 rn rc, .slice A2 m c2] w fun e w' => e = .returned (.tuple #[.int .u8 ((bestV a rn r l : Nat) : Int), .int .i64 (bestE a rn l)]) ∧ Below w.heap.size w w'
def OrderCon : Prop := ∀ w : World, Calls Tryz.prog 17 #[] w fun e w' => e = .returned (.agg (tblA (fun i => (ordN i : Int)) 19)) ∧ Below w.heap.size w w'
def FixedCon : Prop := ∀ w : World, Calls Tryz.prog 10 #[] w fun e w' => ∃ A1 c1 A2 c2, e = .returned (.tuple #[.slice A1 288 c1, .slice A2 32 c2]) ∧
  w'.ownsRow w.heap.size 5 1 (.slice A1 288 c1) 288 (bytesL 288 fixA) ∧ w'.ownsRow w.heap.size 5 1 (.slice A2 32 c2) 32 (bytesL 32 fixB) ∧ (∀ g, (Value.slice A1 288 c1).ownBlock = some g → (Value.slice A2 32 c2).ownBlock ≠ some g) ∧ Below w.heap.size w w'
end Go.Proofs.YtjhljkhgjcckhaaGreat

namespace Go.Proofs.YtjhljkhgjcckhaaGreat
open Go.RowKit Go.ChangeShapes Go.WideShapes Go.ChangeAt Go.Joins
/-- append([]api.Token(nil), l...) -/
theorem run_twinT11 (w : World) (A : Option Addr) (n c : Nat) (l : List Tok) (hr : TkR w w.heap.size A n c l) (hn : n ≤ 1000000) :
    ∃ A' c' w', (Builtin.append_ #[25, 25] 25 #[.slice none 0 0, .slice A n c]).run Tryz.prog w = .ok (.slice A' n c') w' ∧ TkR w' w'.heap.size A' n c' l ∧ Below w.heap.size w w' := by
  obtain ⟨h1, h2, h3, _⟩ := hr
  subst h1
  obtain ⟨A', c', w', q1, q2, q3⟩ := run_app (by_ := 24) Tryz.underlying25 infoTok rfl (by decide) w w.heap.size w.heap.size (.slice none 0 0) 0 [] (World.ownsRow_nil w _ _ _) A l.length c (toksL l) h2 (toksL_one l) (by unfold maxLen; omega) (by omega) 25 h3 (Nat.le_refl _)
  rw [Nat.zero_add, List.nil_append] at q2
  rw [Nat.zero_add] at q1
  exact ⟨A', c', w', q1, TkR.of_own q2, q3⟩
theorem writes11_guard (A : Option Addr) (n c : Nat) (k : Int) (kind : Nat) (A1 : Option Addr) (rn rc : Nat) (A2 : Option Addr) (m c2 : Nat) (last : Bool) (w : World) (hg : 500 < n ∨ 500 < rn ∨ 200 < m) :
    Calls Tryz.prog 3 #[.agg #[.slice A n c, .int .i64 k], .int .u8 (kind : Int), .slice A1 rn rc, .slice A2 m c2, .bool last] w fun e w' => e = .returned (.bool true) ∧ Below w.heap.size w w' := by
  have HB := Lib.hid ((Below.refl w.heap.size w).alloc (Nat.le_refl _) (.cells #[.slice A n c, .int .i64 k] 24))
  by_cases h1 : 500 < n
  · have d1 : decide (500 < (n : Int)) = true := by simp; omega
    clear hg
    go_enter Tryz.func3, Tryz.ntmps3
    go_wp2
    go_ret
    exact ⟨rfl, HB.out⟩
  have d1 : decide (500 < (n : Int)) = false := by simp; omega
  by_cases h2 : 500 < rn
  · have d2 : decide (500 < (rn : Int)) = true := by simp; omega
    clear hg
    go_enter Tryz.func3, Tryz.ntmps3
    go_wp2
    go_ret
    exact ⟨rfl, HB.out⟩
  have d2 : decide (500 < (rn : Int)) = false := by simp; omega
  have d3 : decide (200 < (m : Int)) = true := by simp; omega
  clear hg
  go_enter Tryz.func3, Tryz.ntmps3
  go_wp2
  go_ret
  exact ⟨rfl, HB.out⟩
set_option maxRecDepth 100000 in
set_option maxHeartbeats 8000000 in
theorem writes11_walk (HC : WriteCon) (A : Option Addr) (n c : Nat) (f : Nat → Nat) (k : Int) (kind : Nat) (A1 : Option Addr) (rn rc : Nat) (r : Nat → Nat) (A2 : Option Addr) (m c2 : Nat) (l : List Tok) (last : Bool) (w : World)
    (hr : ByR w w.heap.size A n c f) (hk1 : -9223372036854775808 ≤ k) (hk2 : k ≤ 9223372036854775807) (hkd : kind < 256) (hrr : ByR w w.heap.size A1 rn rc r) (hrt : TkR w w.heap.size A2 m c2 l) (hin : ∀ t ∈ l, TokIn t) :
    Calls Tryz.prog 3 #[.agg #[.slice A n c, .int .i64 k], .int .u8 (kind : Int), .slice A1 rn rc, .slice A2 m c2, .bool last] w fun e w' => e = .returned (.bool true) ∧ Below w.heap.size w w' := by
  by_cases hg : 500 < n ∨ 500 < rn ∨ 200 < m
  · exact writes11_guard A n c k kind A1 rn rc A2 m c2 last w hg
  have d1 : decide (500 < (n : Int)) = false := by simp; omega
  have d2 : decide (500 < (rn : Int)) = false := by simp; omega
  have d3 : decide (200 < (m : Int)) = false := by simp; omega
  have hml := hrt.1
  obtain ⟨h, hh⟩ : ∃ h, h = w.heap.size := ⟨_, rfl⟩
  obtain ⟨W1, hW1⟩ : ∃ W, W = w.alloc (.cells #[.slice A n c, .int .i64 k] 24) := ⟨_, rfl⟩
  have h0 : W1.heap[h]? = some (.cells #[.slice A n c, .int .i64 k] 24 (0, 0)) := by rw [hW1, hh]; exact heap_alloc_new w _
  have hb1 : Below w.heap.size w W1 := by rw [hW1]; exact (Below.refl _ _).alloc (Nat.le_refl _) _
  have hr1 := (hr.below hb1 (Nat.le_refl _)).more hb1.size
  have k01 : W1.cell? ⟨h, 0, none⟩ = some (.slice A n c) := (cell_of_row W1 h 0 _ _ (0, 0) h0).trans rfl
  have htw := twin_any W1 A n c f k hr1.1 (by omega) hr1.2.1
  have HTW := Lib.hid htw; have H0 := Lib.hid h0; have HB1 := Lib.hid hb1; have HR1 := Lib.hid hr1; have HW1 := Lib.hid hW1; have HH := Lib.hid hh
  have HRR1 := Lib.hid ((hrr.below hb1 (Nat.le_refl _)).more hb1.size); have HRT1 := Lib.hid ((hrt.below hb1 (Nat.le_refl _)).more hb1.size); have HIN := Lib.hid hin; have HML := Lib.hid hml; have HCC := Lib.hid HC
  clear htw h0 hb1 hr1 hW1 hh hr hrr hrt hin hml HC
  go_enter Tryz.func3, Tryz.ntmps3
  go_wp2_with (first
    | (rw [← HW1.out, ← HH.out]; refine wpList_load_row rfl _ _ rfl h rfl _ #[.slice A n c, .int .i64 k] (0, 0) _ H0.out Tryz.underlying24 rfl szPen2 ?_)
    | fail)
  refine HTW.out.mono ?_
  rintro e w2 ⟨A3, c3, rfl, ho2, hb2⟩
  have hf := HR1.out.1.1
  have hy2 := ByR.of_own ho2 hf
  have hrr2 := (HRR1.out.below hb2 (Nat.le_refl _)).more hb2.size
  obtain ⟨A4, c4, w3, run3, own3, hb3, -⟩ := run_twin w2 w2.heap.size A1 rn rc r hrr2.1 (by omega) 22 hrr2.2.1
  have hy3 := ByR.of_own own3 hrr2.1.1
  have hb13 := hb2.trans (hb3.mono hb2.size)
  obtain ⟨A5, c5, w4, run4, tk4, hb4⟩ := run_twinT11 w3 A2 m c2 l ((HRT1.out.below hb13 (Nat.le_refl _)).more hb13.size) (by omega)
  have hb14 := hb13.trans (hb4.mono hb13.size)
  obtain ⟨h5, hh5⟩ : ∃ h, h = w4.heap.size := ⟨_, rfl⟩
  obtain ⟨W5, hW5⟩ : ∃ W, W = w4.alloc (.cells #[.slice A3 n c3, .int .i64 k] 24) := ⟨_, rfl⟩
  have h05 : W5.heap[h5]? = some (.cells #[.slice A3 n c3, .int .i64 k] 24 (0, 0)) := by rw [hW5, hh5]; exact heap_alloc_new w4 _
  have hb45 : Below w4.heap.size w4 W5 := by rw [hW5]; exact (Below.refl _ _).alloc (Nat.le_refl _) _
  have hb35 := hb4.trans (hb45.mono hb4.size)
  have hb25 := hb3.trans (hb35.mono hb3.size)
  have hb15 := hb14.trans (hb45.mono hb14.size)
  have hy5 := (hy2.below hb25 (Nat.le_refl _)).more hb25.size
  have hz5 := (hy3.below hb35 (Nat.le_refl _)).more hb35.size
  have ht5 := (tk4.below hb45 (Nat.le_refl _)).more hb45.size
  have hwr := HCC.out W5 A3 n c3 f k kind A4 rn c4 r A5 m c5 l last hy5 (by omega) hk1 hk2 hkd hz5 (by omega) ht5 (by omega) HIN.out
  obtain ⟨E, hE⟩ : ∃ E, E = wrtE f n k kind rn r l last := ⟨_, rfl⟩
  obtain ⟨K, hK⟩ : ∃ K, K = wrtK f n k kind rn r l last := ⟨_, rfl⟩
  obtain ⟨F, hF⟩ : ∃ F, F = wrtF f n k kind rn r l last := ⟨_, rfl⟩
  rw [← hE, ← hK, ← hF] at hwr
  have HWR := Lib.hid hwr; have HE := Lib.hid hE; have HK := Lib.hid hK; have HF := Lib.hid hF
  have RUN3 := Lib.hid run3; have RUN4 := Lib.hid run4; have H05 := Lib.hid h05; have HW5 := Lib.hid hW5; have HH5 := Lib.hid hh5; have HB15 := Lib.hid hb15
  have HY5 := Lib.hid hy5; have HZ5 := Lib.hid hz5; have HT5 := Lib.hid ht5
  clear hf hy2 hrr2 run3 own3 hb3 hy3 hb13 run4 tk4 hb4 hb14 hh5 hW5 h05 hb45 hb35 hb25 hb15 hy5 hz5 ht5 hwr hE hK hF ho2 hb2
  have tok1 : True := trivial
  go_wp2_with (first
    | (at_builtin; have _t := tok1; refine wpList_append_run rfl (.const (.slice none 0 0)) (.tmp 35) 22 rfl (.slice none 0 0) (.slice A1 rn rc) (.slice A4 rn c4) w3 rfl rfl RUN3.out ?_; clear tok1)
    | (at_builtin; refine wpList_append_run rfl (.const (.slice none 0 0)) (.tmp 37) 25 rfl (.slice none 0 0) (.slice A2 m c2) (.slice A5 m c5) w4 rfl rfl RUN4.out ?_)
    | (rw [← HW5.out, ← HH5.out]; refine wpList_load_row rfl _ _ rfl h5 rfl _ #[.slice A3 n c3, .int .i64 k] (0, 0) _ H05.out Tryz.underlying24 rfl szPen2 ?_)
    | fail)
  refine HWR.out.mono ?_
  rintro e w6 ⟨A6, c6, L, hL, rfl, hby6, hb6, hnew6⟩
  obtain ⟨h7, hh7⟩ : ∃ h, h = w6.heap.size := ⟨_, rfl⟩
  obtain ⟨W7, hW7⟩ : ∃ W, W = w6.alloc (.cells #[.slice A6 L c6, .int .i64 (K : Int)] 24) := ⟨_, rfl⟩
  have h07 : W7.heap[h7]? = some (.cells #[.slice A6 L c6, .int .i64 (K : Int)] 24 (0, 0)) := by rw [hW7, hh7]; exact heap_alloc_new w6 _
  have hb67 : Below w6.heap.size w6 W7 := by rw [hW7]; exact (Below.refl _ _).alloc (Nat.le_refl _) _
  have hb57 := hb6.trans (hb67.mono hb6.size)
  have hb17 := HB15.out.trans (hb57.mono HB15.out.size)
  have hx7 := (hby6.below hb67 (Nat.le_refl _)).more hb67.size
  have hw7 := (WrB.of hnew6 hby6.1).below hb67 (Nat.le_refl _)
  have h17 := (hb17.block h (Array.getElem?_eq_some_iff.1 H0.out).1).trans H0.out
  have hrw := rwrite11_any W7 A n c f k kind A1 rn rc r A2 m c2 l last (((HR1.out.below hb17 (Nat.le_refl _)).more hb17.size).1) HR1.out.2.1 hkd ((HRR1.out.below hb17 (Nat.le_refl _)).more hb17.size).1 (by omega) HML.out ((HRT1.out.below hb17 (Nat.le_refl _)).more hb17.size).2.1 (by omega) (fun t ht => (HIN.out t ht).1)
  rw [← HE.out, ← HK.out, ← HF.out] at hrw
  have HRW := Lib.hid hrw; have H07 := Lib.hid h07; have HW7 := Lib.hid hW7; have HH7 := Lib.hid hh7; have HB57 := Lib.hid hb57; have HX7 := Lib.hid hx7; have HWB7 := Lib.hid hw7; have H17 := Lib.hid h17; have HL := Lib.hid hL
  clear hrw h07 hW7 hh7 hb57 hb67 hb17 hx7 hw7 h17 hL hby6 hb6 hnew6 HWR RUN3 RUN4
  go_wp2_with (first
    | (rw [← HW7.out, ← HH7.out]; refine wpList_load_row rfl _ _ rfl h rfl _ #[.slice A n c, .int .i64 k] (0, 0) _ H17.out Tryz.underlying24 rfl szPen2 ?_)
    | fail)
  refine HRW.out.mono ?_
  rintro e w8 ⟨A8, c8, L8, hL8, rfl, hr8, hA8, hb8⟩
  obtain rfl : L8 = L := hL8.trans HL.out.symm
  obtain ⟨h9, hh9⟩ : ∃ h, h = w8.heap.size := ⟨_, rfl⟩
  obtain ⟨W9, hW9⟩ : ∃ W, W = w8.alloc (.cells #[.slice A8 L8 c8, .int .i64 (K : Int)] 24) := ⟨_, rfl⟩
  have h09 : W9.heap[h9]? = some (.cells #[.slice A8 L8 c8, .int .i64 (K : Int)] 24 (0, 0)) := by rw [hW9, hh9]; exact heap_alloc_new w8 _
  have hb89 : Below w8.heap.size w8 W9 := by rw [hW9]; exact (Below.refl _ _).alloc (Nat.le_refl _) _
  have hb79 := hb8.trans (hb89.mono hb8.size)
  have h79 := (hb79.block h7 (Array.getElem?_eq_some_iff.1 H07.out).1).trans H07.out
  have hsm := psame_yes W9 A6 A8 L8 L8 c6 c8 F F (K : Int) ((HX7.out.below hb79 (Nat.le_refl _)).more hb79.size).1 ((hr8.below hb89 (Nat.le_refl _)).more hb89.size) rfl
  have hwb9 := HWB7.out.below hb79 (Nat.le_refl _)
  have hb59 := HB57.out.trans (hb79.mono HB57.out.size)
  have hEE : (E != E) = false := by simp
  have HSM := Lib.hid hsm; have H09 := Lib.hid h09; have H79 := Lib.hid h79; have HW9 := Lib.hid hW9; have HH9 := Lib.hid hh9; have HWB9 := Lib.hid hwb9; have HB59 := Lib.hid hb59
  clear hsm h09 h79 hW9 hh9 hb89 hb79 hwb9 hb59 hr8 hA8 hb8 hL8 HRW
  go_wp2_with (first
    | (rw [← HW9.out, ← HH9.out]; refine wpList_load_row rfl _ _ rfl h7 rfl _ #[.slice A6 L8 c6, .int .i64 (K : Int)] (0, 0) _ H79.out Tryz.underlying24 rfl szPen2 ?_)
    | (refine wpList_load_row rfl _ _ rfl h9 rfl _ #[.slice A8 L8 c8, .int .i64 (K : Int)] (0, 0) _ H09.out Tryz.underlying24 rfl szPen2 ?_)
    | fail)
  refine HSM.out.mono ?_
  rintro e w10 ⟨rfl, hb10⟩
  have HB5A := Lib.hid (HB59.out.trans (hb10.mono HB59.out.size)); have HWBA := Lib.hid (HWB9.out.below hb10 (Nat.le_refl _)); have H7A := Lib.hid ((hb10.block h7 (Array.getElem?_eq_some_iff.1 H79.out).1).trans H79.out)
  have hL8b : L8 ≤ 9223372036854775807 := by have h1 := HX7.out.2.2.1; have h2 := HX7.out.2.2.2; unfold maxLen at h2; omega
  clear hb10 HSM HWB9 HB59 H79 H09 HW9 HH9 HWB7 HB57
  go_wp2
  clear hEE
  go_loopw [18] (fun jv wr => ∃ j : Nat, j ≤ L8 ∧ jv = .int .i64 (j : Int) ∧ Hid (Below W5.heap.size W5 wr) ∧ Hid (WrB wr W5.heap.size A6 L8) ∧ Hid (wr.heap[h7]? = some (.cells #[.slice A6 L8 c6, .int .i64 (K : Int)] 24 (0, 0)))) (fun jv _ => L8 - (intOf jv).toNat)
  case atStart => exact ⟨0, Nat.zero_le _, rfl, HB5A, HWBA, H7A⟩
  case round =>
    obtain ⟨j, hj, rfl, HB, HW, HP⟩ := hrel
    have kp : wr.cell? ⟨h7, 0, none⟩ = some (.slice A6 L8 c6) := (cell_of_row wr h7 0 _ _ (0, 0) HP.out).trans rfl
    by_cases hlt : j < L8
    · have hltj : (j : Int) < (L8 : Int) := by omega
      obtain ⟨g, o, cur, F', rfl, hg, hh, hF, hcu⟩ := HW.out (by omega)
      have c1 : wr.cell? ⟨g, o + j, none⟩ = some (.int .u8 (F' j : Int)) := by rw [cell_of_row wr g _ _ _ (0, 0) hh]; exact hcu j hlt
      have f1 : wr.frozen? ⟨g, o + j, none⟩ = false := frozen_of_row wr g _ _ _ hh
      have hg7 : h7 ≠ g := fun e => by
        have hp := HP.out
        rw [e, hh] at hp
        injection hp with hp
        injection hp with _ ht
        exact absurd ht (by decide)
      have hFj := hF j
      obtain ⟨u, hu⟩ : ∃ u, u = F' j := ⟨_, rfl⟩
      rw [← hu] at c1 hFj
      obtain ⟨x, hx⟩ : ∃ x, x = (u + 1) % 256 := ⟨_, rfl⟩
      have hw8 : IntKind.u8.wrap ((u : Int) + 1) = (x : Int) := by rw [IntKind.wrap_u8]; omega
      have hset : WrB (wr.drew.setCell ⟨g, o + j, none⟩ (.int .u8 (x : Int))) W5.heap.size (some ⟨g, o, none⟩) L8 := WrB.set (w := wr.drew) HW.out hlt x (by omega)
      have hb1 : Below W5.heap.size W5 (wr.drew.setCell ⟨g, o + j, none⟩ (.int .u8 (x : Int))) := HB.out.drew.setCell (p := ⟨g, o + j, none⟩) hg (.int .u8 (x : Int))
      have hp1 : (wr.drew.setCell ⟨g, o + j, none⟩ (.int .u8 (x : Int))).heap[h7]? = some (.cells #[.slice (some ⟨g, o, none⟩) L8 c6, .int .i64 (K : Int)] 24 (0, 0)) := (Below.heap_setCell wr.drew ⟨g, o + j, none⟩ _ h7 hg7).trans HP.out
      have kd : wr.drew.cell? ⟨h7, 0, none⟩ = some (.slice (some ⟨g, o, none⟩) L8 c6) := kp
      have cd : wr.drew.cell? ⟨g, o + j, none⟩ = some (.int .u8 (u : Int)) := c1
      have fd : wr.drew.frozen? ⟨g, o + j, none⟩ = false := f1
      have HS1 := Lib.hid hset; have HBS := Lib.hid hb1; have HP1 := Lib.hid hp1
      clear hset hb1 hp1 hu hx hh hcu hF hg7
      go_wp2
      go_region
      all_goals (
        go_wp2
        go_roundw
        case rel => exact ⟨j + 1, by omega, by go_num, HBS, HS1, HP1⟩
        case measure => simp [intOf]; omega)
    · obtain rfl : j = L8 := by omega
      have hltj : ¬ (j : Int) < (j : Int) := by omega
      have hb1w := HB15.out.trans (HB.out.mono HB15.out.size)
      have h0w := (hb1w.block h (Array.getElem?_eq_some_iff.1 H0.out).1).trans H0.out
      have h5w := (HB.out.block h5 (Array.getElem?_eq_some_iff.1 H05.out).1).trans H05.out
      have hsm := psame_yes wr A3 A n n c3 c f f k ((HY5.out.below HB.out (Nat.le_refl _)).more HB.out.size).1 ((HR1.out.below hb1w (Nat.le_refl _)).more hb1w.size).1 rfl
      have HSM := Lib.hid hsm; have H0W := Lib.hid h0w; have H5W := Lib.hid h5w; have HB1W := Lib.hid hb1w
      clear hsm h0w h5w hb1w hlt
      go_wp2_with (first
        | (refine wpList_load_row rfl _ _ rfl h5 rfl _ #[.slice A3 n c3, .int .i64 k] (0, 0) _ H5W.out Tryz.underlying24 rfl szPen2 ?_)
        | (refine wpList_load_row rfl _ _ rfl h rfl _ #[.slice A n c, .int .i64 k] (0, 0) _ H0W.out Tryz.underlying24 rfl szPen2 ?_)
        | fail)
      refine HSM.out.mono ?_
      rintro e w11 ⟨rfl, hb11⟩
      have hb5x := HB.out.trans (hb11.mono HB.out.size)
      have hb1x := HB1W.out.trans (hb11.mono HB1W.out.size)
      have s1 := run_str ((HZ5.out.below hb5x (Nat.le_refl _)).more hb5x.size).1 c4
      have s2 := run_str ((HRR1.out.below hb1x (Nat.le_refl _)).more hb1x.size).1 rc
      have hs8 := rsame8_any w11 w11.heap.size A5 A2 c5 c2 l ((HT5.out.below hb5x (Nat.le_refl _)).more hb5x.size).2.1 ((HRT1.out.below hb1x (Nat.le_refl _)).more hb1x.size).2.1 (by rw [← HML.out]; omega)
      rw [← HML.out] at hs8
      obtain ⟨Z, hZ⟩ : ∃ Z, Z = strB rn r := ⟨_, rfl⟩
      rw [← hZ] at s1 s2
      have z1 : (Z.toList == Z.toList) = true := by simp
      have HS8 := Lib.hid hs8; have HBX := Lib.hid (HB1.out.trans (hb1x.mono HB1.out.size))
      clear hs8 hb5x hb1x hb11 hZ HSM
      go_wp2_with fail
      refine HS8.out.mono ?_
      rintro e w12 ⟨rfl, q, rfl⟩
      go_wp2
      go_ret
      exact ⟨rfl, below_draws HBX.out _⟩
end Go.Proofs.YtjhljkhgjcckhaaGreat

namespace Go.Proofs.YtjhljkhgjcckhaaGreat
open Go.RowKit
set_option maxRecDepth 100000 in
set_option maxHeartbeats 1000000 in
theorem growu_any (w : World) (n : Nat) (hn : n ≤ 1000000000000) :
    Calls Tryz.prog 54 #[.slice none 0 0, .int .i64 (n : Int)] w fun e w' => ∃ A c, e = .returned (.slice A 0 c) ∧ w'.ownsRow w.heap.size 5 1 (.slice A 0 c) 0 [] ∧ Below w.heap.size w w' := by
  rcases Nat.eq_zero_or_pos n with h0 | h0
  · subst h0
    go_enter Tryz.func54, Tryz.ntmps54
    go_wp2
    go_ret
    exact ⟨none, 0, rfl, World.ownsRow_nil _ _ _ _, Below.refl _ _⟩
  · obtain ⟨i0, hi, hz0, hz1, hz2⟩ := info_parts infoU8
    have hrun := Lib.run_append_nil_zeros (P := Tryz.prog) w 22 3 22 5 i0 (.int .u8 0) .i64 .i64 Tryz.underlying22 Tryz.underlying3 hi hz0 n h0 (by omega) (by omega) (by rw [hz2]; omega)
    have hge := grownCap_ge w n 0 5
    have hle := grownCap_le_maxLen w n 0 5 (by unfold maxLen; omega)
    obtain ⟨c, hc⟩ : ∃ c, c = grownCap w n 0 5 := ⟨_, rfl⟩
    rw [← hc] at hrun hge hle
    obtain ⟨Z, hZ⟩ : ∃ Z, Z = (Builtin.zeroCells (Value.int .u8 0).cells n ++ Builtin.zeroCells (Value.int .u8 0).cells (c - n)) := ⟨_, rfl⟩
    rw [← hZ] at hrun
    have hZs : Z.size = c * 1 := by rw [hZ]; simp [size_zeroCells, Value.cells]; omega
    have hown := World.ownsRow_made (base := w.heap.size) (e := 5) (size := 1) w.drew Z c (Nat.le_refl _) hle hZs
    have hbl : Below w.heap.size w (w.drew.alloc (.cells Z 5)) := (Below.refl w.heap.size w).drew.alloc (Nat.le_refl _) _
    obtain ⟨w1, hw1⟩ : ∃ w1, w1 = w.drew.alloc (.cells Z 5) := ⟨_, rfl⟩
    rw [← hw1] at hrun hown hbl
    have HR := Lib.hid hrun; have HO := Lib.hid hown; have HB := Lib.hid hbl
    unfold maxLen at hle
    clear hrun hown hbl hZ hZs hw1 hc hi hz0 hz1 hz2
    have hp : (0 : Int) < (n : Int) := by omega
    go_enter Tryz.func54, Tryz.ntmps54
    go_wp2_with (at_builtin; refine Lib.wpList_append_run _ rfl _ _ _ _ rfl _ _ rfl rfl _ _ HR.out ?_)
    go_ret
    exact ⟨_, _, rfl, HO.out, HB.out⟩
set_option maxRecDepth 100000 in
set_option maxHeartbeats 4000000 in
theorem concatu_any (w : World) (A : Option Addr) (k c : Nat) (n : Nat → Nat) (f : Nat → Nat → Nat) (hf : ∀ i j, f i j < 256) (hr : RowsB w w.heap.size A k n f) (hk : k ≤ 1000000) (hs : sumU n k ≤ 1000000000) :
    Calls Tryz.prog 34 #[.slice A k c] w fun e w' => ∃ A' c', e = .returned (.slice A' (sumU n k) c') ∧ w'.ownsRow w.heap.size 5 1 (.slice A' (sumU n k) c') (sumU n k) (bytesL (sumU n k) (catU n f k)) ∧ Below w.heap.size w w' := by
  have HR := Lib.hid hr; have HF := Lib.hid hf; have HS := Lib.hid hs
  obtain ⟨N, hN⟩ : ∃ N, N = sumU n k := ⟨_, rfl⟩
  rw [← hN] at hs ⊢
  have HN := Lib.hid hN
  clear hr hf hN
  go_enter Tryz.func34, Tryz.ntmps34
  go_wp2_with fail
  go_loopw [3, 11] (fun s i wr => ∃ j q : Nat, j ≤ k ∧ i = .int .i64 (j : Int) ∧ s = .int .i64 (q : Int) ∧ Hid (q = sumU n j) ∧ w = wr) (fun _ i _ => k - (intOf i).toNat)
  case atStart => exact ⟨0, 0, Nat.zero_le _, rfl, rfl, Lib.hid rfl, rfl⟩
  case round =>
    obtain ⟨j, q, hj, rfl, rfl, HQ, rfl⟩ := hrel
    by_cases hlt : j < k
    · have hlti : (j : Int) < (k : Int) := by omega
      obtain ⟨b, o, rfl, hb, hcc⟩ := HR.out (by omega)
      obtain ⟨Ai, ci, c1, _, _⟩ := hcc j hlt
      have hq1 : sumU n (j + 1) = q + n j := by rw [HQ.out]; rfl
      have hq2 := sumU_mono n (show j + 1 ≤ k by omega)
      have hq3 := HS.out
      obtain ⟨m, hm⟩ : ∃ m, m = n j := ⟨_, rfl⟩
      rw [← hm] at c1 hq1
      have hqm : q + m ≤ 1000000000 := by omega
      have hnn : ¬ ((q : Int) + (m : Int) < 0) := by omega
      have HQ1 := Lib.hid hq1
      clear hcc hq1 hq2 hq3 hm
      go_wp2
      go_roundw
      case rel => exact ⟨j + 1, q + m, by omega, by go_num, by go_num, Lib.hid HQ1.out.symm, trivial⟩
      case measure => simp [intOf]; omega
    · obtain rfl : j = k := by omega
      have hlti : ¬ (j : Int) < (j : Int) := by omega
      have hqN : q = N := by rw [HQ.out, HN.out]
      subst hqN
      go_wp2_with fail
      refine (growu_any _ q (by omega)).mono ?_
      rintro e w1 ⟨A1, c1, rfl, ho1, hb1⟩
      have HO1 := Lib.hid ho1; have HB1 := Lib.hid hb1
      clear ho1 hb1
      go_wp2_with fail
      go_loopw [6, 27] (fun s i wr => ∃ (t p : Nat) (At : Option Addr) (ct : Nat), t ≤ j ∧ i = .int .i64 (t : Int) ∧ s = .slice At p ct ∧ Hid (p = sumU n t) ∧ Hid (wr.ownsRow w.heap.size 5 1 (.slice At p ct) p (bytesL p (catU n f t))) ∧ Hid (Below w.heap.size w wr)) (fun _ i _ => j - (intOf i).toNat)
      case atStart => exact ⟨0, 0, A1, c1, Nat.zero_le _, rfl, rfl, Lib.hid rfl, HO1, HB1⟩
      case round =>
        obtain ⟨t, p, At, ct, ht, rfl, rfl, HP, HO, HB⟩ := hrel
        by_cases hlt2 : t < j
        · have hlti2 : (t : Int) < (j : Int) := by omega
          obtain ⟨b, o, rfl, hb, hcc⟩ := (HR.out.below HB.out (Nat.le_refl _)) (by omega)
          obtain ⟨Ai, ci, k1, k2, k3⟩ := hcc t hlt2
          have hq1 : sumU n (t + 1) = p + n t := by rw [HP.out]; rfl
          have hq2 := sumU_mono n (show t + 1 ≤ j by omega)
          have hq3 := HS.out
          obtain ⟨A', c', w', r1, r2, r3⟩ := run_more wr w.heap.size _ (.slice At p ct) p _ HO.out Ai (n t) ci (f t) k2 (by omega) 22 k3 HB.out.size
          obtain ⟨m, hm⟩ : ∃ m, m = n t := ⟨_, rfl⟩
          rw [← hm] at k1 r1 r2 hq1
          have e1 : cat (catU n f t) p (f t) = catU n f (t + 1) := by funext x; rw [HP.out]; rfl
          rw [e1] at r2
          have HQ1 := Lib.hid hq1; have R1 := Lib.hid r1; have R2 := Lib.hid r2; have R3 := Lib.hid (HB.out.trans r3)
          clear hcc hq1 hq2 hq3 r1 r2 r3 k2 k3 hm e1
          go_wp2_with (at_builtin; refine wpList_append_run rfl (.tmp 31) (.tmp 32) 22 rfl (.slice At p ct) (.slice Ai m ci) (.slice A' (p + m) c') w' rfl rfl R1.out ?_)
          go_roundw
          case rel => exact ⟨t + 1, p + m, A', c', by omega, by go_num, rfl, Lib.hid HQ1.out.symm, R2, R3⟩
          case measure => simp [intOf]; omega
        · obtain rfl : t = j := by omega
          have hlti2 : ¬ (t : Int) < (t : Int) := by omega
          have hpq : p = q := by rw [HP.out, HN.out]
          subst hpq
          go_wp2
          go_ret
          exact ⟨At, ct, rfl, HO.out, HB.out⟩
end Go.Proofs.YtjhljkhgjcckhaaGreat

namespace Go.Proofs.YtjhljkhgjcckhaaGreat
theorem bits_rep (j : Nat) : bitsT (List.replicate j ((0, 1) : Nat × Nat)) = j := by
  induction j with
  | zero => rfl
  | succ j ih => rw [List.replicate_succ]; simp only [bitsT]; rw [ih]; omega
theorem bits_map8 (f : Nat → Nat) : ∀ n, bitsT ((List.range n).map fun i => (f i, 8)) = 8 * n
  | 0 => rfl
  | n + 1 => by
    rw [List.range_succ, List.map_append, bitsT_app, bits_map8 f n]
    simp only [List.map_cons, List.map_nil, bitsT]
    omega
/-- A stored block is 3 bits, what is missing to a whole byte, 32 bits, and the bytes. -/
theorem sto_bits (a n : Nat) (r : Nat → Nat) (l : List Tok) (last : Bool) : bitsT (blkP a 0 n r l last) = 3 + padN a + 32 + 8 * n := by
  unfold blkP
  rw [if_neg (show ¬ (0 : Nat) = 1 by omega), if_neg (show ¬ (0 : Nat) = 2 by omega)]
  unfold stoP
  rw [bitsT_app, bitsT_app, bitsT_app, bits_rep, bits_map8]
  have e3 : ∀ b : Nat, bitsT [(b, 1), (0, 2)] = 3 := fun _ => rfl
  have e4 : ∀ x y : Nat, bitsT [(x, 16), (y, 16)] = 32 := fun _ _ => rfl
  rw [e3, e4]; omega
end Go.Proofs.YtjhljkhgjcckhaaGreat

namespace Go.Proofs.YtjhljkhgjcckhaaGreat
/-- A number that has no more bits than are told. -/
def FitN (x : Nat × Nat) : Prop := x.1 < 2 ^ x.2 ∧ x.2 ≤ 16
def val3 (F : Nat → Nat) (L : Nat) : Nat := F L + 256 * F (L + 1) + 65536 * F (L + 2)
theorem putF_low (f : Nat → Nat) (k v : Nat) : ∀ n j, j < k / 8 → putF f k v n j = f j
  | 0, _, _ => rfl
  | n + 1, j, h => by
    simp only [putF]; unfold stepF upd
    rw [if_neg (by omega)]
    exact putF_low f k v n j h
theorem val3_step (G : Nat → Nat) (k n b : Nat) (hn : n ≤ 15) : val3 (stepF G (k + n) b) (k / 8) = val3 G (k / 8) + b * 2 ^ (k % 8 + n) := by
  obtain ⟨p, hp⟩ : ∃ p, p = 2 ^ ((k + n) % 8) := ⟨_, rfl⟩
  have hd : (k + n) / 8 = k / 8 ∨ (k + n) / 8 = k / 8 + 1 ∨ (k + n) / 8 = k / 8 + 2 := by omega
  rcases hd with hd | hd | hd
  · have e : 2 ^ (k % 8 + n) = p := by rw [hp, show (k + n) % 8 = k % 8 + n by omega]
    rw [e]
    unfold val3 stepF upd
    rw [hd, ← hp, if_pos rfl, if_neg (by omega), if_neg (by omega)]
    omega
  · have e : 2 ^ (k % 8 + n) = 256 * p := by rw [hp, show k % 8 + n = 8 + (k + n) % 8 by omega, Nat.pow_add]
    rw [e, Nat.mul_left_comm]
    unfold val3 stepF upd
    rw [hd, ← hp, if_neg (by omega), if_pos rfl, if_neg (by omega)]
    omega
  · have e : 2 ^ (k % 8 + n) = 65536 * p := by rw [hp, show k % 8 + n = 16 + (k + n) % 8 by omega, Nat.pow_add]
    rw [e, Nat.mul_left_comm]
    unfold val3 stepF upd
    rw [hd, ← hp, if_neg (by omega), if_neg (by omega), if_pos rfl]
    omega
theorem putF_val {f : Nat → Nat} {k : Nat} (hc : Clean f k) (v : Nat) : ∀ n, n ≤ 16 → val3 (putF f k v n) (k / 8) = f (k / 8) + (v % 2 ^ n) * 2 ^ (k % 8)
  | 0, _ => by
    unfold val3
    simp only [putF]
    rw [hc.2.1 (k / 8 + 1) (by omega), hc.2.1 (k / 8 + 2) (by omega), Nat.pow_zero, Nat.mod_one]; omega
  | n + 1, h => by
    have ih := putF_val hc v n (by omega)
    simp only [putF]
    rw [val3_step _ _ _ _ (by omega), ih, Nat.mod_pow_succ, Nat.add_mul, Nat.add_assoc, Nat.mul_comm (2 ^ n), Nat.mul_assoc, ← Nat.pow_add, Nat.add_comm n]
theorem val3_next {F : Nat → Nat} (hF : ∀ j, F j < 256) (L : Nat) (h : F (L + 3) = 0) : val3 F L % 256 = F L ∧ val3 F L / 256 = val3 F (L + 1) := by
  have h0 := hF L
  have h1 := hF (L + 1)
  have h2 := hF (L + 2)
  unfold val3
  rw [show L + 1 + 1 = L + 2 by omega, show L + 1 + 2 = L + 3 by omega, h]
  omega
theorem clean_off {F : Nat → Nat} {K : Nat} (h : Clean F K) (j : Nat) (hj : K < 8 * j) : F j = 0 := h.2.1 j (by omega)
theorem val3_end {F : Nat → Nat} {K : Nat} (h : Clean F K) : val3 F (K / 8) = F (K / 8) := by
  unfold val3
  rw [h.2.1 (K / 8 + 1) (by omega), h.2.1 (K / 8 + 2) (by omega)]; omega
theorem val3_lt {F : Nat → Nat} (hF : ∀ j, F j < 256) (L : Nat) : val3 F L < 16777216 := by
  have h0 := hF L
  have h1 := hF (L + 1)
  have h2 := hF (L + 2)
  unfold val3; omega
theorem stepF_zero (f : Nat → Nat) (k : Nat) : stepF f k 0 = f := by
  funext j; unfold stepF upd
  by_cases h : j = k / 8
  · rw [if_pos h, h]; omega
  · rw [if_neg h]
theorem putF_zero (f : Nat → Nat) (k : Nat) : ∀ n, putF f k 0 n = f
  | 0 => rfl
  | n + 1 => by
    simp only [putF]
    rw [putF_zero f k n, Nat.zero_div, Nat.zero_mod, stepF_zero]
theorem putsF_noughts (f : Nat → Nat) : ∀ n k, putsF f k (List.replicate n (0, 1)) = f
  | 0, _ => rfl
  | n + 1, k => by
    rw [List.replicate_succ]
    simp only [putsF]
    rw [putF_zero, putsF_noughts f n]
/-- Noughts in one number, or one by one. -/
theorem puts_pad (f : Nat → Nat) (k p : Nat) (P : List (Nat × Nat)) : putsF f k ((0, p) :: P) = putsF f k (List.replicate p (0, 1) ++ P) ∧ bitsT ((0, p) :: P) = bitsT (List.replicate p (0, 1) ++ P) := by
  constructor
  · rw [putsF_app, putsF_noughts, bits_rep]
    simp only [putsF]
    rw [putF_zero]
  · rw [bitsT_app, bits_rep]; rfl
/-- A byte put behind whole bytes. -/
theorem putF_byte {f : Nat → Nat} {k : Nat} (hc : Clean f k) (h8 : k % 8 = 0) (v : Nat) (hv : v < 256) : putF f k v 8 = upd f (k / 8) v := by
  have hcl := hc.put v 8
  have h1 := putF_val hc v 8 (by omega)
  have hz : f (k / 8) = 0 := by have := hc.2.2; rw [h8] at this; have e : (2 : Nat) ^ 0 = 1 := rfl; omega
  have e1 : (2 : Nat) ^ 0 = 1 := rfl
  have e2 : (2 : Nat) ^ 8 = 256 := rfl
  rw [h8, hz, e1, e2, Nat.mod_eq_of_lt hv] at h1
  have z1 := clean_off hcl (k / 8 + 2) (by omega)
  have z2 := hcl.2.2
  rw [show (k + 8) / 8 = k / 8 + 1 by omega, show (k + 8) % 8 = 0 by omega, e1] at z2
  unfold val3 at h1
  funext j
  unfold upd
  by_cases h : j = k / 8
  · rw [if_pos h, h]; omega
  · rw [if_neg h]
    rcases Nat.lt_or_ge j (k / 8) with g | g
    · exact putF_low f k v 8 j g
    · rw [hc.2.1 j (by omega)]
      rcases Nat.lt_or_ge (k / 8 + 1) j with g2 | g2
      · exact clean_off hcl j (by omega)
      · obtain rfl : j = k / 8 + 1 := by omega
        omega
/-- Bytes put behind whole bytes. -/
def rawF (f : Nat → Nat) (L n : Nat) (r : Nat → Nat) (j : Nat) : Nat := if j < L then f j else if j < L + n then r (j - L) else 0
theorem puts_raw {f : Nat → Nat} {k : Nat} (hc : Clean f k) (h8 : k % 8 = 0) (r : Nat → Nat) (hr : ∀ j, r j < 256) : ∀ n, putsF f k ((List.range n).map fun i => (r i, 8)) = rawF f (k / 8) n r
  | 0 => by
    funext j
    simp only [List.range_zero, List.map_nil, putsF]
    unfold rawF
    by_cases h : j < k / 8
    · rw [if_pos h]
    · rw [if_neg h, if_neg (by omega)]
      rcases Nat.lt_or_ge (k / 8) j with g | g
      · exact hc.2.1 j g
      · have := hc.2.2
        rw [h8] at this
        have e : (2 : Nat) ^ 0 = 1 := rfl
        rw [show j = k / 8 by omega]; omega
  | n + 1 => by
    have ih := puts_raw hc h8 r hr n
    have hcl := hc.puts ((List.range n).map fun i => (r i, 8))
    rw [bits_map8, ih] at hcl
    rw [List.range_succ, List.map_append, putsF_app, bits_map8, ih]
    simp only [List.map_cons, List.map_nil, putsF]
    rw [putF_byte hcl (by omega) _ (hr n), show (k + 8 * n) / 8 = k / 8 + n by omega]
    funext j
    unfold upd rawF
    by_cases h : j = k / 8 + n
    · rw [if_pos h, if_neg (by omega), if_pos (by omega), show j - k / 8 = n by omega]
    · rw [if_neg h]
      by_cases h1 : j < k / 8
      · rw [if_pos h1, if_pos h1]
      · rw [if_neg h1, if_neg h1]
        by_cases h2 : j < k / 8 + n
        · rw [if_pos h2, if_pos (by omega)]
        · rw [if_neg h2, if_neg (by omega)]
/-! ### a block's numbers fit -/
theorem fit_mk {v b : Nat} (hv : v < 2 ^ b) (hb : b ≤ 16) : FitN (v, b) := ⟨hv, hb⟩
theorem ext_fit {t : Tok} (hm : mayT t = true) (hx : t.x < 256) (h0 : t.n ≠ 0) : FitN ((lgX t.n).toNat, (lgB t.n).toNat) ∧ FitN ((frX t.d).toNat, (frB t.d).toNat) := by
  obtain ⟨hE1, hE2, _⟩ := (sym_lt hm hx).2.2 h0
  obtain ⟨_, _, _, _, p1, p2, p3, p4⟩ := long_there hE1
  obtain ⟨_, _, _, _, q1, q2, q3, q4⟩ := far_there hE2
  exact ⟨fit_mk (by omega) (by omega), fit_mk (by omega) (by omega)⟩
theorem runX_fit {l : List Tok} (hl : l.length ≤ 1000000) {r : Int × Int} (hr : r ∈ runD l) : FitN (r.2.toNat, (bitV r.1).toNat) := by
  obtain ⟨s0, s18, x0, x128, hx⟩ := (run_ok l hl).1 r hr
  have hb := bitsR_le' r.1
  have e2 : bitV r.1 = (bitsR r.1 : Nat) := by unfold bitV; rw [if_pos (by omega)]
  rw [e2, Int.toNat_natCast]
  exact fit_mk (by omega) (by omega)
end Go.Proofs.YtjhljkhgjcckhaaGreat

namespace Go.Proofs.YtjhljkhgjcckhaaGreat
open Go.RowKit Go.ChangeShapes Go.WideShapes Go.ChangeAt Go.Joins
def tokE (t : Tok) : Int := if mayT t = true then 0 else 8
end Go.Proofs.YtjhljkhgjcckhaaGreat

