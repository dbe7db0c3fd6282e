/-
  Layer 11 (block), the document's own: tokens by the codes of lengths.
-/
import Derived.StillTail
import Derived.Deep.Quiet
import Derived.Laws.Tables
import Derived.Great.BuildSlice
import Derived.Deep.MidRow
import Derived.Deep.SlicePairs
import Derived.Lib.SmallJoins
import Derived.BigQuiet
import Derived.OneCell
import Derived.Test.YtjhljkhgjcckhaaGreatMhaa
import Derived.Test.YtjhljkhgjcckhaaGreatMhab
import Derived.Test.YtjhljkhgjcckhaaGreatMhac
import Derived.Test.YtjhljkhgjcckhaaGreatMhad
namespace Go.Proofs.YtjhljkhgjcckhaaGreat
open Go.RowKit
theorem make_lit (n : Nat) (h : n ≤ 1000) (z : Int) (hz : z = (n : Int)) : ∀ u : World, (Instr.makeSlice 22 (.int .i64 z) (.int .i64 z)).run Tryz.prog u =
    .ok (.slice (some ⟨u.heap.size, 0, none⟩) n n) (u.alloc (.cells (madeCells #[.int .u8 0] n) 5)) := by subst hz; exact make_u8 n h
set_option maxRecDepth 100000 in
set_option maxHeartbeats 2000000 in
theorem rfars11_any (w : World) : Calls Tryz.prog 16 #[] w fun e w' => e = .returned (.slice (some ⟨w.heap.size, 0, none⟩) 32 32) ∧ RowW w' w.heap.size 32 fixB ∧ Below w.heap.size w w' := by
  have hmk := make_lit 32 (by omega) 32 rfl
  have hrow := rowW_made w 32
  have hb : Below w.heap.size w (w.alloc (.cells (madeCells #[.int .u8 0] 32) 5)) := (Below.refl _ _).alloc (Nat.le_refl _) _
  have HR := Lib.hid hrow; have HB := Lib.hid hb
  clear hrow hb
  go_enter Tryz.func16, Tryz.ntmps16
  go_wp2
  go_loopw [2] (fun iv wr => ∃ (i : Nat) (f : Nat → Nat), i ≤ 32 ∧ iv = .int .i64 (i : Int) ∧ Hid (∀ j, j < i → f j = fixB j) ∧ Hid (RowW wr w.heap.size 32 f) ∧ Hid (Below w.heap.size w wr)) (fun iv _ => 32 - (intOf iv).toNat)
  case atStart => exact ⟨0, _, Nat.zero_le _, rfl, Lib.hid (fun j hj => absurd hj (by omega)), HR, HB⟩
  case round =>
    obtain ⟨i, f, hi, rfl, HF, HRR, HBB⟩ := hrel
    by_cases hlt : i < 32
    · have r1 := HRR.out.cell hlt
      have r2 := HRR.out.frozen i
      obtain ⟨x, hx⟩ : ∃ x, x = f i := ⟨_, rfl⟩
      rw [← hx] at r1
      clear hx
      go_wp2
      go_roundw
      case rel =>
        refine ⟨i + 1, upd f i 5, by omega, by go_num, Lib.hid fun j hj => ?_, Lib.hid (HRR.out.set i 5), Lib.hid (HBB.out.setCell (Nat.le_refl _) _)⟩
        unfold upd
        by_cases e : j = i
        · rw [if_pos e]; rfl
        · rw [if_neg e]; exact HF.out j (by omega)
      case measure => simp [intOf]; omega
    · obtain rfl : i = 32 := by omega
      go_wp2
      go_ret
      exact ⟨rfl, HRR.out.ext fun j hj => HF.out j hj, HBB.out⟩
set_option maxRecDepth 100000 in
set_option maxHeartbeats 4000000 in
theorem rlongs11_any (w : World) : Calls Tryz.prog 15 #[] w fun e w' => e = .returned (.slice (some ⟨w.heap.size, 0, none⟩) 288 288) ∧ RowW w' w.heap.size 288 fixA ∧ Below w.heap.size w w' := by
  have hmk := make_lit 288 (by omega) 288 rfl
  have hrow := rowW_made w 288
  have hb : Below w.heap.size w (w.alloc (.cells (madeCells #[.int .u8 0] 288) 5)) := (Below.refl _ _).alloc (Nat.le_refl _) _
  have HR := Lib.hid hrow; have HB := Lib.hid hb
  clear hrow hb
  go_enter Tryz.func15, Tryz.ntmps15
  go_wp2
  go_loopw [2] (fun iv wr => ∃ (i : Nat) (f : Nat → Nat), i ≤ 288 ∧ iv = .int .i64 (i : Int) ∧ Hid (∀ j, j < i → f j = fixA j) ∧ Hid (RowW wr w.heap.size 288 f) ∧ Hid (Below w.heap.size w wr)) (fun iv _ => 288 - (intOf iv).toNat)
  case atStart => exact ⟨0, _, Nat.zero_le _, rfl, Lib.hid (fun j hj => absurd hj (by omega)), HR, HB⟩
  case round =>
    obtain ⟨i, f, hi, rfl, HF, HRR, HBB⟩ := hrel
    by_cases hlt : i < 288
    · have r1 := HRR.out.cell hlt
      have r2 := HRR.out.frozen i
      obtain ⟨x, hx⟩ : ∃ x, x = f i := ⟨_, rfl⟩
      rw [← hx] at r1
      clear hx
      have s1 := HRR.out.set i 8
      have r3 := s1.cell hlt
      have r4 := s1.frozen i
      have e8 : upd f i 8 i = 8 := if_pos rfl
      rw [e8] at r3
      have S1 := Lib.hid s1
      have B1 := Lib.hid (HBB.out.setCell (p := ⟨w.heap.size, i, none⟩) (Nat.le_refl _) (.int .u8 ((8 : Nat) : Int)))
      clear s1 e8
      by_cases h7 : 256 ≤ i ∧ i ≤ 279
      · have d1 : decide ((144 : Int) ≤ (i : Int)) = true := decY (by omega)
        have d2 : decide ((i : Int) ≤ 255) = false := decN (by omega)
        have d3 : decide ((256 : Int) ≤ (i : Int)) = true := decY (by omega)
        have d4 : decide ((i : Int) ≤ 279) = true := decY (by omega)
        have hv : fixA i = 7 := if_pos h7
        have HV := Lib.hid hv
        clear hv
        go_wp2
        go_roundw
        case rel =>
          refine ⟨i + 1, upd (upd f i 8) i 7, by omega, by go_num, Lib.hid fun j hj => ?_, Lib.hid (S1.out.set i 7), Lib.hid (B1.out.setCell (Nat.le_refl _) _)⟩
          unfold upd
          by_cases e : j = i
          · rw [if_pos e, e]; exact HV.out.symm
          · rw [if_neg e, if_neg e]; exact HF.out j (by omega)
        case measure => simp [intOf]; omega
      · by_cases h9 : 144 ≤ i ∧ i ≤ 255
        · have d1 : decide ((144 : Int) ≤ (i : Int)) = true := decY (by omega)
          have d2 : decide ((i : Int) ≤ 255) = true := decY (by omega)
          have d3 : decide ((256 : Int) ≤ (i : Int)) = false := decN (by omega)
          have hv : fixA i = 9 := by unfold fixA; rw [if_neg h7, if_pos h9]
          have HV := Lib.hid hv
          clear hv
          go_wp2
          go_roundw
          case rel =>
            refine ⟨i + 1, upd (upd f i 8) i 9, by omega, by go_num, Lib.hid fun j hj => ?_, Lib.hid (S1.out.set i 9), Lib.hid (B1.out.setCell (Nat.le_refl _) _)⟩
            unfold upd
            by_cases e : j = i
            · rw [if_pos e, e]; exact HV.out.symm
            · rw [if_neg e, if_neg e]; exact HF.out j (by omega)
          case measure => simp [intOf]; omega
        · have hv : fixA i = 8 := by unfold fixA; rw [if_neg h7, if_neg h9]
          have HV := Lib.hid hv
          clear hv
          have hrel : ∃ (i2 : Nat) (f2 : Nat → Nat), i2 ≤ 288 ∧ Value.int .i64 ((i : Int) + 1) = .int .i64 (i2 : Int) ∧ Hid (∀ j, j < i2 → f2 j = fixA j) ∧ Hid (RowW (wr.setCell ⟨w.heap.size, i, none⟩ (.int .u8 ((8 : Nat) : Int))) w.heap.size 288 f2) ∧ Hid (Below w.heap.size w (wr.setCell ⟨w.heap.size, i, none⟩ (.int .u8 ((8 : Nat) : Int)))) := by
            refine ⟨i + 1, upd f i 8, by omega, by go_num, Lib.hid fun j hj => ?_, S1, B1⟩
            unfold upd
            by_cases e : j = i
            · rw [if_pos e, e]; exact HV.out.symm
            · rw [if_neg e]; exact HF.out j (by omega)
          have HREL := Lib.hid hrel
          clear hrel HF HRR HBB S1 B1 HV
          by_cases h4 : i < 144
          · have d1 : decide ((144 : Int) ≤ (i : Int)) = false := decN (by omega)
            have d3 : decide ((256 : Int) ≤ (i : Int)) = false := decN (by omega)
            go_wp2
            go_roundw
            case rel => exact HREL.out
            case measure => simp [intOf]; omega
          · have d1 : decide ((144 : Int) ≤ (i : Int)) = true := decY (by omega)
            have d2 : decide ((i : Int) ≤ 255) = false := decN (by omega)
            have d3 : decide ((256 : Int) ≤ (i : Int)) = true := decY (by omega)
            have d4 : decide ((i : Int) ≤ 279) = false := decN (by omega)
            go_wp2
            go_roundw
            case rel => exact HREL.out
            case measure => simp [intOf]; omega
    · obtain rfl : i = 288 := by omega
      go_wp2
      go_ret
      exact ⟨rfl, HRR.out.ext fun j hj => HF.out j hj, HBB.out⟩
theorem infoOrd : (Tryz.prog.info? 46).map (fun i => (i.zero, i.size)) = some (some (.agg (tblA (fun _ => 0) 19)), 19) := by kernel_rfl
theorem szO19 (T : Nat → Int) : (Tryz.prog.info? 46).map (·.size) = some (tblA T 19).size := by rw [tblA_size]; kernel_rfl
theorem flatOrd : (([16, 17, 18, 0, 8, 7, 9, 6, 10, 5, 11, 4, 12, 3, 13, 2, 14, 1, 15] : List Int).map (Value.int .i64)).toArray = tblA (fun i => (ordN i : Int)) 19 := by kernel_rfl
set_option maxRecDepth 100000 in
set_option maxHeartbeats 2000000 in
theorem rorder11_any (w : World) : Calls Tryz.prog 18 #[] w fun e w' => e = .returned (.agg (tblA (fun i => (ordN i : Int)) 19)) ∧ Below w.heap.size w w' := by
  have hz := (zero_of_info infoOrd).1
  have f1 := flatOrd
  obtain ⟨T, hT⟩ : ∃ T : Nat → Int, T = fun i => (ordN i : Int) := ⟨_, rfl⟩
  obtain ⟨Z, hZ⟩ : ∃ Z : Nat → Int, Z = fun _ => 0 := ⟨_, rfl⟩
  rw [← hT] at f1 ⊢
  rw [← hZ] at hz
  have F1 := Lib.hid f1
  have K0 : Hid ((w.alloc (.cells (tblA Z 19) 46)).heap[w.heap.size]? = some (.cells (tblA Z 19) 46 (0, 0))) := Lib.hid (heap_alloc_new w _)
  clear hT hZ f1
  go_enter Tryz.func18, Tryz.ntmps18
  go_wp2_with (first
    | (refine wpList_buildFlatArrTo rfl 46 3 19 _ rfl .i64 [16, 17, 18, 0, 8, 7, 9, 6, 10, 5, 11, 4, 12, 3, 13, 2, 14, 1, 15] (some 1) rfl Tryz.underlying46 (by kernel_rfl) (by kernel_rfl) rfl ?_; rw [F1.out])
    | (refine wpList_store_rowTo rfl _ _ _ rfl rfl w.heap.size (tblA T 19) rfl rfl 46 (tblA Z 19) K0.out (szO19 _) (by rw [tblA_size, tblA_size]) (tblA_one _ _) ?_)
    | fail)
  refine bodyPost_ret (v := .agg (tblA T 19)) ?_ rfl ⟨rfl, below_row9 ((Below.refl _ _).alloc (Nat.le_refl _) _) (Nat.le_refl _) _⟩
  exact results_cell_row rfl _ _ w.heap.size _ _ (0, 0) _ rfl (setRow_heap _ _ _ _ _ _ K0.out) Tryz.underlying46 rfl (szO19 _)
end Go.Proofs.YtjhljkhgjcckhaaGreat

namespace Go.Proofs.YtjhljkhgjcckhaaGreat
open Go.RowKit
/-- Each of the first n operations waits for earlier ones alone, and none is guarded. -/
def lowB (l : List Oper) (n : Nat) : Bool := (List.range n).all fun i => match l[i]? with
  | some o => o.guard.isNone && o.after.all fun e => !Region.binds .any e || decide (e.on < i)
  | none => false
def doneA (n g : Nat) : Array Bool := (List.replicate n true ++ List.replicate g false).toArray
/-- What part of the first n operations stands behind the first m waits for is waited for by the n-th, in steps. -/
def sinkF (l : List Oper) (m n : Nat) : Bool := (List.range n).all fun i => decide (i < m) || (List.range (n + 1)).any fun j => decide (i < j) && Region.waitsFor .any l.toArray j i
def splitB (l : List Oper) (m n : Nat) : Bool := Region.noSelect l.toArray && Region.noSelect (l.take n).toArray && Region.lexFrom .any (l.take n).toArray (n - m) m (doneA m (n - m)) && decide (n < l.length) && sinkF l m n && Region.chainB .any l.toArray n && lowB l n && Region.seqB .any l.toArray (l.length - n) n (doneA n (l.length - n))
/-- The last part waits as long as one of the first has not come up. -/
theorem tail_late {l : List Oper} {m n : Nat} {listed : Array Bool} (hs : sinkF l m n = true) (hc : Region.chainB .any l.toArray n = true) (hn : n < l.length) (inv : HeadInv .any l.toArray n listed) (hm : ∀ i, i < m → listed.getD i false = true) {i : Nat} (hi : i < n) (hu : listed.getD i true = false) :
    ∀ t, n ≤ t → t ∉ Region.ready .any l.toArray listed := by
  have hsz : listed.size = l.length := by rw [inv.size]; simp
  -- one that waits, of those up to the n-th, is not ready
  have key : ∀ (d i : Nat), d = n - i → i ≤ n → listed.getD i true = false → n ∈ Region.ready .any l.toArray listed → i = n := by
    intro d
    induction d using Nat.strongRecOn with
    | _ d ih =>
      intro i hd hi hu hr
      rcases Nat.eq_or_lt_of_le hi with e | hi
      · exact e
      · exfalso
        have hmi : ¬ i < m := fun h => by have := hm i h; rw [getD_both hu] at this; cases this
        have h1 := List.all_eq_true.1 hs i (List.mem_range.2 hi)
        simp only [Bool.or_eq_true, decide_eq_true_eq] at h1
        rcases h1 with h1 | h1
        · exact hmi h1
        · obtain ⟨j, hj, hj2⟩ := List.any_eq_true.1 h1
          simp only [Bool.and_eq_true, decide_eq_true_eq] at hj2
          obtain ⟨oj, hoj, e, he, hb, hon⟩ := Region.waitsFor_spec hj2.2
          have hjn : j ≤ n := by have := List.mem_range.1 hj; omega
          cases hl : listed.getD j false with
          | true =>
            have h2 := inv.closed j oj hoj hl e he hb
            rw [hon, getD_both hu] at h2; cases h2
          | false =>
            have hjt := ih (n - j) (by omega) j rfl hjn (getD_in (by omega) hl) hr
            subst hjt
            obtain ⟨_, ot, hot, hall⟩ := mem_ready.1 hr
            rw [hoj] at hot; cases hot
            have h2 := hall e he hb
            rw [hon, getD_both hu] at h2; cases h2
  intro t ht hr
  by_cases htn : t = n
  · subst htn
    have := key (t - i) i rfl (by omega) hu hr
    omega
  · obtain ⟨_, ot, hot, hall⟩ := mem_ready.1 hr
    have htl : t < l.length := by have := (Array.getElem?_eq_some_iff.1 hot).1; simpa using this
    have h1 := List.all_eq_true.1 hc t (List.mem_range.2 (by simpa using htl))
    simp only [Bool.or_eq_true, decide_eq_true_eq] at h1
    rcases h1 with h1 | h1
    · omega
    · obtain ⟨o', ho', e, he, hb, hon⟩ := Region.waitsFor_spec h1
      rw [hot] at ho'; cases ho'
      have h2 := hall e he hb
      rw [hon, getD_both (inv.tail (t - 1) (by omega) (by simp; omega))] at h2; cases h2
theorem lowB_spec {l : List Oper} {n i : Nat} (h : lowB l n = true) (hi : i < n) : ∃ o, l[i]? = some o ∧ o.guard = none ∧ ∀ e ∈ o.after, Region.binds .any e = true → e.on < i := by
  have h1 := List.all_eq_true.1 h i (List.mem_range.2 hi)
  split at h1
  · rename_i o ho
    simp only [Bool.and_eq_true] at h1
    refine ⟨o, ho, by simpa using h1.1, fun e he hb => ?_⟩
    have h2 := Array.all_eq_true_iff_forall_mem.1 h1.2 e he
    simp only [hb, Bool.not_true, Bool.false_or, decide_eq_true_eq] at h2
    exact h2
  · cases h1
theorem wanted_free {o : Oper} (h : o.guard = none) (y : Nat → Option Bool) : Region.wanted o y = true := by simp [Region.wanted, h]
theorem split_done {n g : Nat} {listed : Array Bool} (hsz : listed.size = n + g) (h1 : ∀ i, i < n → listed.getD i true = true) (h2 : ∀ t, n ≤ t → t < n + g → listed.getD t true = false) : listed = doneA n g := by
  apply Array.ext_getElem?
  intro i
  unfold doneA
  rcases Nat.lt_or_ge i n with h | h
  · have := h1 i h
    have hs : i < listed.size := by omega
    have e : listed[i]? = some true := by
      rw [Array.getElem?_eq_getElem hs]
      simp [hs] at this
      rw [this]
    rw [e, List.getElem?_toArray, List.getElem?_append_left (by simpa using h), List.getElem?_replicate, if_pos h]
  · rcases Nat.lt_or_ge i (n + g) with h' | h'
    · have := h2 i h h'
      have hs : i < listed.size := by omega
      have e : listed[i]? = some false := by
        rw [Array.getElem?_eq_getElem hs]
        simp [hs] at this
        rw [this]
      rw [e, List.getElem?_toArray, List.getElem?_append_right (by simpa using h), List.length_replicate, List.getElem?_replicate, if_pos (by omega)]
    · rw [Array.getElem?_eq_none (by omega), List.getElem?_toArray, List.getElem?_eq_none (by simp; omega)]
/-- The two parts, whatever order is picked from here on; s are those of the first part that have not come up. -/
theorem split_any {P : Program} {C : World → Prop} {Q : Exit → Act → World → Prop} {l : List Oper} {m n : Nat} (hn : n < l.length) (hs : sinkF l m n = true) (hc : Region.chainB .any l.toArray n = true) (hlow : lowB l n = true)
    (hseq : Region.seqB .any l.toArray (l.length - n) n (doneA n (l.length - n)) = true) :
    ∀ (f : Nat) (s : List Nat) (listed lh : Array Bool) (a : Act) (w : World), s.length = f → s.Nodup → (∀ i, i ∈ s ↔ i < n ∧ listed.getD i true = false) → HeadInv .any l.toArray n listed → (∀ i, i < m → listed.getD i false = true) → (∀ i, i < n → lh.getD i true = listed.getD i true ∧ lh.getD i false = listed.getD i false) → C w →
      wpAnyQ P .any (l.take n).toArray C (fun a' => ∀ w', C w' → wpList P l.toArray Q (l.drop n) a' w') f lh a → wpAny P .any l.toArray Q (f + (l.length - n)) listed a w
  | 0, s, listed, lh, a, w, hf, _, hmem, inv, _, _, hw, h => by
    have hs0 : s = [] := List.length_eq_zero_iff.1 hf
    subst hs0
    have h1 : ∀ i, i < n → listed.getD i true = true := fun i hi => by
      cases e : listed.getD i true with
      | true => rfl
      | false => exact absurd ((hmem i).2 ⟨hi, e⟩) (by simp)
    have hsz := inv.size
    have he := split_done (n := n) (g := l.length - n) (listed := listed) (by rw [hsz]; simp; omega) h1 (fun t ht ht2 => inv.tail t ht (by simp; omega))
    subst he
    have h3 := wpAny_of_seq (P := P) (md := .any) (Q' := Q) (l.drop n) n (doneA n (l.length - n)) a w (fun j => by simp [List.getElem?_drop]) (by rw [List.length_drop]; exact hseq) (h.2 w hw)
    rw [List.length_drop] at h3
    rw [Nat.zero_add]; exact h3
  | f + 1, s, listed, lh, a, w, hf, hnd, hmem, inv, hmm, hlh, hw, h => by
    rw [show f + 1 + (l.length - n) = (f + (l.length - n)) + 1 by omega]
    obtain ⟨x, hx⟩ : ∃ x, x ∈ s := List.exists_mem_of_length_pos (by omega)
    obtain ⟨hxn, hxu⟩ := (hmem x).1 hx
    have hready : ∀ i, i ∈ Region.ready .any l.toArray listed → i < n := fun i hi => by
      rcases Nat.lt_or_ge i n with g | g
      · exact g
      · exact absurd hi (tail_late hs hc hn inv hmm hxn hxu i g)
    have hhead : ∀ i, i < n → (i ∈ Region.ready .any l.toArray listed ↔ i ∈ Region.ready .any (l.take n).toArray lh) := fun i hi => by
      obtain ⟨o, ho, hg, hlo⟩ := lowB_spec hlow hi
      rw [mem_ready, mem_ready]
      have e1 : l.toArray[i]? = some o := by simpa using ho
      have e2 : (l.take n).toArray[i]? = some o := by simp [hi, ho]
      rw [e1, e2, (hlh i hi).1]
      constructor
      · rintro ⟨h0, o', ho', hall⟩
        cases ho'
        exact ⟨h0, o, rfl, fun e he hb => by rw [(hlh e.on (by have := hlo e he hb; omega)).2]; exact hall e he hb⟩
      · rintro ⟨h0, o', ho', hall⟩
        cases ho'
        exact ⟨h0, o, rfl, fun e he hb => by have := hall e he hb; rwa [(hlh e.on (by have := hlo e he hb; omega)).2] at this⟩
    refine ⟨fun h0 => ?_, fun i hi => ?_⟩
    · exfalso
      -- the least one that has not come up is ready
      have hleast : ∀ (d y : Nat), y = d → y < n → listed.getD y true = false → ∃ z, z ∈ Region.ready .any l.toArray listed := by
        intro d
        induction d using Nat.strongRecOn with
        | _ d ih =>
          intro y hy hyn hyu
          obtain ⟨o, ho, _, hlo⟩ := lowB_spec hlow hyn
          by_cases hall : ∀ e ∈ o.after, Region.binds .any e = true → listed.getD e.on false = true
          · exact ⟨y, mem_ready.2 ⟨hyu, o, by simpa using ho, hall⟩⟩
          · have hex : ∃ e, e ∈ o.after ∧ Region.binds .any e = true ∧ listed.getD e.on false ≠ true := by
              apply Classical.byContradiction
              intro hno
              exact hall fun e he hb => Classical.byContradiction fun hne => hno ⟨e, he, hb, hne⟩
            obtain ⟨e, he, hb, hne⟩ := hex
            have hlt := hlo e he hb
            have hsz := inv.size
            refine ih e.on (by omega) e.on rfl (by omega) (getD_in (by rw [hsz]; simp; omega) (by simpa using hne))
      obtain ⟨z, hz⟩ := hleast x x rfl hxn hxu
      rw [h0] at hz; cases hz
    · have hin := hready i hi
      have h1 := h.2 i ((hhead i hin).1 hi)
      obtain ⟨o, ho, hg, _⟩ := lowB_spec hlow hin
      have e1 : l.toArray[i]? = some o := by simpa using ho
      have e2 : (l.take n).toArray[i]? = some o := by simp [hin, ho]
      have hiu := (mem_ready.1 hi).1
      have his : i ∈ s := (hmem i).2 ⟨hin, hiu⟩
      unfold wpOp
      simp only [e1]
      rw [if_pos (wanted_free hg _)]
      unfold qOp at h1
      simp only [e2] at h1
      rw [if_pos (wanted_free hg _)] at h1
      refine .inl (Oper.wp_of_quiet hw (fun a' w' hw' hk => ?_) h1)
      refine split_any hn hs hc hlow hseq f (s.erase i) (listed.setIfInBounds i true) (lh.setIfInBounds i true) a' w' (by rw [List.length_erase_of_mem his]; omega) (hnd.erase i) (fun j => ?_) (inv.set hi hin) (fun j hj => getD_set_true (hmm j hj)) (fun j hj => ?_) hw' hk
      · rw [hnd.mem_erase_iff]
        by_cases hji : j = i
        · subst hji
          have hsz := inv.size
          have hlt : j < listed.size := by rw [hsz]; simp; omega
          constructor
          · intro hh; exact absurd rfl hh.1
          · rintro ⟨_, hh⟩; simp [hlt] at hh
        · rw [getD_set_ne true (Ne.symm hji), hmem j]
          constructor
          · intro hh; exact hh.2
          · intro hh; exact ⟨hji, hh⟩
      · by_cases hji : j = i
        · subst hji
          have hsz := inv.size
          have hlt : j < listed.size := by rw [hsz]; simp; omega
          have hlt2 : j < lh.size := by
            rcases Nat.lt_or_ge j lh.size with g | g
            · exact g
            · have := (hlh j hj).1
              rw [hiu] at this
              simp [Array.getElem?_eq_none g] at this
          simp [hlt, hlt2]
        · rw [getD_set_ne true (Ne.symm hji), getD_set_ne true (Ne.symm hji), getD_set_ne false (Ne.symm hji), getD_set_ne false (Ne.symm hji)]
          exact hlh j hj
theorem doneA_get (n g i : Nat) (d : Bool) : (doneA n g).getD i d = if i < n then true else if i < n + g then false else d := by
  unfold doneA
  rcases Nat.lt_or_ge i n with h | h
  · rw [if_pos h]
    have e : (List.replicate n true ++ List.replicate g false).toArray[i]? = some true := by
      rw [List.getElem?_toArray, List.getElem?_append_left (by simpa using h), List.getElem?_replicate, if_pos h]
    rw [Array.getD_eq_getD_getElem?, e]; rfl
  · rw [if_neg (by omega)]
    rcases Nat.lt_or_ge i (n + g) with h' | h'
    · rw [if_pos h']
      have e : (List.replicate n true ++ List.replicate g false).toArray[i]? = some false := by
        rw [List.getElem?_toArray, List.getElem?_append_right (by simpa using h), List.length_replicate, List.getElem?_replicate, if_pos (by omega)]
      rw [Array.getD_eq_getD_getElem?, e]; rfl
    · rw [if_neg (by omega)]
      have e : (List.replicate n true ++ List.replicate g false).toArray[i]? = none := by
        rw [List.getElem?_toArray, List.getElem?_eq_none (by simp; omega)]
      rw [Array.getD_eq_getD_getElem?, e]; rfl
/-- Both parts, the first m operations being done. -/
theorem split_from {P : Program} {C : World → Prop} {Q : Exit → Act → World → Prop} {l : List Oper} {m n : Nat} (hB : splitB l m n = true) (hmn : m ≤ n) (hlow0 : ∀ j oj, l[j]? = some oj → j < m → ∀ e ∈ oj.after, Region.binds .any e = true → e.on < m) {a : Act} {w : World} (hC : C w)
    (h : wpQuiet P (l.take n).toArray C (fun a' => ∀ w', C w' → wpList P l.toArray Q (l.drop n) a' w') ((l.take n).drop m) a) : wpAny P .any l.toArray Q (l.length - m) (doneA m (l.length - m)) a w := by
  simp only [splitB, Bool.and_eq_true, decide_eq_true_eq] at hB
  obtain ⟨⟨⟨⟨⟨⟨⟨_, hsel⟩, hlex⟩, hn⟩, hs⟩, hc⟩, hlow⟩, hseq⟩ := hB
  have htl : ((l.take n).drop m).length = n - m := by simp; omega
  have hq := wpAnyQ_lex (C := C) (md := .any) hsel ((l.take n).drop m) m (doneA m (n - m)) a (by simp) (by rw [htl]; exact hlex) h
  rw [htl] at hq
  have hinv : HeadInv .any l.toArray n (doneA m (l.length - m)) := by
    refine ⟨by simp [doneA]; omega, fun j oj hj hl e he hb => ?_, fun t ht ht2 => ?_⟩
    · rw [doneA_get] at hl
      have hjm : j < m := by
        rcases Nat.lt_or_ge j m with g | g
        · exact g
        · rw [if_neg (by omega)] at hl; split at hl <;> cases hl
      rw [doneA_get, if_pos (hlow0 j oj (by simpa using hj) hjm e he hb)]
    · rw [doneA_get, if_neg (by omega), if_pos (by simp at ht2; omega)]
  have := split_any (Q := Q) (m := m) hn hs hc hlow hseq (n - m) ((List.range n).drop m) (doneA m (l.length - m)) (doneA m (n - m)) a w (by simp) (List.nodup_range.sublist (List.drop_sublist _ _)) (fun i => by
      rw [doneA_get]
      constructor
      · intro hi
        obtain ⟨k, hk, hk2⟩ := List.mem_iff_getElem.1 hi
        simp at hk hk2
        rw [if_neg (by omega), if_pos (by omega)]
        exact ⟨by omega, rfl⟩
      · rintro ⟨hi, hu⟩
        have hmi : m ≤ i := by
          rcases Nat.lt_or_ge i m with g | g
          · rw [if_pos g] at hu; cases hu
          · exact g
        exact List.mem_iff_getElem.2 ⟨i - m, by simp; omega, by simp; omega⟩) hinv (fun i hi => by rw [doneA_get, if_pos hi]) (fun i hi => by
      simp only [doneA_get]
      constructor
      · by_cases g : i < m
        · rw [if_pos g, if_pos g]
        · rw [if_neg g, if_neg g, if_pos (by omega), if_pos (by omega)]
      · by_cases g : i < m
        · rw [if_pos g, if_pos g]
        · rw [if_neg g, if_neg g, if_pos (by omega), if_pos (by omega)]) hC hq
  rw [show n - m + (l.length - n) = l.length - m by omega] at this
  exact this
/-- A literal of a struct in a region that draws and only reads; its parts are the places ds (of the frame's). -/
theorem quiet_build {P : Program} {C : World → Prop} {K : Act → Prop} {a : Act} {o : Oper} (t : TypeId) (parts : Array (Nat × Operand)) (ho : o.op = .build t parts) (d : Option Tmp) (hd : o.dst = d) (cells : Array Value)
    (hf : P.built t (parts.map fun (i, x) => (i, a.eval x)).toList = some cells) (hk : K (a.put d (.agg cells))) : o.quiet P a C K := by
  subst hd
  exact ⟨_, fun w hw => by
    unfold Oper.quietAt execOp
    simp only [ho, Sem.run_bind, run_build w t _ cells hf, Result.andThen_ok]
    exact ⟨rfl, rfl⟩, hk⟩
/-- FIRST THE PART THAT ONLY READS, THEN THE PART THAT WRITES. -/
theorem wp_region_split {P : Program} {id : Nat} {Q : Exit → Act → World → Prop} {a : Act} {w : World} {l : List Oper} (n : Nat) (C : World → Prop) (hm : P.follows .mixedOrders = true) (hB : splitB l 0 n = true) (hC : C w.drew)
    (h : wpQuiet P (l.take n).toArray C (fun a' => ∀ w', C w' → wpList P l.toArray Q (l.drop n) a' w') (l.take n) a) : (Code.region id l.toArray true).wp P Q a w := by
  refine wp_region_any hm ?_
  have h1 := split_from (Q := Q) hB (Nat.zero_le _) (fun j oj _ hj => absurd hj (by omega)) hC h
  have e : (Array.replicate l.toArray.size false) = doneA 0 (l.length - 0) := by simp [doneA]
  rw [e]
  exact h1
/-- The same where the first operation is a copy that the part that writes alone looks at. -/
theorem wp_region_split1 {P : Program} {id : Nat} {Q : Exit → Act → World → Prop} {a : Act} {w : World} {o : Oper} {l : List Oper} (n : Nat) (C : World → Prop) (hm : P.follows .mixedOrders = true) (hB : splitB (o :: l) 1 (n + 1) = true) (hC : C w.drew)
    (x : Operand) (ho : o.op = .move x) (hg : o.guard = none) (ha : o.after = #[]) (hf : Region.free .any (o :: l).toArray (Array.replicate (l.length + 1) false) 0 = true) (hQ : ∀ c a' w', Q (.panic c) (a'.put o.dst (a.eval x)) w' → Q (.panic c) a' w')
    (h : wpQuiet P ((o :: l).take (n + 1)).toArray C (fun a' => ∀ w', C w' → wpList P (o :: l).toArray Q (l.drop n) a' w') (l.take n) (a.put o.dst (a.eval x))) : (Code.region id (o :: l).toArray true).wp P Q a w := by
  refine wp_region_any hm ?_
  have hB' := hB
  simp only [splitB, Bool.and_eq_true, decide_eq_true_eq] at hB'
  obtain ⟨⟨⟨⟨⟨⟨⟨hsel, _⟩, _⟩, _⟩, _⟩, _⟩, _⟩, _⟩ := hB'
  have h1 := split_from (Q := Q) (a := a.put o.dst (a.eval x)) (w := w.drew) hB (by omega) (fun j oj hj hj1 e he hb => by
    obtain rfl : j = 0 := by omega
    have : oj = o := by simpa using hj.symm
    rw [this, ha] at he
    simp at he) hC (by simpa using h)
  have e1 : (o :: l).toArray.size = l.length + 1 := by simp
  rw [e1]
  refine wpAny_take (i := 0) (oi := o) (v := a.eval x) (by simp) hsel hf ?_ hQ (.inl ⟨by simp [Region.wanted, hg], fun w' => by simp [execOp, ho]⟩) ?_
  · have : 0 ∈ Region.ready .any (o :: l).toArray (Array.replicate (l.length + 1) false) := mem_ready.2 ⟨by simp, o, by simp, fun e he => by rw [ha] at he; simp at he⟩
    simpa using this
  · have e2 : (Array.replicate (l.length + 1) false).setIfInBounds 0 true = doneA 1 ((o :: l).length - 1) := by
      apply Array.ext_getElem?
      intro i
      unfold doneA
      rcases i with _ | i
      · simp
      · simp [Array.getElem?_replicate, List.getElem?_replicate]
    rw [e2]
    exact h1
/-- The same over the worlds that come after U. -/
theorem wp_split_after {P : Program} {id : Nat} {Q : Exit → Act → World → Prop} {a : Act} {w : World} {l : List Oper} (n m : Nat) (U : World) (hU : Below m U w) (hm : P.follows .mixedOrders = true) (hB : splitB l 0 n = true)
    (h : wpQuiet P (l.take n).toArray (fun V => ∃ p : After m U, V = p.w) (fun a' => ∀ V, (∃ p : After m U, V = p.w) → wpList P l.toArray Q (l.drop n) a' V) (l.take n) a) : (Code.region id l.toArray true).wp P Q a w :=
  wp_region_split n _ hm hB ⟨⟨_, hU.drew⟩, rfl⟩ h
theorem wp_split_after1 {P : Program} {id : Nat} {Q : Exit → Act → World → Prop} {a : Act} {w : World} {o : Oper} {l : List Oper} (n m : Nat) (U : World) (hU : Below m U w) (hm : P.follows .mixedOrders = true) (hB : splitB (o :: l) 1 (n + 1) = true)
    (x : Operand) (v : Value) (hv : a.eval x = v) (d : Option Tmp) (hd : o.dst = d) (ho : o.op = .move x) (hg : o.guard = none) (ha : o.after = #[]) (hf : Region.free .any (o :: l).toArray (Array.replicate (l.length + 1) false) 0 = true) (hQ : ∀ c a' w', Q (.panic c) (a'.put d v) w' → Q (.panic c) a' w')
    (h : wpQuiet P ((o :: l).take (n + 1)).toArray (fun V => ∃ p : After m U, V = p.w) (fun a' => ∀ V, (∃ p : After m U, V = p.w) → wpList P (o :: l).toArray Q (l.drop n) a' V) (l.take n) (a.put d v)) : (Code.region id (o :: l).toArray true).wp P Q a w := by
  subst hv; subst hd
  exact wp_region_split1 n _ hm hB ⟨⟨_, hU.drew⟩, rfl⟩ x ho hg ha hf hQ h
end Go.Proofs.YtjhljkhgjcckhaaGreat

namespace Go.Proofs.YtjhljkhgjcckhaaGreat
open Go.RowKit
theorem built_num (a b : Int) : Tryz.prog.built 102 [(0, .int .u32 a), (1, .int .i64 b)] = some #[.int .u32 a, .int .i64 b] := by kernel_rfl
set_option maxRecDepth 100000 in
set_option maxHeartbeats 2000000 in
theorem rcode11_any (w : World) (x n : Nat) (hx : x < 4294967296) (hn : n ≤ 32) :
    Calls Tryz.prog 73 #[.agg #[.int .u32 (x : Int), .int .u8 (n : Int)]] w fun e w' => e = .returned (.agg #[.int .u32 ((turnN x n : Nat) : Int), .int .i64 (n : Int)]) ∧ Below w.heap.size w w' := by
  obtain ⟨U, hU⟩ : ∃ U, U = (w.alloc (.cells #[.int .u32 (x : Int), .int .u8 (n : Int)] 96)).alloc (.cells #[.int .u32 0, .int .i64 0] 102) := ⟨_, rfl⟩
  have h0 : U.heap[w.heap.size]? = some (.cells #[.int .u32 (x : Int), .int .u8 (n : Int)] 96 (0, 0)) := by rw [hU]; exact heap_alloc2_old w _ _
  have h1 : U.heap[w.heap.size + 1]? = some (.cells #[.int .u32 0, .int .i64 0] 102 (0, 0)) := by rw [hU]; exact heap_alloc2_new w _ _
  have hb : Below w.heap.size w U := by rw [hU]; exact ((Below.refl w.heap.size w).alloc (Nat.le_refl _) _).alloc (by simp) _
  have hl0 : w.heap.size < U.heap.size := (Array.getElem?_eq_some_iff.1 h0).1
  have hl1 : w.heap.size + 1 < U.heap.size := (Array.getElem?_eq_some_iff.1 h1).1
  have c0 : ∀ p : After U.heap.size U, p.w.cell? ⟨w.heap.size, 0, none⟩ = some (.int .u32 (x : Int)) := fun p => by
    rw [p.h.cell (p := ⟨w.heap.size, 0, none⟩) hl0, cell_of_row U _ 0 _ _ (0, 0) h0]; rfl
  have c1 : ∀ p : After U.heap.size U, p.w.cell? ⟨w.heap.size, 1, none⟩ = some (.int .u8 (n : Int)) := fun p => by
    rw [p.h.cell (p := ⟨w.heap.size, 1, none⟩) hl0, cell_of_row U _ 1 _ _ (0, 0) h0]; rfl
  obtain ⟨y, hy⟩ : ∃ y, y = turnN x n := ⟨_, rfl⟩
  have T1 : ∀ V, Below U.heap.size U V → Calls Tryz.prog 95 #[.int .u32 (x : Int), .int .i64 (n : Int)] V fun e V' => e = .returned (.int .u32 (y : Int)) ∧ Below U.heap.size U V' := fun V hV => by
    rw [hy]
    exact (turned_any x n V hx hn).mono fun e V' ⟨a, b⟩ => ⟨a, b ▸ hV⟩
  rw [← hy]
  have hbd := built_num (y : Int) (n : Int)
  obtain ⟨X, hX⟩ : ∃ X : Array Value, X = #[.int .u32 (y : Int), .int .i64 (n : Int)] := ⟨_, rfl⟩
  obtain ⟨x1, x2⟩ : X.size = 2 ∧ X.all (·.oneCell') = true := by rw [hX]; exact ⟨rfl, by simp [Value.oneCell']⟩
  have x3 : (Tryz.prog.info? 102).map (·.size) = some X.size := by rw [x1]; exact szNum
  rw [← hX] at hbd ⊢
  have X1 := Lib.hid x1; have X2 := Lib.hid x2; have X3 := Lib.hid x3; have HBD := Lib.hid hbd
  clear hX x1 x2 x3 hbd
  have HB := Lib.hid hb; have H1 := Lib.hid h1; have HU := Lib.hid hU; have TT := Lib.hid T1; have HL1 := Lib.hid hl1
  clear hb h0 h1 hU hl0 hl1 hy T1 hx
  go_enter Tryz.func73, Tryz.ntmps73
  go_wp2_with fail
  rw [← HU.out]
  refine wp_split_after 9 U.heap.size U (Below.refl _ _) (by kernel_rfl) (by kernel_rfl) ?_
  simp only [List.take_succ_cons, List.take_zero, List.drop_succ_cons, List.drop_zero]
  repeat (go_big_quiet_step (with_reducible exact call_after TT.out _))
  refine wpQuiet_nil ?_
  rintro V ⟨⟨V, hV⟩, rfl⟩
  have h2 := (hV.block _ HL1.out).trans H1.out
  have HV := Lib.hid (HB.out.trans (hV.mono HB.out.size)); have H2 := Lib.hid h2
  clear hV h2 c0 c1
  go_wp2_with (first
    | (refine wpList_buildTo rfl 102 #[(0, .tmp 8), (1, .tmp 11)] rfl (some 12) rfl X ?_ ?_; focus (simpa [Act.eval] using HBD.out))
    | (refine wpList_store_rowTo rfl _ _ _ rfl rfl (w.heap.size + 1) X rfl rfl 102 #[.int .u32 0, .int .i64 0] H2.out X3.out (by rw [X1.out]; rfl) X2.out ?_)
    | fail)
  refine bodyPost_ret (v := .agg X) ?_ rfl ⟨rfl, below_row9 HV.out (by omega) _⟩
  exact results_cell_row rfl _ _ (w.heap.size + 1) _ _ (0, 0) _ rfl (setRow_heap _ _ _ _ _ _ H2.out) Tryz.underlying102 rfl X3.out
end Go.Proofs.YtjhljkhgjcckhaaGreat

namespace Go.Proofs.YtjhljkhgjcckhaaGreat
open Go.RowKit Go.ChangeShapes Go.WideShapes Go.ChangeAt Go.Joins
def tok0 : Tok := ⟨0, 0, 0⟩
def tokC (t : Tok) : List Value := [.int .u8 (t.x : Int), .int .i64 t.d, .int .i64 t.n]
def toksL : List Tok → List Value
  | [] => []
  | t :: l => tokC t ++ toksL l
theorem toksL_length : ∀ l, (toksL l).length = l.length * 3
  | [] => rfl
  | t :: l => by simp only [toksL, List.length_append, List.length_cons, toksL_length l]; simp [tokC]; omega
theorem toksL_get : ∀ (l : List Tok) (j i : Nat), j < l.length → i < 3 → (toksL l)[j * 3 + i]? = (tokC (l.getD j tok0))[i]?
  | [], j, i, h, _ => absurd h (by simp)
  | t :: l, 0, i, _, hi => by
    simp only [toksL, Nat.zero_mul, Nat.zero_add]
    rw [List.getElem?_append_left (by simpa [tokC] using hi)]
    rfl
  | t :: l, j + 1, i, h, hi => by
    simp only [toksL]
    rw [List.getElem?_append_right (by simp [tokC]; omega)]
    have e : (j + 1) * 3 + i - (tokC t).length = j * 3 + i := by simp [tokC]; omega
    rw [e, toksL_get l j i (by simpa using h) hi]
    rfl
theorem toksL_one (l : List Tok) : ∀ u ∈ toksL l, u.oneCell' = true := by
  induction l with
  | nil => intro u hu; simp [toksL] at hu
  | cons t l ih =>
    intro u hu
    simp only [toksL, List.mem_append] at hu
    rcases hu with hu | hu
    · simp [tokC] at hu; rcases hu with rfl | rfl | rfl <;> rfl
    · exact ih u hu
theorem infoTok : (Tryz.prog.info? 72).map (fun i => (i.zero, i.size, i.bytes)) = some (some (.agg #[.int .u8 0, .int .i64 0, .int .i64 0]), 3, 24) := by kernel_rfl
theorem szTok : (Tryz.prog.info? 72).map (·.size) = some 3 := by kernel_rfl
def RdT (w : World) (B : Nat) (A : Option Addr) (l : List Tok) : Prop := SrcL w B 3 A l.length (toksL l)
theorem RdT.below {w w' : World} {B B' : Nat} {A : Option Addr} {l : List Tok} (h : RdT w B A l) (hb : Below B' w w') (hB : B ≤ B') : RdT w' B A l := SrcL.below h hb hB
theorem RdT.more {w : World} {B B' : Nat} {A : Option Addr} {l : List Tok} (h : RdT w B A l) (hB : B ≤ B') : RdT w B' A l := SrcL.more h hB
theorem RdT.nil (w : World) (B : Nat) (A : Option Addr) : RdT w B A [] := SrcL.none_ w B 3 A
theorem RdT.of_own {w : World} {base c n : Nat} {A : Option Addr} {l : List Tok} (h : w.ownsRow base 72 3 (.slice A n c) n (toksL l)) : n = l.length ∧ RdT w w.heap.size A l := by
  have h1 := SrcL.of_own h
  have h2 := h1.1
  rw [toksL_length] at h2
  obtain rfl : n = l.length := by omega
  exact ⟨rfl, h1⟩
theorem RdT.at {w : World} {B : Nat} {A : Option Addr} {l : List Tok} (h : RdT w B A l) {k : Nat} (hk : k < l.length) : ∃ b o, A = some ⟨b, o, none⟩ ∧ b < B ∧ ∀ j, j < l.length →
    w.cell? ⟨b, o + j * 3, none⟩ = some (.int .u8 ((l.getD j tok0).x : Int)) ∧ w.cell? ⟨b, o + j * 3 + 1, none⟩ = some (.int .i64 (l.getD j tok0).d) ∧ w.cell? ⟨b, o + j * 3 + 2, none⟩ = some (.int .i64 (l.getD j tok0).n) := by
  obtain ⟨b, o, h1, h2, h3⟩ := h.2 (by omega)
  refine ⟨b, o, h1, h2, fun j hj => ⟨?_, ?_, ?_⟩⟩
  · have := h3 (j * 3 + 0) _ ((toksL_get l j 0 hj (by omega)).trans rfl)
    simpa using this
  · have := h3 (j * 3 + 1) _ ((toksL_get l j 1 hj (by omega)).trans rfl)
    rw [show o + j * 3 + 1 = o + (j * 3 + 1) by omega]; exact this
  · have := h3 (j * 3 + 2) _ ((toksL_get l j 2 hj (by omega)).trans rfl)
    rw [show o + j * 3 + 2 = o + (j * 3 + 2) by omega]; exact this
theorem RdT.range {w : World} {B : Nat} {A : Option Addr} {l : List Tok} (h : RdT w B A l) {b o : Nat} (hA : A = some ⟨b, o, none⟩) {j : Nat} (hj : j < l.length) : w.rangeAt b (o + j * 3) (tokC (l.getD j tok0)) := by
  obtain ⟨b', o', h1, _, h3⟩ := h.at hj
  rw [hA] at h1
  injection h1 with h1
  injection h1 with hb ho _
  subst hb; subst ho
  obtain ⟨c0, c1, c2⟩ := h3 j hj
  intro i v hv
  rcases i with _ | _ | _ | i
  · simp [tokC] at hv; subst hv; exact c0
  · simp [tokC] at hv; subst hv; exact c1
  · simp [tokC] at hv; subst hv; exact c2
  · simp [tokC] at hv
set_option maxRecDepth 100000 in
set_option maxHeartbeats 1000000 in
theorem rmay8_any (w : World) (t : Tok) : Calls Tryz.prog 50 #[.agg #[.int .u8 (t.x : Int), .int .i64 t.d, .int .i64 t.n]] w fun e w' => e = .returned (.bool (mayT t)) ∧ Below w.heap.size w w' := by
  obtain ⟨x, d, n⟩ := t
  have hb := (Below.refl w.heap.size w).alloc (Nat.le_refl _) (.cells #[.int .u8 (x : Int), .int .i64 d, .int .i64 n] 72)
  have HB := Lib.hid hb
  clear hb
  simp only [mayT]
  by_cases h0 : n = 0
  · have e0 : (n == 0) = true := by simp [h0]
    have e1 : decide ((n = 0 ∧ d = 0) ∨ (n ≠ 0 ∧ x = 0 ∧ 3 ≤ n ∧ n ≤ 258 ∧ 1 ≤ d ∧ d ≤ 32768)) = (d == 0) := by
      rw [Bool.eq_iff_iff]; simp [h0]
    rw [e1]
    subst h0
    clear e1
    go_enter Tryz.func50, Tryz.ntmps50
    go_wp2
    go_ret
    exact ⟨rfl, HB.out⟩
  · have e0 : (n == 0) = false := by simp [h0]
    have e1 : decide ((n = 0 ∧ d = 0) ∨ (n ≠ 0 ∧ x = 0 ∧ 3 ≤ n ∧ n ≤ 258 ∧ 1 ≤ d ∧ d ≤ 32768)) = decide (x = 0 ∧ 3 ≤ n ∧ n ≤ 258 ∧ 1 ≤ d ∧ d ≤ 32768) := by
      rw [Bool.eq_iff_iff]; simp [h0]
    rw [e1]
    clear e1
    by_cases hx : x = 0
    · subst hx
      have y0 : (((0 : Nat) : Int) == 0) = true := by decide
      by_cases h3 : 3 ≤ n
      · have y1 : decide (3 ≤ n) = true := by simp [h3]
        by_cases h4 : n ≤ 258
        · have y2 : decide (n ≤ 258) = true := by simp [h4]
          by_cases h5 : 1 ≤ d
          · have y3 : decide (1 ≤ d) = true := by simp [h5]
            have e2 : decide ((0 : Nat) = 0 ∧ 3 ≤ n ∧ n ≤ 258 ∧ 1 ≤ d ∧ d ≤ 32768) = decide (d ≤ 32768) := by simp [h3, h4, h5]
            rw [e2]
            go_enter Tryz.func50, Tryz.ntmps50
            go_wp2
            go_ret
            exact ⟨rfl, HB.out⟩
          · have y3 : decide (1 ≤ d) = false := by simp [h5]
            have e2 : decide ((0 : Nat) = 0 ∧ 3 ≤ n ∧ n ≤ 258 ∧ 1 ≤ d ∧ d ≤ 32768) = false := by simp [h5]
            rw [e2]
            go_enter Tryz.func50, Tryz.ntmps50
            go_wp2
            go_ret
            exact ⟨rfl, HB.out⟩
        · have y2 : decide (n ≤ 258) = false := by simp [h4]
          have e2 : decide ((0 : Nat) = 0 ∧ 3 ≤ n ∧ n ≤ 258 ∧ 1 ≤ d ∧ d ≤ 32768) = false := by simp [h4]
          rw [e2]
          go_enter Tryz.func50, Tryz.ntmps50
          go_wp2
          go_ret
          exact ⟨rfl, HB.out⟩
      · have y1 : decide (3 ≤ n) = false := by simp [h3]
        have e2 : decide ((0 : Nat) = 0 ∧ 3 ≤ n ∧ n ≤ 258 ∧ 1 ≤ d ∧ d ≤ 32768) = false := by simp [h3]
        rw [e2]
        go_enter Tryz.func50, Tryz.ntmps50
        go_wp2
        go_ret
        exact ⟨rfl, HB.out⟩
    · have y0 : ((x : Int) == 0) = false := by simp; omega
      have e2 : decide (x = 0 ∧ 3 ≤ n ∧ n ≤ 258 ∧ 1 ≤ d ∧ d ≤ 32768) = false := by simp [hx]
      rw [e2]
      go_enter Tryz.func50, Tryz.ntmps50
      go_wp2
      go_ret
      exact ⟨rfl, HB.out⟩
end Go.Proofs.YtjhljkhgjcckhaaGreat

namespace Go.Proofs.YtjhljkhgjcckhaaGreat
open Go.RowKit
theorem cutN_low (f : Nat → Nat) (least : Nat) : ∀ k, k ≤ least → cutN f least k = least
  | 0, _ => rfl
  | k + 1, h => by simp only [cutN]; rw [if_neg (by omega)]; exact cutN_low f least k (by omega)
set_option maxRecDepth 100000 in
set_option maxHeartbeats 2000000 in
theorem rcut11_any (w : World) (A : Option Addr) (n c : Nat) (f : Nat → Nat) (least : Nat) (hr : RdB w w.heap.size A n f) (hl : least ≤ n) (hn : n ≤ 1000000) (hnc : n ≤ c) (hc : c ≤ maxLen) (m : Nat) (hm : m = cutN f least n) :
    Calls Tryz.prog 77 #[.slice A n c, .int .i64 (least : Int)] w fun e w' => e = .returned (.slice A m c) ∧ w = w' := by
  unfold maxLen at hc
  have HR := Lib.hid hr; have HM := Lib.hid hm
  have hmn : m ≤ n := by rw [hm]; exact cutN_le f least n hl
  clear hr hm
  go_enter Tryz.func77, Tryz.ntmps77
  go_wp2
  go_loopw [5, 6] (fun nv iv wr => ∃ i k : Nat, least ≤ i ∧ i ≤ n ∧ k ≤ n ∧ nv = .int .i64 (k : Int) ∧ iv = .int .i64 (i : Int) ∧ Hid (k = cutN f least i) ∧ w = wr) (fun _ iv _ => n - (intOf iv).toNat)
  case atStart => exact ⟨least, least, Nat.le_refl _, hl, hl, rfl, rfl, Lib.hid (cutN_low f least least (Nat.le_refl _)).symm, rfl⟩
  case round =>
    obtain ⟨i, k, hi, hin, hk, rfl, rfl, HK, rfl⟩ := hrel
    by_cases hlt : i < n
    · have hlti : (i : Int) < (n : Int) := by omega
      obtain ⟨b, o, rfl, _, hcc⟩ := HR.out.2 (by omega)
      have e1 := hcc i hlt
      obtain ⟨x, hx⟩ : ∃ x, x = f i := ⟨_, rfl⟩
      rw [← hx] at e1
      have hst : cutN f least (i + 1) = if x = 0 then k else i + 1 := by
        simp only [cutN]
        rw [← hx, HK.out]
        by_cases h0 : x = 0
        · rw [if_pos h0, if_neg (fun h => h.2 h0)]
        · rw [if_neg h0, if_pos ⟨hi, h0⟩]
      clear hcc hx
      by_cases h0 : x = 0
      · rw [if_pos h0] at hst
        have HST := Lib.hid hst
        have d1 : ((x : Int) != 0) = false := by simp; omega
        have d2 : (x != 0) = false := by simpa using h0
        clear hst h0
        go_wp2
        go_roundw
        case rel => exact ⟨i + 1, k, by omega, by omega, hk, rfl, by go_num, Lib.hid HST.out.symm, trivial⟩
        case measure => simp [intOf]; omega
      · rw [if_neg h0] at hst
        have HST := Lib.hid hst
        have d1 : ((x : Int) != 0) = true := by simp; omega
        have d2 : (x != 0) = true := by simpa using h0
        clear hst h0
        go_wp2
        go_roundw
        case rel => exact ⟨i + 1, i + 1, by omega, by omega, by omega, by go_num, by go_num, Lib.hid HST.out.symm, trivial⟩
        case measure => simp [intOf]; omega
    · obtain rfl : i = n := by omega
      have hlti : ¬ (i : Int) < (i : Int) := by omega
      obtain rfl : k = m := HK.out.trans HM.out.symm
      go_wp2
      go_ret
      exact ⟨rfl, rfl⟩
theorem bitsT_take_le (l : List (Nat × Nat)) (i : Nat) : bitsT (l.take i) ≤ bitsT l := by
  have := bitsT_app (l.take i) (l.drop i)
  rw [List.take_append_drop] at this
  omega
theorem bitsT_step (l : List (Nat × Nat)) {i : Nat} (h : i < l.length) : bitsT (l.take (i + 1)) = bitsT (l.take i) + (l.getD i num0).2 := by
  rw [List.take_add_one, bitsT_app, List.getElem?_eq_getElem h, List.getD_eq_getElem?_getD, List.getElem?_eq_getElem h]
  simp [bitsT]
set_option maxRecDepth 100000 in
set_option maxHeartbeats 2000000 in
theorem rbitsT_any (w : World) (A : Option Addr) (n c : Nat) (l : List (Nat × Nat)) (hn : n = l.length) (hr : RdN w w.heap.size A l) (hl : n ≤ 1000000) (hb : bitsT l ≤ 1000000000) :
    Calls Tryz.prog 32 #[.slice A n c] w fun e w' => e = .returned (.int .i64 ((bitsT l : Nat) : Int)) ∧ w = w' := by
  have HR := Lib.hid hr; have HB := Lib.hid hb; have HN := Lib.hid hn
  obtain ⟨z, hz⟩ : ∃ z, z = bitsT l := ⟨_, rfl⟩
  rw [← hz]
  have HZ := Lib.hid hz
  clear hr hb hn hz
  go_enter Tryz.func32, Tryz.ntmps32
  go_wp2
  go_loopw [3, 4] (fun nv iv wr => ∃ i k : Nat, i ≤ n ∧ k ≤ 1000000000 ∧ nv = .int .i64 (k : Int) ∧ iv = .int .i64 (i : Int) ∧ Hid (k = bitsT (l.take i)) ∧ w = wr) (fun _ iv _ => n - (intOf iv).toNat)
  case atStart => exact ⟨0, 0, Nat.zero_le _, Nat.zero_le _, rfl, rfl, Lib.hid rfl, rfl⟩
  case round =>
    obtain ⟨i, k, hin, hk, rfl, rfl, HK, rfl⟩ := hrel
    by_cases hlt : i < n
    · have hil : i < l.length := by rw [← HN.out]; exact hlt
      obtain ⟨b, o, rfl, _, hcc⟩ := HR.out.at hil
      have e1 := (hcc i hil).2
      have hst := bitsT_step l hil
      have hle := Nat.le_trans (bitsT_take_le l (i + 1)) HB.out
      obtain ⟨x, hx⟩ : ∃ x, x = (l.getD i num0).2 := ⟨_, rfl⟩
      rw [← hx] at e1 hst
      rw [hst, ← HK.out] at hle
      rw [← HK.out] at hst
      have HST := Lib.hid hst
      clear hcc hx hst
      go_wp2
      go_roundw
      case rel => exact ⟨i + 1, k + x, by omega, by omega, by go_num, by go_num, Lib.hid HST.out.symm, trivial⟩
      case measure => simp [intOf]; omega
    · obtain rfl : i = n := by omega
      have hlti : ¬ (i : Int) < (i : Int) := by omega
      obtain rfl : k = z := by rw [HK.out, HZ.out, HN.out, List.take_length]
      go_wp2
      go_ret
      exact ⟨rfl, rfl⟩
end Go.Proofs.YtjhljkhgjcckhaaGreat

namespace Go.Proofs.YtjhljkhgjcckhaaGreat
open Go.RowKit
def RdC (w : World) (B : Nat) (A : Option Addr) (n : Nat) (x l : Nat → Nat) : Prop :=
  ((∀ j, x j < 4294967296) ∧ ∀ j, l j < 256) ∧ (0 < n → ∃ b o, A = some ⟨b, o, none⟩ ∧ b < B ∧ ∀ j, j < n → w.cell? ⟨b, o + j * 2, none⟩ = some (.int .u32 (x j : Int)) ∧ w.cell? ⟨b, o + j * 2 + 1, none⟩ = some (.int .u8 (l j : Int)))
theorem RdC.below {w w' : World} {B B' n : Nat} {A : Option Addr} {x l : Nat → Nat} (h : RdC w B A n x l) (hb : Below B' w w') (hB : B ≤ B') : RdC w' B A n x l := by
  refine ⟨h.1, fun hn => ?_⟩
  obtain ⟨b, o, rfl, hlt, hc⟩ := h.2 hn
  refine ⟨b, o, rfl, hlt, fun j hj => ?_⟩
  rw [hb.cell (p := ⟨b, o + j * 2, none⟩) (by show b < B'; omega), hb.cell (p := ⟨b, o + j * 2 + 1, none⟩) (by show b < B'; omega)]
  exact hc j hj
theorem RdC.more {w : World} {B B' n : Nat} {A : Option Addr} {x l : Nat → Nat} (h : RdC w B A n x l) (hB : B ≤ B') : RdC w B' A n x l := by
  refine ⟨h.1, fun hn => ?_⟩
  obtain ⟨b, o, rfl, hlt, hc⟩ := h.2 hn
  exact ⟨b, o, rfl, by omega, hc⟩
theorem RdC.at {w : World} {B n : Nat} {A : Option Addr} {x l : Nat → Nat} (h : RdC w B A n x l) (hn : 0 < n) : ∃ b o, A = some ⟨b, o, none⟩ ∧ b < B ∧ ∀ j, j < n → w.cell? ⟨b, o + j * 2, none⟩ = some (.int .u32 (x j : Int)) ∧ w.cell? ⟨b, o + j * 2 + 1, none⟩ = some (.int .u8 (l j : Int)) := h.2 hn
theorem below_drawN {B : Nat} {a w : World} (h : Below B a w) (n : Nat) : Below B a (w.drewN n) := ⟨h.os, h.tape, h.output, h.size, h.block⟩
/-- A row of codes of the call's own. -/
def RowC (w : World) (g n : Nat) (x l : Nat → Nat) : Prop :=
  ∃ cur : Array Value, w.heap[g]? = some (.cells cur 96 (0, 0)) ∧ ∀ j, j < n → cur[j * 2]? = some (.int .u32 (x j : Int)) ∧ cur[j * 2 + 1]? = some (.int .u8 (l j : Int))
theorem RowC.lt {w : World} {g n : Nat} {x l : Nat → Nat} (h : RowC w g n x l) : g < w.heap.size := by
  obtain ⟨cur, h1, _⟩ := h; exact (Array.getElem?_eq_some_iff.1 h1).1
theorem RowC.cell {w : World} {g n : Nat} {x l : Nat → Nat} (h : RowC w g n x l) {j : Nat} (hj : j < n) : w.cell? ⟨g, j * 2, none⟩ = some (.int .u32 (x j : Int)) ∧ w.cell? ⟨g, j * 2 + 1, none⟩ = some (.int .u8 (l j : Int)) := by
  obtain ⟨cur, h1, h2⟩ := h
  rw [cell_of_row w g _ _ _ (0, 0) h1, cell_of_row w g _ _ _ (0, 0) h1]; exact h2 j hj
theorem RowC.frozen {w : World} {g n : Nat} {x l : Nat → Nat} (h : RowC w g n x l) (j : Nat) : w.frozen? ⟨g, j, none⟩ = false := by
  obtain ⟨cur, h1, _⟩ := h; exact frozen_of_row w g j _ _ h1
theorem RowC.ext {w : World} {g n : Nat} {x l x' l' : Nat → Nat} (h : RowC w g n x l) (ex : ∀ j, j < n → x j = x' j) (el : ∀ j, j < n → l j = l' j) : RowC w g n x' l' := by
  obtain ⟨cur, h1, h2⟩ := h; exact ⟨cur, h1, fun j hj => by rw [← ex j hj, ← el j hj]; exact h2 j hj⟩
theorem RowC.below {w w' : World} {g n B : Nat} {x l : Nat → Nat} (h : RowC w g n x l) (hb : Below B w w') (hg : g < B) : RowC w' g n x l := by
  obtain ⟨cur, h1, h2⟩ := h; exact ⟨cur, (hb.block g hg).trans h1, h2⟩
theorem RowC.other {w : World} {g n : Nat} {x l : Nat → Nat} (h : RowC w g n x l) {p : Addr} (hp : g ≠ p.block) (u : Value) : RowC (w.setCell p u) g n x l := by
  obtain ⟨cur, h1, h2⟩ := h; exact ⟨cur, (Below.heap_setCell w p u g hp).trans h1, h2⟩
theorem RowC.set {w : World} {g n : Nat} {x l : Nat → Nat} (h : RowC w g n x l) (i a b : Nat) : RowC ((w.setCell ⟨g, i * 2, none⟩ (.int .u32 (a : Int))).setCell ⟨g, i * 2 + 1, none⟩ (.int .u8 (b : Int))) g n (upd x i a) (upd l i b) := by
  obtain ⟨cur, h1, h2⟩ := h
  refine ⟨(cur.setIfInBounds (i * 2) (.int .u32 (a : Int))).setIfInBounds (i * 2 + 1) (.int .u8 (b : Int)), heap_setCell_same _ g _ _ _ _ (heap_setCell_same w g _ cur _ _ h1), fun j hj => ?_⟩
  have hs : j * 2 + 1 < cur.size := by
    rcases Nat.lt_or_ge (j * 2 + 1) cur.size with h | h
    · exact h
    · have := (h2 j hj).2; rw [Array.getElem?_eq_none h] at this; cases this
  have h3 := h2 j hj
  simp only [Array.getElem?_setIfInBounds, Array.size_setIfInBounds, upd]
  by_cases e : j = i
  · subst e
    constructor
    · rw [if_neg (by omega), if_pos rfl, if_pos (by omega), if_pos rfl]
    · rw [if_pos rfl, if_pos (by omega), if_pos rfl]
  · constructor
    · rw [if_neg (by omega), if_neg (by omega), if_neg e]; exact h3.1
    · rw [if_neg (by omega), if_neg (by omega), if_neg e]; exact h3.2
theorem RowC.rd {w : World} {g n : Nat} {x l : Nat → Nat} (h : RowC w g n x l) (hx : ∀ j, x j < 4294967296) (hl : ∀ j, l j < 256) : RdC w w.heap.size (some ⟨g, 0, none⟩) n x l :=
  ⟨⟨hx, hl⟩, fun _ => ⟨g, 0, rfl, h.lt, fun j hj => by rw [Nat.zero_add]; exact h.cell hj⟩⟩
/-- A list of codes that a call has made: none, or a row from block base on. -/
def OutC (base : Nat) (w : World) (A : Option Addr) (n : Nat) (x l : Nat → Nat) : Prop := n = 0 ∨ ∃ g, A = some ⟨g, 0, none⟩ ∧ base ≤ g ∧ RowC w g n x l
theorem OutC.rd {base n : Nat} {w : World} {A : Option Addr} {x l : Nat → Nat} (h : OutC base w A n x l) (hx : ∀ j, x j < 4294967296) (hl : ∀ j, l j < 256) : RdC w w.heap.size A n x l := by
  rcases h with rfl | ⟨g, rfl, _, hr⟩
  · exact ⟨⟨hx, hl⟩, fun h => absurd h (by omega)⟩
  · exact hr.rd hx hl
theorem OutC.below {base B n : Nat} {w w' : World} {A : Option Addr} {x l : Nat → Nat} (h : OutC base w A n x l) (hb : Below B w w') (hB : w.heap.size ≤ B) : OutC base w' A n x l := by
  rcases h with rfl | ⟨g, rfl, hg, hr⟩
  · exact .inl rfl
  · exact .inr ⟨g, rfl, hg, hr.below hb (Nat.lt_of_lt_of_le hr.lt hB)⟩
def zeroN (_ : Nat) : Nat := 0
theorem infoCode : (Tryz.prog.info? 96).map (fun i => (i.zero, i.size, i.bytes)) = some (some (.agg #[.int .u32 0, .int .u8 0]), 2, 8) := by kernel_rfl
theorem rowC_made (w : World) (n : Nat) : RowC (w.alloc (.cells (madeCells #[.int .u32 0, .int .u8 0] (n * 2)) 96)) w.heap.size n zeroN zeroN := by
  refine ⟨_, heap_alloc_new w _, fun j hj => ?_⟩
  unfold madeCells zeroN
  have e1 : j * 2 % 2 = 0 := by omega
  have e2 : (j * 2 + 1) % 2 = 1 := by omega
  constructor
  · simp [show j * 2 < n * 2 by omega, e1]
  · simp [show j * 2 + 1 < n * 2 by omega, e2]
end Go.Proofs.YtjhljkhgjcckhaaGreat

namespace Go.Proofs.YtjhljkhgjcckhaaGreat
open Go.RowKit
theorem part_any (w : World) (m : Nat) (hm : m < 256) :
    Calls Tryz.prog 94 #[.int .u8 (m : Int)] w fun e w' => e = .returned (.int .i64 (pt m : Nat)) ∧ w = w' := by
  go_enter Tryz.func94, Tryz.ntmps94
  go_wp2
  go_loop [3, 4] (fun p i => ∃ k : Nat, k ≤ m ∧ i = .int .i64 k ∧ p = .int .i64 (pt k : Nat)) (fun _ i => m - (intOf i).toNat)
  case atStart => exact ⟨0, Nat.zero_le _, rfl, rfl⟩
  case round =>
    obtain ⟨k, hk, rfl, rfl⟩ := hrel
    have hp := pt_le k
    have H := Lib.hid (pt_half k)
    obtain ⟨p, hpe⟩ : ∃ p, p = pt k := ⟨_, rfl⟩
    rw [← hpe] at hp H ⊢
    have HP := Lib.hid hpe
    clear hpe
    by_cases hlt : k < m
    · go_wp2
      refine ⟨⟨k + 1, hlt, by go_num, val_int ?_⟩, by simp [intOf]; omega⟩
      rw [H.out]; omega
    · obtain rfl : k = m := by omega
      clear hlt hk
      go_wp2
      go_ret
      exact ⟨ret_int (by rw [HP.out]), rfl⟩
end Go.Proofs.YtjhljkhgjcckhaaGreat

namespace Go.Proofs.YtjhljkhgjcckhaaGreat
open Go.RowKit
/-- Is symbol j's code made, when those of the lengths below m are, and those of m ahead of i? -/
def madeB (f : Nat → Nat) (m i j : Nat) : Bool := decide (0 < f j ∧ (f j < m ∨ (f j = m ∧ j < i)))
def madeX (f : Nat → Nat) (n m i j : Nat) : Nat := if madeB f m i j = true then codeB f n j else 0
def madeL (f : Nat → Nat) (m i j : Nat) : Nat := if madeB f m i j = true then f j else 0
theorem made_step {f : Nat → Nat} {n m i : Nat} (h : f i = m) (hm : 0 < m) : upd (madeX f n m i) i (codeB f n i) = madeX f n m (i + 1) ∧ upd (madeL f m i) i m = madeL f m (i + 1) := by
  have hb : ∀ j, j ≠ i → madeB f m i j = madeB f m (i + 1) j := fun j hj => by unfold madeB; rw [decide_eq_decide]; omega
  have hi : madeB f m (i + 1) i = true := decide_eq_true (by omega)
  constructor
  · funext j
    unfold upd
    by_cases e : j = i
    · subst e; rw [if_pos rfl]; unfold madeX; rw [hi, if_pos rfl]
    · rw [if_neg e]; unfold madeX; rw [hb j e]
  · funext j
    unfold upd
    by_cases e : j = i
    · subst e; rw [if_pos rfl]; unfold madeL; rw [hi, if_pos rfl, h]
    · rw [if_neg e]; unfold madeL; rw [hb j e]
theorem made_skip {f : Nat → Nat} {n m i : Nat} (h : f i ≠ m) : madeX f n m i = madeX f n m (i + 1) ∧ madeL f m i = madeL f m (i + 1) := by
  have hb : ∀ j, madeB f m i j = madeB f m (i + 1) j := fun j => by
    unfold madeB; rw [decide_eq_decide]
    by_cases e : j = i
    · subst e; omega
    · omega
  constructor
  · funext j; unfold madeX; rw [hb j]
  · funext j; unfold madeL; rw [hb j]
theorem made_next {f : Nat → Nat} {n m j : Nat} (hj : j < n) : madeX f n m n j = madeX f n (m + 1) 0 j ∧ madeL f m n j = madeL f (m + 1) 0 j := by
  have hb : madeB f m n j = madeB f (m + 1) 0 j := by unfold madeB; rw [decide_eq_decide]; omega
  constructor
  · unfold madeX; rw [hb]
  · unfold madeL; rw [hb]
theorem made_first (f : Nat → Nat) (n j : Nat) : zeroN j = madeX f n 1 0 j ∧ zeroN j = madeL f 1 0 j := by
  have hb : madeB f 1 0 j = false := decide_eq_false (by omega)
  constructor
  · unfold madeX; rw [hb]; rfl
  · unfold madeL; rw [hb]; rfl
theorem made_last {f : Nat → Nat} {n j : Nat} (h : f j ≤ 15) : madeX f n 16 0 j = codeB f n j ∧ madeL f 16 0 j = f j := by
  by_cases h0 : 0 < f j
  · have hb : madeB f 16 0 j = true := decide_eq_true (by omega)
    constructor
    · unfold madeX; rw [hb, if_pos rfl]
    · unfold madeL; rw [hb, if_pos rfl]
  · have hb : madeB f 16 0 j = false := decide_eq_false (by omega)
    constructor
    · unfold madeX; rw [hb, if_neg (by decide)]; unfold codeB; rw [if_pos (by omega)]
    · unfold madeL; rw [hb, if_neg (by decide)]; omega
theorem st_next (f : Nat → Nat) (n m : Nat) (hm : 0 < m) : stN f n m n = stN f n (m + 1) 0 := by
  obtain ⟨k, rfl⟩ : ∃ k, m = k + 1 := ⟨m - 1, by omega⟩
  unfold stN
  rw [Nat.add_sub_cancel, Nat.add_sub_cancel]
  simp only [sumTo, inN]; omega
theorem st_le {f : Nat → Nat} {n m i : Nat} (hi : i ≤ n) (hm : 0 < m) (hm2 : m ≤ 15) (h : ∀ j, j < n → f j ≤ 15) (ha : allN f n ≤ 32768) : stN f n m i ≤ 32768 := by
  rw [allN_sum f n h] at ha
  have h1 := inN_mono f m hi
  have h2 := sumTo_mono f n hm2
  obtain ⟨k, rfl⟩ : ∃ k, m = k + 1 := ⟨m - 1, by omega⟩
  have e : sumTo f n (k + 1) = sumTo f n k + inN f (k + 1) n := rfl
  unfold stN
  rw [Nat.add_sub_cancel]
  omega
theorem wrap_small (q : Nat) (h : q ≤ 32768) : wrap64 (q : Int) % 4294967296 = (q : Int) := by unfold wrap64; omega
set_option maxRecDepth 100000 in
set_option maxHeartbeats 2000000 in
theorem made_any (w : World) (A : Option Addr) (n c : Nat) (f : Nat → Nat) (hr : RdB w w.heap.size A n f) (hn : n ≤ 1000) (h15 : ∀ j, j < n → f j ≤ 15) (ha : allN f n ≤ 32768) :
    Calls Tryz.prog 72 #[.slice A n c] w fun e w' => e = .returned (.slice (some ⟨w.heap.size, 0, none⟩) n n) ∧ Below w.heap.size w w' ∧ RowC w' w.heap.size n (codeB f n) f := by
  obtain ⟨i0, hi, hz0, hz1, hz2⟩ := info_parts infoCode
  have hmk : ∀ u : World, (Instr.makeSlice 60 (.int .i64 (n : Int)) (.int .i64 (n : Int))).run Tryz.prog u =
      .ok (.slice (some ⟨u.heap.size, 0, none⟩) n n) (u.alloc (.cells (madeCells #[.int .u32 0, .int .u8 0] (n * 2)) 96)) := fun u => by
    have h := run_make (P := Tryz.prog) u 60 96 i0 (.agg #[.int .u32 0, .int .u8 0]) Tryz.underlying60 hi hz0 .i64 .i64 (n : Int) (n : Int) (by omega) (Int.le_refl _) (by rw [hz2]; omega) (by omega)
    rw [Int.toNat_natCast] at h
    simpa [hz1, Value.cells] using h
  have HR := Lib.hid hr; have H15 := Lib.hid h15; have HA := Lib.hid ha
  clear hr h15 ha
  go_enter Tryz.func72, Tryz.ntmps72
  go_wp2
  clear hmk
  go_loopw [4, 5, 6] (fun a m _ wr => ∃ k : Nat, 1 ≤ k ∧ k ≤ 16 ∧ m = .int .i64 k ∧ a = .int .i64 (stN f n k 0 : Nat) ∧ RowC wr w.heap.size n (madeX f n k 0) (madeL f k 0) ∧ Below w.heap.size w wr) (fun _ m _ _ => 16 - (intOf m).toNat)
  case atStart =>
    exact ⟨1, Nat.le_refl _, by omega, rfl, rfl, (rowC_made w n).ext (fun j _ => (made_first f n j).1) (fun j _ => (made_first f n j).2), (Below.refl _ _).alloc (Nat.le_refl _) _⟩
  case round =>
    obtain ⟨k, hk1, hk, rfl, rfl, hrow, hb⟩ := hrel
    obtain ⟨wo, rfl⟩ : ∃ wo : World, wo = wr := ⟨_, rfl⟩
    by_cases hlt : k < 16
    · have hd : decide ((k : Int) ≤ 15) = true := by simp; omega
      have hk256 : (k : Int) % 256 = k := by omega
      have HROW := Lib.hid hrow; have HB := Lib.hid hb
      clear hrow hb
      obtain ⟨a0, ha0⟩ : ∃ a, a = stN f n k 0 := ⟨_, rfl⟩
      have HA0 := Lib.hid ha0
      rw [← ha0]
      clear ha0
      go_wp2
      go_loopw [4, 6] (fun a i wi => ∃ j : Nat, j ≤ n ∧ i = .int .i64 j ∧ a = .int .i64 (stN f n k j : Nat) ∧ RowC wi w.heap.size n (madeX f n k j) (madeL f k j) ∧ Below w.heap.size w wi) (fun _ i _ => n - (intOf i).toNat)
      case atStart => exact ⟨0, Nat.zero_le _, rfl, by rw [HA0.out], HROW.out, HB.out⟩
      case round =>
        obtain ⟨j, hj, rfl, rfl, hrow, hb⟩ := hrel
        have hst := st_le hj hk1 (by omega) H15.out HA.out
        by_cases hlt2 : j < n
        · obtain ⟨b, o, rfl, hbl, hc⟩ := (HR.out.below hb (Nat.le_refl _)).2 (by omega)
          have hcell := hc j hlt2
          clear hc
          have hf8 := HR.out.1 j
          by_cases he : f j = k
          · have hpt := pt_pos (m := k) (by omega)
            have hptl := pt_le k
            have hc1 := (hrow.cell hlt2).1
            have hc2 := (hrow.cell hlt2).2
            have hf1 := hrow.frozen (j * 2)
            have hf2 := hrow.frozen (j * 2 + 1)
            have hcode : codeB f n j = stN f n k j / pt k := by unfold codeB; rw [if_neg (by omega), he]
            have hstep : stN f n k (j + 1) = stN f n k j + pt k := by unfold stN; simp only [inN]; rw [if_pos he]; omega
            have HROW2 := Lib.hid hrow; have HB2 := Lib.hid hb; have HC := Lib.hid hcode; have HS := Lib.hid hstep; have HE := Lib.hid he
            have he2 : ((f j : Nat) : Int) = (k : Int) := by omega
            rw [he2] at hcell
            have hkk : ((k : Int) == (k : Int)) = true := by simp
            clear hrow hb hcode hstep he he2
            obtain ⟨a, hae⟩ : ∃ a, a = stN f n k j := ⟨_, rfl⟩
            obtain ⟨p, hpe⟩ : ∃ p, p = pt k := ⟨_, rfl⟩
            have HAE := Lib.hid hae; have HPE := Lib.hid hpe
            rw [← hae] at hst ⊢
            rw [← hpe] at hpt hptl
            clear hae hpe
            have hdiv : a / p ≤ 32768 := Nat.le_trans (Nat.div_le_self _ _) hst
            go_wp2_with (go_at_call 94; refine (part_any _ k (by omega)).mono ?_; rintro e w' ⟨rfl, rfl⟩; rw [← HPE.out])
            go_roundw
            case rel =>
              have hdv : wrap64 ((a : Int) / (p : Int)) % 4294967296 = ((codeB f n j : Nat) : Int) := by
                rw [HC.out, ← HAE.out, ← HPE.out, ← Int.natCast_ediv]
                exact wrap_small _ hdiv
              have hset := HROW2.out.set j (codeB f n j) k
              rw [(made_step HE.out (by omega)).1, (made_step (n := n) HE.out (by omega)).2] at hset
              refine ⟨j + 1, by omega, by go_num, val_int (by rw [HS.out, ← HAE.out, ← HPE.out]; omega), by rw [hdv]; exact hset, ?_⟩
              exact (HB2.out.setCell (Nat.le_refl _) _).setCell (Nat.le_refl _) _
            case measure => simp [intOf]; omega
          · have hstep : stN f n k (j + 1) = stN f n k j := by unfold stN; simp only [inN]; rw [if_neg he]; omega
            have hno : (((f j : Nat) : Int) == (k : Int)) = false := by simp; omega
            have hm := made_skip (n := n) he
            have HROW2 := Lib.hid hrow; have HB2 := Lib.hid hb; have HS := Lib.hid hstep; have HM := Lib.hid hm
            clear hrow hb hstep hm
            go_wp2
            go_roundw
            case rel =>
              refine ⟨j + 1, by omega, by go_num, by rw [HS.out], ?_, HB2.out⟩
              rw [← HM.out.1, ← HM.out.2]; exact HROW2.out
            case measure => simp [intOf]; omega
        · obtain rfl : j = n := by omega
          have HROW2 := Lib.hid hrow; have HB2 := Lib.hid hb
          have HN := Lib.hid (st_next f j k hk1)
          clear hrow hb hlt2 hj
          go_wp2
          go_roundw
          case rel => exact ⟨k + 1, by omega, by omega, by go_num, by rw [HN.out], HROW2.out.ext (fun i hi => (made_next hi).1) (fun i hi => (made_next (n := j) hi).2), HB2.out⟩
          case measure => simp [intOf]; omega
    · obtain rfl : k = 16 := by omega
      have HROW := Lib.hid hrow; have HB := Lib.hid hb
      clear hrow hb hlt hk
      go_wp2
      go_ret
      exact ⟨rfl, HB.out, HROW.out.ext (fun j hj => (made_last (H15.out j hj)).1) (fun j hj => (made_last (n := n) (H15.out j hj)).2)⟩
end Go.Proofs.YtjhljkhgjcckhaaGreat

namespace Go.Proofs.YtjhljkhgjcckhaaGreat
open Go.RowKit
theorem szCodeL (a b : Value) : (Tryz.prog.info? 96).map (·.size) = some [a, b].length := by kernel_rfl
theorem RowC.range {w : World} {g n : Nat} {x l : Nat → Nat} (h : RowC w g n x l) {j : Nat} (hj : j < n) : w.rangeAt g (j * 2) [.int .u32 (x j : Int), .int .u8 (l j : Int)] := by
  obtain ⟨c0, c1⟩ := h.cell hj
  intro i v hv
  rcases i with _ | _ | i
  · simp at hv; subst hv; exact c0
  · simp at hv; subst hv; exact c1
  · simp at hv
theorem codeB_lt32 {F : Nat → Nat} {n : Nat} (h15 : ∀ j, F j ≤ 15) (ha : allN F n ≤ 32768) {j : Nat} (hj : j < n) : codeB F n j < 4294967296 := by
  have h1 := fits_code hj (fun j _ => h15 j) ha
  have h2 : (2 : Nat) ^ F j ≤ 2 ^ 15 := Nat.pow_le_pow_right (by omega) (h15 j)
  have h3 : (2 : Nat) ^ 15 = 32768 := rfl
  omega
/-- What is asked of tokens that are written by codes of n and of k symbols. -/
structure TokOk (l : List Tok) (n k : Nat) : Prop where
  may : ∀ t ∈ l, mayT t = true ∧ t.x < 256
  a : ∀ t ∈ l, symA t < n
  b : ∀ t ∈ l, t.n ≠ 0 → symB t < k
theorem tok_mem {l : List Tok} {i : Nat} (h : i < l.length) : l.getD i tok0 ∈ l := by
  rw [List.getD_eq_getElem?_getD, List.getElem?_eq_getElem h]; exact List.getElem_mem h
theorem flat_take {F : Nat → Nat} {n : Nat} {G : Nat → Nat} {k : Nat} {l : List Tok} {i : Nat} (h : i < l.length) : (l.take (i + 1)).flatMap (tokP F n G k) = (l.take i).flatMap (tokP F n G k) ++ tokP F n G k (l.getD i tok0) := by
  rw [List.take_add_one, List.flatMap_append, List.getElem?_eq_getElem h, List.getD_eq_getElem?_getD, List.getElem?_eq_getElem h]
  simp
set_option maxRecDepth 100000 in
set_option maxHeartbeats 8000000 in
theorem rtoks11_any (w : World) (A2 : Option Addr) (m c2 : Nat) (l : List Tok) (A : Option Addr) (n c : Nat) (F : Nat → Nat) (B : Option Addr) (k d : Nat) (G : Nat → Nat) (hm : m = l.length) (hr : RdT w w.heap.size A2 l) (hra : RdB w w.heap.size A n F) (hrb : RdB w w.heap.size B k G)
    (hm2 : m ≤ 100000) (hn : n ≤ 1000) (hk : k ≤ 1000) (hF : ∀ j, F j ≤ 15) (hG : ∀ j, G j ≤ 15) (haF : allN F n ≤ 32768) (haG : allN G k ≤ 32768) (h256 : 256 < n) (hok : TokOk l n k) :
    Calls Tryz.prog 51 #[.slice A2 m c2, .slice A n c, .slice B k d] w fun e w' => ∃ A' n' c', e = .returned (.slice A' n' c') ∧ NuR w' w'.heap.size A' n' c' (toksP F n G k l) ∧ Below w.heap.size w w' := by
  have hma := made_any w A n c F hra hn (fun j _ => hF j) haF
  have HMA := Lib.hid hma; have HRB := Lib.hid hrb; have HT := Lib.hid hr; have HF := Lib.hid hF; have HG := Lib.hid hG; have HAF := Lib.hid haF; have HAG := Lib.hid haG; have HOK := Lib.hid hok; have HM := Lib.hid hm
  clear hma hrb hr hF hG haF haG hok hra hm
  go_enter Tryz.func51, Tryz.ntmps51
  go_wp2_with fail
  refine HMA.out.mono ?_
  rintro e w1 ⟨rfl, hb1, hrow1⟩
  obtain ⟨ga, hga⟩ : ∃ ga, ga = w.heap.size := ⟨_, rfl⟩
  rw [← hga] at hrow1
  have hmb := made_any w1 B k d G ((HRB.out.below hb1 (Nat.le_refl _)).more hb1.size) hk (fun j _ => HG.out j) HAG.out
  have HMB := Lib.hid hmb; have HB1 := Lib.hid hb1; have HR1 := Lib.hid hrow1; have HGA := Lib.hid hga
  rw [← hga]
  clear hmb hb1 hrow1 hga
  go_wp2_with fail
  refine HMB.out.mono ?_
  rintro e w2 ⟨rfl, hb2, hrow2⟩
  obtain ⟨gb, hgb⟩ : ∃ gb, gb = w1.heap.size := ⟨_, rfl⟩
  rw [← hgb] at hrow2
  rw [← hgb]
  have hra2 : RowC w2 ga n (codeB F n) F := HR1.out.below hb2 HR1.out.lt
  have hb02 : Below w.heap.size w w2 := HB1.out.trans (hb2.mono HB1.out.size)
  have HRA := Lib.hid hra2; have HRB2 := Lib.hid hrow2; have HB2 := Lib.hid hb02
  have hgal := hra2.lt
  have hgbl := hrow2.lt
  have HGAL := Lib.hid hgal; have HGBL := Lib.hid hgbl
  clear hra2 hrow2 hb02 hb2 hgal hgbl hgb HR1 HMA HMB
  go_wp2
  go_loopw [9, 10] (fun ov iv wr => ∃ (i p : Nat) (At : Option Addr) (ct : Nat), i ≤ m ∧ p ≤ 4 * i ∧ ov = .slice At p ct ∧ iv = .int .i64 (i : Int) ∧ Hid (wr.ownsRow w2.heap.size 102 2 (.slice At p ct) p (numsL ((l.take i).flatMap (tokP F n G k)))) ∧ Hid (Below w2.heap.size w2 wr)) (fun _ iv _ => m - (intOf iv).toNat)
  case atStart => exact ⟨0, 0, none, 0, Nat.zero_le _, Nat.zero_le _, rfl, rfl, Lib.hid (World.ownsRow_nil _ _ _ _), Lib.hid (Below.refl _ _)⟩
  case round =>
    obtain ⟨i, p, At, ct, hi, hp, rfl, rfl, HO, HB⟩ := hrel
    have hra := HRA.out.below HB.out HGAL.out
    have hrb := HRB2.out.below HB.out HGBL.out
    have hrt := HT.out.below (HB2.out.trans (HB.out.mono HB2.out.size)) (Nat.le_refl _)
    have hs2 : w2.heap.size ≤ wr.heap.size := HB.out.size
    by_cases hlt : i < m
    · have hlti : (i : Int) < (m : Int) := by omega
      have hil : i < l.length := by rw [← HM.out]; exact hlt
      obtain ⟨b, o, rfl, hbl, hcc⟩ := hrt.at hil
      obtain ⟨e0, e1, e2⟩ := hcc i hil
      have hin := tok_mem hil
      obtain ⟨hmy, hx⟩ := HOK.out.may _ hin
      have hsa := HOK.out.a _ hin
      have hsb := HOK.out.b _ hin
      obtain ⟨hsl, hs0, hs1⟩ := sym_lt hmy hx
      have hst := flat_take (F := F) (n := n) (G := G) (k := k) hil
      obtain ⟨⟨tx, td, tn⟩, ht⟩ : ∃ t, t = l.getD i tok0 := ⟨_, rfl⟩
      rw [← ht] at e0 e1 e2 hmy hx hsa hsb hsl hs0 hs1 hst
      dsimp only at e0 e1 e2 hx hsb hs0 hs1
      by_cases hn0 : tn = 0
      · subst hn0
        have hxn : tx < n := by have := hs0 rfl; omega
        have hrg := hra.range hxn
        have hpt : tokP F n G k ⟨tx, td, 0⟩ = [codP F n tx] := if_pos rfl
        rw [hpt] at hst
        have hcx := codeB_lt32 HF.out HAF.out hxn
        have hfx := HF.out tx
        unfold codP at hst
        obtain ⟨X, hX⟩ : ∃ X, X = codeB F n tx := ⟨_, rfl⟩
        obtain ⟨Y, hY⟩ : ∃ Y, Y = F tx := ⟨_, rfl⟩
        rw [← hX, ← hY] at hst hrg
        rw [← hX] at hcx
        rw [← hY] at hfx
        have hcd := rcode11_any wr X Y hcx (by omega)
        obtain ⟨Z, hZ⟩ : ∃ Z, Z = turnN X Y := ⟨_, rfl⟩
        rw [← hZ] at hcd hst
        have HRG := Lib.hid hrg; have HCD := Lib.hid hcd; have HST := Lib.hid hst
        clear hra hrb hrt hcc hin hmy hsa hsb hsl hs0 hs1 hst ht hrg hcd hZ hX hY hpt hcx hfx e1 hlti
        go_wp2_with (first
          | (refine wpList_load_mid rfl _ _ rfl ga (tx * 2) rfl [.int .u32 (X : Int), .int .u8 (Y : Int)] _ HRG.out Tryz.underlying96 rfl (szCodeL _ _) ?_)
          | fail)
        refine HCD.out.mono ?_
        rintro e w3 ⟨rfl, hb3⟩
        have hb23 : Below w2.heap.size w2 w3 := HB.out.trans (hb3.mono hs2)
        obtain ⟨A', c', w4, hrun, hown, hb4⟩ := run_oneN w3 w2.heap.size At p ct _ (own_keepG HO.out hb3) (Z, Y) (by omega) hb23.size
        rw [← HST.out] at hown
        have HRUN := Lib.hid hrun; have HOWN := Lib.hid hown; have HB4 := Lib.hid (hb23.trans hb4)
        clear hrun hown hb4 hb23 hb3 HST
        go_wp2_with (at_builtin; refine wpList_append_run rfl (.tmp 35) (.tmp 45) 67 rfl (.slice At p ct) (.slice (some ⟨w3.heap.size, 0, none⟩) 1 1) (.slice A' (p + 1) c') w4 rfl rfl HRUN.out ?_)
        go_roundw
        case rel => exact ⟨i + 1, p + 1, A', c', by omega, by omega, rfl, by go_num, HOWN, HB4⟩
        case measure => simp [intOf]; omega
      · have dn0 : (tn == 0) = false := by simpa using hn0
        obtain ⟨hE1, hE2, hs257, hsb30⟩ := hs1 hn0
        obtain ⟨_, _, _, _, p1, p2, p3, p4⟩ := long_there hE1
        obtain ⟨_, _, _, _, q1, q2, q3, q4⟩ := far_there hE2
        have hkb := hsb hn0
        have hsa' : symA ⟨tx, td, tn⟩ = (lgS tn).toNat := if_neg hn0
        rw [hsa'] at hsa hs257
        have hsb' : symB ⟨tx, td, tn⟩ = (frS td).toNat := rfl
        rw [hsb'] at hkb hsb30
        have hpt : tokP F n G k ⟨tx, td, tn⟩ = [codP F n (lgS tn).toNat, ((lgX tn).toNat, (lgB tn).toNat), codP G k (frS td).toNat, ((frX td).toNat, (frB td).toNat)] := if_neg hn0
        rw [hpt] at hst
        have hfS : 0 ≤ frS td := by unfold frS; split <;> omega
        have hl9 := rlong9_any wr tn
        have hf9 := fun V => rfar9_any V td
        obtain ⟨zS, hzS⟩ : ∃ z, z = (lgS tn).toNat := ⟨_, rfl⟩
        obtain ⟨zB, hzB⟩ : ∃ z, z = (lgB tn).toNat := ⟨_, rfl⟩
        obtain ⟨zX, hzX⟩ : ∃ z, z = (lgX tn).toNat := ⟨_, rfl⟩
        obtain ⟨yS, hyS⟩ : ∃ z, z = (frS td).toNat := ⟨_, rfl⟩
        obtain ⟨yB, hyB⟩ : ∃ z, z = (frB td).toNat := ⟨_, rfl⟩
        obtain ⟨yX, hyX⟩ : ∃ z, z = (frX td).toNat := ⟨_, rfl⟩
        rw [← hzS, ← hzB, ← hzX, ← hyS, ← hyB, ← hyX] at hst
        rw [← hzS] at hsa hs257
        rw [← hyS] at hkb hsb30
        rw [← hzB] at p2
        rw [← hyB] at q2
        have f1 : lgS tn = (zS : Int) := by omega
        have f2 : lgB tn = (zB : Int) := by omega
        have f3 : lgX tn = (zX : Int) := by omega
        have f4 : frS td = (yS : Int) := by omega
        have f5 : frB td = (yB : Int) := by omega
        have f6 : frX td = (yX : Int) := by omega
        rw [f1, f2, f3, hE1] at hl9
        rw [f4, f5, f6, hE2] at hf9
        have hzB5 : zB ≤ 5 := by omega
        have hyB13 : yB ≤ 13 := by omega
        have hzX32 : zX ≤ 32768 := by
          have h1 : 2 ^ zB ≤ 2 ^ 15 := Nat.pow_le_pow_right (by omega) (by omega)
          have h2 : (2 : Nat) ^ 15 = 32768 := rfl
          omega
        have hyX32 : yX ≤ 32768 := by
          have h1 : 2 ^ yB ≤ 2 ^ 15 := Nat.pow_le_pow_right (by omega) (by omega)
          have h2 : (2 : Nat) ^ 15 = 32768 := rfl
          omega
        have hcx := codeB_lt32 HF.out HAF.out hsa
        have hfx := HF.out zS
        have hcy := codeB_lt32 HG.out HAG.out hkb
        have hfy := HG.out yS
        unfold codP at hst
        have HL9 := Lib.hid hl9; have HF9 := Lib.hid hf9
        have HRA3 := Lib.hid hra; have HRB3 := Lib.hid hrb
        obtain ⟨X, hX⟩ : ∃ X, X = codeB F n zS := ⟨_, rfl⟩
        obtain ⟨Y, hY⟩ : ∃ Y, Y = F zS := ⟨_, rfl⟩
        obtain ⟨X2, hX2⟩ : ∃ X, X = codeB G k yS := ⟨_, rfl⟩
        obtain ⟨Y2, hY2⟩ : ∃ Y, Y = G yS := ⟨_, rfl⟩
        rw [← hX, ← hY, ← hX2, ← hY2] at hst
        rw [← hX] at hcx
        rw [← hY] at hfx
        rw [← hX2] at hcy
        rw [← hY2] at hfy
        have hcd := fun V => rcode11_any V X Y hcx (by omega)
        have hcd2 := fun V => rcode11_any V X2 Y2 hcy (by omega)
        obtain ⟨Z, hZ⟩ : ∃ Z, Z = turnN X Y := ⟨_, rfl⟩
        obtain ⟨Z2, hZ2⟩ : ∃ Z, Z = turnN X2 Y2 := ⟨_, rfl⟩
        rw [← hZ] at hcd hst
        rw [← hZ2] at hcd2 hst
        have HST := Lib.hid hst; have HCD := Lib.hid hcd; have HCD2 := Lib.hid hcd2
        have HX := Lib.hid hX; have HY := Lib.hid hY; have HX2 := Lib.hid hX2; have HY2 := Lib.hid hY2; have HSA := Lib.hid hsa; have HKB := Lib.hid hkb
        have e1k : Hid (wr.cell? ⟨b, o + i * 3 + 1, none⟩ = some (.int .i64 td)) := Lib.hid e1
        have hbw : b < wr.heap.size := by have := HB2.out.size; omega
        have HBW := Lib.hid hbw
        clear hbw hcc hin hmy hsa' hsb' hsb hsl hs0 hs1 ht hpt hcx hcy hst hcd hcd2 hZ hZ2 hX hY hX2 hY2 hl9 hf9 f1 f2 f3 f4 f5 f6 hzS hzB hzX hyS hyB hyX p1 p2 p3 p4 q1 q2 q3 q4 hE1 hE2 hfS hra hrb hrt hx hn0 e1 e0 hsa hkb hs257 hsb30 hfx hfy
        go_wp2_with fail
        refine HL9.out.mono ?_
        rintro e w3 ⟨rfl, hb3⟩
        have e13 : w3.cell? ⟨b, o + i * 3 + 1, none⟩ = some (.int .i64 td) := by rw [hb3.cell (p := ⟨b, o + i * 3 + 1, none⟩) HBW.out]; exact e1k.out
        have HB3 := Lib.hid hb3
        clear hb3 e2 hlti
        go_wp2_with fail
        refine (HF9.out w3).mono ?_
        rintro e w4 ⟨rfl, hb4⟩
        have hb34 : Below wr.heap.size wr w4 := HB3.out.trans (hb4.mono HB3.out.size)
        have hb24 : Below w2.heap.size w2 w4 := HB.out.trans (hb34.mono hs2)
        have hra4 := HRA3.out.below hb34 HRA3.out.lt
        have hrb4 := HRB3.out.below hb34 HRB3.out.lt
        have LA : ∀ V, (∃ p : After w4.heap.size w4, V = p.w) → V.rangeAt ga (zS * 2) [.int .u32 (X : Int), .int .u8 (Y : Int)] := by
          rintro V ⟨q, rfl⟩
          rw [HX.out, HY.out]
          exact (hra4.below q.h hra4.lt).range HSA.out
        have LB : ∀ V, (∃ p : After w4.heap.size w4, V = p.w) → V.rangeAt gb (yS * 2) [.int .u32 (X2 : Int), .int .u8 (Y2 : Int)] := by
          rintro V ⟨q, rfl⟩
          rw [HX2.out, HY2.out]
          exact (hrb4.below q.h hrb4.lt).range HKB.out
        have TA : ∀ V, Below w4.heap.size w4 V → Calls Tryz.prog 73 #[.agg #[.int .u32 (X : Int), .int .u8 (Y : Int)]] V fun e V' => e = .returned (.agg #[.int .u32 (Z : Int), .int .i64 (Y : Int)]) ∧ Below w4.heap.size w4 V' := fun V hV => (HCD.out V).mono fun e V' ⟨a, h⟩ => ⟨a, hV.trans (h.mono hV.size)⟩
        have TB : ∀ V, Below w4.heap.size w4 V → Calls Tryz.prog 73 #[.agg #[.int .u32 (X2 : Int), .int .u8 (Y2 : Int)]] V fun e V' => e = .returned (.agg #[.int .u32 (Z2 : Int), .int .i64 (Y2 : Int)]) ∧ Below w4.heap.size w4 V' := fun V hV => (HCD2.out V).mono fun e V' ⟨a, h⟩ => ⟨a, hV.trans (h.mono hV.size)⟩
        have ho4 := own_keepG HO.out hb34
        have LLA := Lib.hid LA; have LLB := Lib.hid LB; have TTA := Lib.hid TA; have TTB := Lib.hid TB; have HB24 := Lib.hid hb24; have HO4 := Lib.hid ho4
        clear LA LB TA TB hra4 hrb4 hb34 hb24 ho4 e13 hb4
        have hn20 : zS * 2 = zS * 2 := rfl
        have hzn : (zS : Int) < (n : Int) := by have := HSA.out; omega
        have hyk : (yS : Int) < (k : Int) := by have := HKB.out; omega
        go_wp2
        refine wp_split_after1 18 w4.heap.size w4 (Below.refl _ _) (by kernel_rfl) (by kernel_rfl) (.tmp 9) (.slice At p ct) rfl (some 69) rfl rfl rfl rfl (by kernel_rfl) (fun _ _ _ h => h) ?_
        simp only [List.take_succ_cons, List.take_zero, List.drop_succ_cons, List.drop_zero, Act.put, List.setIfInBounds_toArray, List.set_cons_zero, List.set_cons_succ]
        repeat (first
          | (go_big_quiet_want; with_reducible refine quiet_load_row _ _ rfl _ _ rfl _ _ LLA.out Tryz.underlying96 rfl (szCodeL _ _) ?_; go_big_quiet_on; simp only [Act.put, List.setIfInBounds_toArray, List.set_cons_zero, List.set_cons_succ])
          | (go_big_quiet_want; with_reducible refine quiet_load_row _ _ rfl _ _ rfl _ _ LLB.out Tryz.underlying96 rfl (szCodeL _ _) ?_; go_big_quiet_on; simp only [Act.put, List.setIfInBounds_toArray, List.set_cons_zero, List.set_cons_succ])
          | (go_big_quiet_want; refine quiet_build 102 #[(0, .tmp 76), (1, .tmp 77)] rfl (some 78) rfl #[.int .u32 (zX : Int), .int .i64 (zB : Int)] (by simpa [Act.eval] using built_num (zX : Int) (zB : Int)) ?_; go_big_quiet_on; simp only [Act.put, List.setIfInBounds_toArray, List.set_cons_zero, List.set_cons_succ])
          | (go_big_quiet_want; refine quiet_build 102 #[(0, .tmp 85), (1, .tmp 86)] rfl (some 87) rfl #[.int .u32 (yX : Int), .int .i64 (yB : Int)] (by simpa [Act.eval] using built_num (yX : Int) (yB : Int)) ?_; go_big_quiet_on; simp only [Act.put, List.setIfInBounds_toArray, List.set_cons_zero, List.set_cons_succ])
          | (go_big_quiet_step (first | (with_reducible exact call_after TTA.out _) | (with_reducible exact call_after TTB.out _))))
        refine wpQuiet_nil ?_
        rintro V ⟨⟨V, hV⟩, rfl⟩
        have ho5 := own_keepG HO4.out hV
        have hb25 : Below w2.heap.size w2 V := HB24.out.trans (hV.mono HB24.out.size)
        obtain ⟨A', c', w5, hrun, hown, hb5⟩ := run_moreN V w2.heap.size At p ct _ ho5 [(Z, Y), (zX, zB), (Z2, Y2), (yX, yB)] 4 rfl #[.int .u32 (Z : Int), .int .i64 (Y : Int), .int .u32 (zX : Int), .int .i64 (zB : Int), .int .u32 (Z2 : Int), .int .i64 (Y2 : Int), .int .u32 (yX : Int), .int .i64 (yB : Int)] rfl (by omega) hb25.size
        rw [← HST.out] at hown
        have HRUN := Lib.hid hrun; have HOWN := Lib.hid hown; have HB5 := Lib.hid (hb25.trans hb5)
        clear hrun hown hb5 hb25 ho5 hV
        go_wp2_with (at_builtin; refine wpList_append_run rfl (.tmp 69) (.tmp 88) 67 rfl (.slice At p ct) (.slice (some ⟨V.heap.size, 0, none⟩) 4 4) (.slice A' (p + 4) c') w5 rfl rfl HRUN.out ?_)
        go_roundw
        case rel => exact ⟨i + 1, p + 4, A', c', by omega, by omega, rfl, by go_num, HOWN, HB5⟩
        case measure => simp [intOf]; omega
    · obtain rfl : i = m := by omega
      have hlti : ¬ (i : Int) < (i : Int) := by omega
      have hrg := hra.range h256
      have hcx := codeB_lt32 HF.out HAF.out h256
      have hfx := HF.out 256
      have hst : (l.take i).flatMap (tokP F n G k) ++ [codP F n 256] = toksP F n G k l := by rw [HM.out, List.take_length]; rfl
      unfold codP at hst
      obtain ⟨X, hX⟩ : ∃ X, X = codeB F n 256 := ⟨_, rfl⟩
      obtain ⟨Y, hY⟩ : ∃ Y, Y = F 256 := ⟨_, rfl⟩
      rw [← hX, ← hY] at hst hrg
      rw [← hX] at hcx
      rw [← hY] at hfx
      have hcd := rcode11_any wr X Y hcx (by omega)
      obtain ⟨Z, hZ⟩ : ∃ Z, Z = turnN X Y := ⟨_, rfl⟩
      rw [← hZ] at hcd hst
      have HRG := Lib.hid hrg; have HCD := Lib.hid hcd; have HST := Lib.hid hst
      clear hra hrb hrt hst hrg hcd hZ hX hY hcx hfx hlt
      go_wp2_with (first
        | (refine wpList_load_mid rfl _ _ rfl ga 512 rfl [.int .u32 (X : Int), .int .u8 (Y : Int)] _ HRG.out Tryz.underlying96 rfl (szCodeL _ _) ?_)
        | fail)
      refine HCD.out.mono ?_
      rintro e w3 ⟨rfl, hb3⟩
      have hb23 : Below w2.heap.size w2 w3 := HB.out.trans (hb3.mono hs2)
      obtain ⟨A', c', w4, hrun, hown, hb4⟩ := run_oneN w3 w2.heap.size At p ct _ (own_keepG HO.out hb3) (Z, Y) (by omega) hb23.size
      rw [HST.out] at hown
      have hfin : Below w.heap.size w w4 := HB2.out.trans ((hb23.trans hb4).mono HB2.out.size)
      have HRUN := Lib.hid hrun; have HOWN := Lib.hid hown; have HB4 := Lib.hid hfin
      clear hrun hown hb4 hb23 hb3 HST hfin
      go_wp2_with (at_builtin; refine wpList_append_run rfl (.tmp 90) (.tmp 95) 67 rfl (.slice At p ct) (.slice (some ⟨w3.heap.size, 0, none⟩) 1 1) (.slice A' (p + 1) c') w4 rfl rfl HRUN.out ?_)
      go_ret
      exact ⟨A', p + 1, c', rfl, NuR.of_own HOWN.out, HB4.out⟩
end Go.Proofs.YtjhljkhgjcckhaaGreat

