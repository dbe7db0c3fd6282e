/-
  Layer 11 (block), the document's own: what holds of the runs of a dynamic block; the lengths that cost least of counted symbols; a literal of numbers.
-/
import Derived.Deep.MidRow
import Derived.Deep.SlicePairs
import Derived.Lib.SmallJoins
import Derived.BigQuiet
import Derived.Deep.DeepCutAuto
import Derived.BigRegion
import Derived.Great.BuildSlice
import Derived.RangeFuncOwn
import Derived.Test.YtjhljkhgjcckhaaGreatMhaa
import Derived.Test.YtjhljkhgjcckhaaGreatMhab
import Derived.Test.YtjhljkhgjcckhaaGreatMhac
import Derived.Test.YtjhljkhgjcckhaaGreatMhae
namespace Go.Proofs.YtjhljkhgjcckhaaGreat
open Go.RowKit
/-- A row of numbers of the call's own. -/
def RowJ (w : World) (g n : Nat) (T : Nat → Nat) : Prop := w.heap[g]? = some (.cells (tblA (fun i => ((T i : Nat) : Int)) n) 3 (0, 0))
theorem RowJ.lt {w : World} {g n : Nat} {T : Nat → Nat} (h : RowJ w g n T) : g < w.heap.size := (Array.getElem?_eq_some_iff.1 h).1
theorem RowJ.cell {w : World} {g n : Nat} {T : Nat → Nat} (h : RowJ w g n T) {i : Nat} (hi : i < n) : w.cell? ⟨g, i, none⟩ = some (.int .i64 ((T i : Nat) : Int)) := tbl_cell h hi
theorem RowJ.frozen {w : World} {g n : Nat} {T : Nat → Nat} (h : RowJ w g n T) (i : Nat) : w.frozen? ⟨g, i, none⟩ = false := frozen_of_row w g i _ _ h
theorem RowJ.below {w w' : World} {g n B : Nat} {T : Nat → Nat} (h : RowJ w g n T) (hb : Below B w w') (hg : g < B) : RowJ w' g n T := (hb.block g hg).trans h
theorem RowJ.drew {w : World} {g n : Nat} {T : Nat → Nat} (h : RowJ w g n T) : RowJ w.drew g n T := h
theorem RowJ.other {w : World} {g n : Nat} {T : Nat → Nat} (h : RowJ w g n T) {p : Addr} (hp : g ≠ p.block) (u : Value) : RowJ (w.setCell p u) g n T := (Below.heap_setCell w p u g hp).trans h
theorem RowJ.set {w : World} {g n : Nat} {T T' : Nat → Nat} (h : RowJ w g n T) (i x : Nat) (he : ∀ k, k < n → (if k = i then x else T k) = T' k) : RowJ (w.setCell ⟨g, i, none⟩ (.int .i64 (x : Int))) g n T' := by
  unfold RowJ
  rw [heap_setCell_same w g i _ _ _ h, tbl_set]
  refine congrArg (fun a => some (Obj.cells a 3 (0, 0))) (tbl_ext fun k hk => ?_)
  rw [← he k hk]
  split <;> rfl
theorem RowJ.rd {w : World} {g n : Nat} {T : Nat → Nat} (h : RowJ w g n T) : RdI w w.heap.size (some ⟨g, 0, none⟩) (frqL T n) := by
  have e : intsL (frqL T n) = tblL (fun i => ((T i : Nat) : Int)) n := by unfold intsL frqL tblL; rw [List.map_map]; rfl
  refine ⟨by rw [e, tblL_length, frqL_length, Nat.mul_one], fun _ => ⟨g, 0, rfl, h.lt, fun j u hu => ?_⟩⟩
  rw [e] at hu
  rw [Nat.zero_add, cell_of_row w g j _ _ (0, 0) h]
  simpa [tblA] using hu
theorem made_ints (n : Nat) : madeCells #[.int .i64 0] n = tblA (fun _ => 0) n := by
  apply Array.ext'
  rw [toList_madeCells_one]
  unfold tblA tblL
  apply List.ext_getElem?
  intro i
  rcases Nat.lt_or_ge i n with h | h
  · simp [h]
  · rw [List.getElem?_eq_none (by simpa using h), List.getElem?_eq_none (by simpa using h)]
theorem makeJ_ints (n : Nat) (h : n ≤ 1000) (z : Int) (hz : z = (n : Int)) : ∀ u : World, (Instr.makeSlice 116 (.int .i64 z) (.int .i64 z)).run Tryz.prog u =
      .ok (.slice (some ⟨u.heap.size, 0, none⟩) n n) (u.alloc (.cells (tblA (fun _ => 0) n) 3)) := fun u => by
  subst hz
  obtain ⟨i0, hi, hz0, hz1, hz2⟩ := info_parts infoInt
  have h := run_make (P := Tryz.prog) u 116 3 i0 (.int .i64 0) Tryz.underlying116 hi hz0 .i64 .i64 (n : Int) (n : Int) (by omega) (Int.le_refl _) (by rw [hz2]; omega) (by omega)
  rw [Int.toNat_natCast] at h
  rw [← made_ints]
  simpa [hz1, Value.cells] using h
theorem take_one {l : List Tok} {i : Nat} (h : i < l.length) : l.take (i + 1) = l.take i ++ [l.getD i tok0] := by
  rw [List.take_add_one, List.getElem?_eq_getElem h, List.getD_eq_getElem?_getD, List.getElem?_eq_getElem h]; rfl
set_option maxRecDepth 100000 in
set_option maxHeartbeats 8000000 in
theorem roften11_any (w : World) (A2 : Option Addr) (m c2 : Nat) (l : List Tok) (hm : m = l.length) (hr : RdT w w.heap.size A2 l) (hm2 : m ≤ 100000) (hok : ∀ t ∈ l, mayT t = true ∧ t.x < 256) :
    Calls Tryz.prog 76 #[.slice A2 m c2] w fun e w' => e = .returned (.tuple #[.slice (some ⟨w.heap.size, 0, none⟩) 286 286, .slice (some ⟨w.heap.size + 1, 0, none⟩) 30 30]) ∧ RowJ w' w.heap.size 286 (cntA l) ∧ RowJ w' (w.heap.size + 1) 30 (cntB l) ∧ Below w.heap.size w w' := by
  have hk1 := makeJ_ints 286 (by omega) 286 rfl
  have hk2 := makeJ_ints 30 (by omega) 30 rfl
  obtain ⟨U, hU⟩ : ∃ U, U = (w.alloc (.cells (tblA (fun _ => 0) 286) 3)).alloc (.cells (tblA (fun _ => 0) 30) 3) := ⟨_, rfl⟩
  have h0 : RowJ U w.heap.size 286 (fun _ => 0) := by rw [hU]; exact heap_alloc2_old w _ _
  have h1 : RowJ U (w.heap.size + 1) 30 (fun _ => 0) := by rw [hU]; exact heap_alloc2_new w _ _
  have hb : Below w.heap.size w U := by rw [hU]; exact ((Below.refl w.heap.size w).alloc (Nat.le_refl _) _).alloc (by simp) _
  have k1 := h0.cell (i := 256) (by omega)
  have k2 := h0.frozen 256
  have s0 : RowJ ((w.alloc (.cells ((tblA (fun _ => 0) 286).setIfInBounds 256 (.int .i64 1)) 3)).alloc (.cells (tblA (fun _ => 0) 30) 3)) w.heap.size 286 (cntA (l.take 0)) := by
    refine (heap_alloc2_old w _ _).trans ?_
    rw [tbl_set]
    refine congrArg (fun a => some (Obj.cells a 3 (0, 0))) (tbl_ext fun k hk => ?_)
    unfold cntA
    simp only [List.take_zero, List.countP_nil]
    split <;> rfl
  have s1 : RowJ ((w.alloc (.cells ((tblA (fun _ => 0) 286).setIfInBounds 256 (.int .i64 1)) 3)).alloc (.cells (tblA (fun _ => 0) 30) 3)) (w.heap.size + 1) 30 (cntB (l.take 0)) := heap_alloc2_new w _ _
  have sb : Below w.heap.size w ((w.alloc (.cells ((tblA (fun _ => 0) 286).setIfInBounds 256 (.int .i64 1)) 3)).alloc (.cells (tblA (fun _ => 0) 30) 3)) := ((Below.refl w.heap.size w).alloc (Nat.le_refl _) _).alloc (by simp) _
  rw [hU] at k1 k2
  have S0 := Lib.hid s0; have S1 := Lib.hid s1; have SB := Lib.hid sb; have HU := Lib.hid hU; have HR := Lib.hid hr; have HOK := Lib.hid hok; have HM := Lib.hid hm
  clear h0 h1 hb s0 s1 sb hU hr hok hm
  go_enter Tryz.func76, Tryz.ntmps76
  go_wp2
  go_loopw [6] (fun iv wr => ∃ i : Nat, i ≤ m ∧ iv = .int .i64 (i : Int) ∧ Hid (RowJ wr w.heap.size 286 (cntA (l.take i))) ∧ Hid (RowJ wr (w.heap.size + 1) 30 (cntB (l.take i))) ∧ Hid (Below w.heap.size w wr)) (fun iv _ => m - (intOf iv).toNat)
  case atStart =>
    exact ⟨0, Nat.zero_le _, rfl, S0, S1, SB⟩
  case round =>
    obtain ⟨i, hi, rfl, HA, HB, HBW⟩ := hrel
    by_cases hlt : i < m
    · have hlti : (i : Int) < (m : Int) := by omega
      have hil : i < l.length := by rw [← HM.out]; exact hlt
      have hrt := HR.out.below HBW.out (Nat.le_refl _)
      obtain ⟨b, o, rfl, hbl, hcc⟩ := hrt.at hil
      obtain ⟨e0, e1, e2⟩ := hcc i hil
      obtain ⟨hmy, hx⟩ := HOK.out _ (tok_mem hil)
      obtain ⟨hsl, hs0, hs1⟩ := sym_lt hmy hx
      have htk := take_one hil
      obtain ⟨⟨tx, td, tn⟩, ht⟩ : ∃ t, t = l.getD i tok0 := ⟨_, rfl⟩
      rw [← ht] at e0 e1 e2 hmy hx hsl hs0 hs1 htk
      dsimp only at e0 e1 e2 hx hs0 hs1
      have hca := cntA_one (l.take i) ⟨tx, td, tn⟩
      have hcb := cntB_one (l.take i) ⟨tx, td, tn⟩
      rw [← htk] at hca hcb
      have hle := cntA_le (l.take i)
      have hle2 := cntB_le (l.take i)
      have hlen : (l.take i).length ≤ 100000 := by rw [List.length_take]; omega
      by_cases hn0 : tn = 0
      · subst hn0
        have hsx : symA ⟨tx, td, 0⟩ = tx := if_pos rfl
        rw [hsx] at hsl hca
        have c1 := HA.out.cell hsl
        have f1 := HA.out.frozen tx
        have hv := hle tx
        obtain ⟨q, hq⟩ : ∃ q, q = cntA (l.take i) tx := ⟨_, rfl⟩
        rw [← hq] at c1 hv
        have hq2 : q ≤ 100001 := by omega
        have r1 : RowJ (wr.setCell ⟨w.heap.size, tx, none⟩ (.int .i64 ((q + 1 : Nat) : Int))) w.heap.size 286 (cntA (l.take (i + 1))) := HA.out.set tx (q + 1) fun k hk => by
          rw [hca k]
          by_cases e : k = tx
          · rw [if_pos e, if_pos e.symm, e, hq]
          · rw [if_neg e, if_neg (fun g => e g.symm)]; rfl
        have r2 : RowJ (wr.setCell ⟨w.heap.size, tx, none⟩ (.int .i64 ((q + 1 : Nat) : Int))) (w.heap.size + 1) 30 (cntB (l.take (i + 1))) := by
          have e : cntB (l.take (i + 1)) = cntB (l.take i) := by
            funext k; rw [hcb k, if_neg (fun g => g.1 rfl)]; rfl
          rw [e]
          exact HB.out.other (p := ⟨w.heap.size, tx, none⟩) (by simp) _
        have r3 := HBW.out.setCell (p := ⟨w.heap.size, tx, none⟩) (Nat.le_refl _) (.int .i64 ((q + 1 : Nat) : Int))
        have R1 := Lib.hid r1; have R2 := Lib.hid r2; have R3 := Lib.hid r3
        clear r1 r2 r3 hca hcb hle hle2 hlen hv hq htk hmy hs0 hs1 ht hsx hcc hrt e1 hbl hil
        go_wp2
        go_roundw
        case rel => exact ⟨i + 1, by omega, by go_num, R1, R2, R3⟩
        case measure => simp [intOf]; omega
      · have dn0 : (tn == 0) = false := by simpa using hn0
        obtain ⟨hE1, hE2, hs257, hsb30⟩ := hs1 hn0
        obtain ⟨_, _, _, _, p1, p2, p3, p4⟩ := long_there hE1
        obtain ⟨_, _, _, _, q1, q2, q3, q4⟩ := far_there hE2
        have hsa' : symA ⟨tx, td, tn⟩ = (lgS tn).toNat := if_neg hn0
        have hsb' : symB ⟨tx, td, tn⟩ = (frS td).toNat := rfl
        have hfS : 0 ≤ frS td := by unfold frS; split <;> omega
        have hl9 := rlong9_any wr tn
        have hf9 := fun V => rfar9_any V td
        obtain ⟨zS, hzS⟩ : ∃ z, z = (lgS tn).toNat := ⟨_, rfl⟩
        obtain ⟨yS, hyS⟩ : ∃ z, z = (frS td).toNat := ⟨_, rfl⟩
        rw [hsa', ← hzS] at hsl hs257 hca
        rw [hsb', ← hyS] at hsb30 hcb
        have f1 : lgS tn = (zS : Int) := by omega
        have f4 : frS td = (yS : Int) := by omega
        rw [f1] at hl9
        rw [f4] at hf9
        have hva := hle zS
        have hvb := hle2 yS
        have HL9 := Lib.hid hl9; have HF9 := Lib.hid hf9; have HCA := Lib.hid hca; have HCB := Lib.hid hcb
        obtain ⟨q, hq⟩ : ∃ q, q = cntA (l.take i) zS := ⟨_, rfl⟩
        obtain ⟨y, hy⟩ : ∃ y, y = cntB (l.take i) yS := ⟨_, rfl⟩
        rw [← hq] at hva
        rw [← hy] at hvb
        have hq2 : q ≤ 100001 := by omega
        have hy2 : y ≤ 100001 := by omega
        have HQ := Lib.hid hq; have HY := Lib.hid hy; have HN0 := Lib.hid hn0
        have hbw : b < wr.heap.size := by have := HBW.out.size; omega
        have HBL := Lib.hid hbw
        clear hl9 hf9 hca hcb hva hvb hq hy hle hle2 hlen htk hmy hs0 hs1 ht hcc hrt hbl hil hn0 f1 f4 hzS hyS hsa' hsb' hfS p1 p2 p3 p4 q1 q2 q3 q4 hE1 hE2 hs257 e0 hx hbw hlt
        go_wp2_with fail
        refine HL9.out.mono ?_
        rintro e w3 ⟨rfl, hb3⟩
        have e13 : w3.cell? ⟨b, o + i * 3 + 1, none⟩ = some (.int .i64 td) := by rw [hb3.cell (p := ⟨b, o + i * 3 + 1, none⟩) HBL.out]; exact e1
        have HB3 := Lib.hid hb3
        clear hb3 e2 e1
        go_wp2_with fail
        refine (HF9.out w3).mono ?_
        rintro e w4 ⟨rfl, hb4⟩
        have hb34 : Below wr.heap.size wr w4 := HB3.out.trans (hb4.mono HB3.out.size)
        have ra := HA.out.below hb34 HA.out.lt
        have rb := HB.out.below hb34 HB.out.lt
        have bw := HBW.out.trans (hb34.mono HBW.out.size)
        have c1 := ra.cell hsl
        have f1 := ra.frozen zS
        rw [← HQ.out] at c1
        have r1 : RowJ (w4.setCell ⟨w.heap.size, zS, none⟩ (.int .i64 ((q + 1 : Nat) : Int))) w.heap.size 286 (cntA (l.take (i + 1))) := ra.set zS (q + 1) fun k hk => by
          rw [HCA.out k]
          by_cases e : k = zS
          · rw [if_pos e, if_pos e.symm, e, HQ.out]
          · rw [if_neg e, if_neg (fun g => e g.symm)]; rfl
        have rb2 := rb.other (p := ⟨w.heap.size, zS, none⟩) (by simp) (.int .i64 ((q + 1 : Nat) : Int))
        have c2 := rb2.cell hsb30
        have f2 := rb2.frozen yS
        rw [← HY.out] at c2
        have r2 : RowJ ((w4.setCell ⟨w.heap.size, zS, none⟩ (.int .i64 ((q + 1 : Nat) : Int))).setCell ⟨w.heap.size + 1, yS, none⟩ (.int .i64 ((y + 1 : Nat) : Int))) (w.heap.size + 1) 30 (cntB (l.take (i + 1))) := rb2.set yS (y + 1) fun k hk => by
          rw [HCB.out k]
          by_cases e : k = yS
          · rw [if_pos e, if_pos ⟨HN0.out, e.symm⟩, e, HY.out]
          · rw [if_neg e, if_neg (fun g => e g.2.symm)]; rfl
        have r3 := r1.other (p := ⟨w.heap.size + 1, yS, none⟩) (by simp) (.int .i64 ((y + 1 : Nat) : Int))
        have r4 := (bw.setCell (p := ⟨w.heap.size, zS, none⟩) (Nat.le_refl _) (.int .i64 ((q + 1 : Nat) : Int))).setCell (p := ⟨w.heap.size + 1, yS, none⟩) (by simp) (.int .i64 ((y + 1 : Nat) : Int))
        have eq1 : ((q + 1 : Nat) : Int) = (q : Int) + 1 := by omega
        have eq2 : ((y + 1 : Nat) : Int) = (y : Int) + 1 := by omega
        rw [eq1] at c2 f2
        rw [eq1, eq2] at r2 r3 r4
        have R2 := Lib.hid r2; have R3 := Lib.hid r3; have R4 := Lib.hid r4
        have hzi : (zS : Int) < 286 := by omega
        have hyi : (yS : Int) < 30 := by omega
        clear r1 r2 r3 r4 rb2 ra rb bw hb34 hb4 e13 eq1 eq2
        go_wp2
        go_roundw
        case rel => exact ⟨i + 1, by omega, by go_num, R3, R2, R4⟩
        case measure => simp [intOf]; omega
    · obtain rfl : i = m := by omega
      have hlti : ¬ (i : Int) < (i : Int) := by omega
      have ha := HA.out
      have hb := HB.out
      rw [HM.out, List.take_length] at ha hb
      have HA2 := Lib.hid ha; have HB2 := Lib.hid hb
      clear ha hb hlt
      go_wp2
      go_ret2
      exact ⟨rfl, HA2.out, HB2.out, HBW.out⟩
end Go.Proofs.YtjhljkhgjcckhaaGreat

namespace Go.Proofs.YtjhljkhgjcckhaaGreat
open Go.RowKit Go.ChangeShapes Go.WideShapes Go.ChangeAt Go.Joins
def run0 : Int × Int := (0, 0)
def runC (r : Int × Int) : List Value := [.int .i64 r.1, .int .i64 r.2]
def runsL : List (Int × Int) → List Value
  | [] => []
  | r :: l => runC r ++ runsL l
theorem runsL_length : ∀ l, (runsL l).length = l.length * 2
  | [] => rfl
  | r :: l => by simp only [runsL, List.length_append, List.length_cons, runsL_length l]; simp [runC]; omega
theorem runsL_app : ∀ l m, runsL (l ++ m) = runsL l ++ runsL m
  | [], _ => rfl
  | r :: l, m => by simp [runsL, runsL_app l m]
theorem runsL_get : ∀ (l : List (Int × Int)) (j i : Nat), j < l.length → i < 2 → (runsL l)[j * 2 + i]? = (runC (l.getD j run0))[i]?
  | [], j, i, h, _ => absurd h (by simp)
  | r :: l, 0, i, _, hi => by
    simp only [runsL, Nat.zero_mul, Nat.zero_add]
    rw [List.getElem?_append_left (by simpa [runC] using hi)]
    rfl
  | r :: l, j + 1, i, h, hi => by
    simp only [runsL]
    rw [List.getElem?_append_right (by simp [runC]; omega)]
    have e : (j + 1) * 2 + i - (runC r).length = j * 2 + i := by simp [runC]; omega
    rw [e, runsL_get l j i (by simpa using h) hi]
    rfl
theorem infoRun : (Tryz.prog.info? 141).map (fun i => (i.zero, i.size, i.bytes)) = some (some (.agg #[.int .i64 0, .int .i64 0]), 2, 16) := by kernel_rfl
theorem szRun : (Tryz.prog.info? 141).map (·.size) = some 2 := by kernel_rfl
def RdU (w : World) (B : Nat) (A : Option Addr) (l : List (Int × Int)) : Prop := SrcL w B 2 A l.length (runsL l)
theorem RdU.below {w w' : World} {B B' : Nat} {A : Option Addr} {l : List (Int × Int)} (h : RdU w B A l) (hb : Below B' w w') (hB : B ≤ B') : RdU w' B A l := SrcL.below h hb hB
theorem RdU.more {w : World} {B B' : Nat} {A : Option Addr} {l : List (Int × Int)} (h : RdU w B A l) (hB : B ≤ B') : RdU w B' A l := SrcL.more h hB
theorem RdU.nil (w : World) (B : Nat) (A : Option Addr) : RdU w B A [] := SrcL.none_ w B 2 A
theorem RdU.of_own {w : World} {base c n : Nat} {A : Option Addr} {l : List (Int × Int)} (h : w.ownsRow base 141 2 (.slice A n c) n (runsL l)) : n = l.length ∧ RdU w w.heap.size A l := by
  have h1 := SrcL.of_own h
  have h2 := h1.1
  rw [runsL_length] at h2
  obtain rfl : n = l.length := by omega
  exact ⟨rfl, h1⟩
theorem RdU.at {w : World} {B : Nat} {A : Option Addr} {l : List (Int × Int)} (h : RdU w B A l) {k : Nat} (hk : k < l.length) : ∃ b o, A = some ⟨b, o, none⟩ ∧ b < B ∧ ∀ j, j < l.length →
    w.cell? ⟨b, o + j * 2, none⟩ = some (.int .i64 (l.getD j run0).1) ∧ w.cell? ⟨b, o + j * 2 + 1, none⟩ = some (.int .i64 (l.getD j run0).2) := by
  obtain ⟨b, o, h1, h2, h3⟩ := h.2 (by omega)
  refine ⟨b, o, h1, h2, fun j hj => ⟨?_, ?_⟩⟩
  · have := h3 (j * 2 + 0) _ ((runsL_get l j 0 hj (by omega)).trans rfl)
    simpa using this
  · have := h3 (j * 2 + 1) _ ((runsL_get l j 1 hj (by omega)).trans rfl)
    rw [show o + j * 2 + 1 = o + (j * 2 + 1) by omega]; exact this
theorem RdU.range {w : World} {B : Nat} {A : Option Addr} {l : List (Int × Int)} (h : RdU w B A l) {b o : Nat} (hA : A = some ⟨b, o, none⟩) {j : Nat} (hj : j < l.length) : w.rangeAt b (o + j * 2) (runC (l.getD j run0)) := by
  obtain ⟨b', o', h1, _, h3⟩ := h.at hj
  rw [hA] at h1
  injection h1 with h1
  injection h1 with hb ho _
  subst hb; subst ho
  obtain ⟨c0, c1⟩ := h3 j hj
  intro i v hv
  rcases i with _ | _ | i
  · simp [runC] at hv; subst hv; exact c0
  · simp [runC] at hv; subst hv; exact c1
  · simp [runC] at hv
/-- One more run behind a row of the call's own. -/
theorem run_oneU (w : World) (base : Nat) (A : Option Addr) (n c : Nat) (l : List (Int × Int)) (hown : w.ownsRow base 141 2 (.slice A n c) n (runsL l)) (r : Int × Int) (hn : n ≤ 1000000) (hbase : base ≤ w.heap.size) :
    ∃ A' c' w', (Builtin.append_ #[117, 117] 117 #[.slice A n c, .slice (some ⟨w.heap.size, 0, none⟩) 1 1]).run Tryz.prog (w.alloc (.cells #[.int .i64 r.1, .int .i64 r.2] 141)) = .ok (.slice A' (n + 1) c') w' ∧
      w'.ownsRow base 141 2 (.slice A' (n + 1) c') (n + 1) (runsL (l ++ [r])) ∧ Below base w w' := by
  have hb1 : Below base w (w.alloc (.cells #[.int .i64 r.1, .int .i64 r.2] 141)) := (Below.refl base w).alloc hbase _
  obtain ⟨A', c', w', h2, o2, b2⟩ := run_app (by_ := 16) Tryz.underlying117 infoRun rfl (by decide) (w.alloc (.cells #[.int .i64 r.1, .int .i64 r.2] 141)) base _ (.slice A n c) n _ (hown.alloc _) _ 1 1 _
    (SrcL.new w 2 1 #[.int .i64 r.1, .int .i64 r.2] 141 rfl) (fun u hu => by simp at hu; rcases hu with rfl | rfl <;> rfl) (by unfold maxLen; omega) (by omega) 117 (fun h => by cases h) (Nat.le_trans hbase hb1.size)
  refine ⟨A', c', w', h2, ?_, hb1.trans b2⟩
  rw [runsL_app]
  exact o2
/-- A slice of runs, its room too. -/
def RuR (w : World) (B : Nat) (A : Option Addr) (n c : Nat) (l : List (Int × Int)) : Prop := n = l.length ∧ RdU w B A l ∧ (A = none → c = 0) ∧ n ≤ c ∧ c ≤ maxLen
theorem RuR.below {w w' : World} {B B' n c : Nat} {A : Option Addr} {l : List (Int × Int)} (h : RuR w B A n c l) (hb : Below B' w w') (hB : B ≤ B') : RuR w' B A n c l := ⟨h.1, h.2.1.below hb hB, h.2.2⟩
theorem RuR.more {w : World} {B B' n c : Nat} {A : Option Addr} {l : List (Int × Int)} (h : RuR w B A n c l) (hB : B ≤ B') : RuR w B' A n c l := ⟨h.1, h.2.1.more hB, h.2.2⟩
theorem RuR.nil (w : World) (B : Nat) : RuR w B none 0 0 [] := ⟨rfl, RdU.nil w B none, fun _ => rfl, Nat.le_refl _, by unfold maxLen; omega⟩
theorem RuR.of_own {w : World} {base n c : Nat} {A : Option Addr} {l : List (Int × Int)} (h : w.ownsRow base 141 2 (.slice A n c) n (runsL l)) : RuR w w.heap.size A n c l := by
  obtain ⟨h1, h2⟩ := RdU.of_own h
  refine ⟨h1, h2, ?_⟩
  rcases h.2 with ⟨hv, h0⟩ | ⟨g, cap, cur, hv, _, _, k1, k2, _⟩
  · injection hv with h3 h4 h5
    exact ⟨fun _ => h5, by omega, by unfold maxLen; omega⟩
  · injection hv with h3 h4 h5
    exact ⟨(fun h => by rw [h] at h3; cases h3), by omega, by omega⟩
end Go.Proofs.YtjhljkhgjcckhaaGreat

namespace Go.Proofs.YtjhljkhgjcckhaaGreat
open Go.RowKit Go.ChangeShapes Go.WideShapes Go.ChangeAt Go.Joins
theorem decN0 {p : Prop} [Decidable p] (h : ¬ p) : decide p = false := by simp [h]
theorem decY0 {p : Prop} [Decidable p] (h : p) : decide p = true := by simp [h]
/-- A world that differs by draws alone. -/
def DrU (w u : World) : Prop := ∃ t, u = w.drewN t
theorem DrU.refl (w : World) : DrU w w := ⟨0, rfl⟩
theorem DrU.more {w u : World} (h : DrU w u) (n : Nat) : DrU w (u.drewN n) := by
  obtain ⟨t, rfl⟩ := h
  exact ⟨t + n, by rw [World.drewN_drewN]⟩
theorem DrU.rd {w u : World} (h : DrU w u) {B n : Nat} {A : Option Addr} {f : Nat → Nat} (hr : RdB w B A n f) : RdB u B A n f := by
  obtain ⟨t, rfl⟩ := h
  exact hr
theorem DrU.below {w u : World} (h : DrU w u) {g : Nat} {a : World} (hb : Below g a w) : Below g a u := by
  obtain ⟨t, rfl⟩ := h
  exact ⟨hb.os, hb.tape, hb.output, hb.size, hb.block⟩
set_option maxRecDepth 100000 in
set_option maxHeartbeats 2000000 in
theorem rsame10_any (w : World) (B : Nat) (A : Option Addr) (n c : Nat) (f : Nat → Nat) (a : Nat) (hr : RdB w B A n f) (ha : a < n) (hn : n ≤ 1000000) :
    Calls Tryz.prog 113 #[.slice A n c, .int .i64 (a : Int)] w fun e w' => e = .returned (.int .i64 ((ldsU f n a : Nat) : Int)) ∧ DrU w w' := by
  obtain ⟨L, hL⟩ : ∃ L, L = ldsU f n a := ⟨_, rfl⟩
  rw [← hL]
  have hL2 : L = 1 + leadN (f a) (dropU f n (a + 1)) := by rw [hL]; unfold ldsU; omega
  have HR := Lib.hid hr; have HL := Lib.hid hL2
  clear hr hL hL2
  go_enter Tryz.func113, Tryz.ntmps113
  go_wp2
  go_loopw [5] (fun kv wr => ∃ k : Nat, 1 ≤ k ∧ a + k ≤ n ∧ kv = .int .i64 (k : Int) ∧ Hid (L = k + leadN (f a) (dropU f n (a + k))) ∧ Hid (DrU w wr)) (fun kv _ => n - (intOf kv).toNat)
  case atStart => exact ⟨1, Nat.le_refl _, by omega, rfl, HL, Lib.hid (DrU.refl w)⟩
  case round =>
    obtain ⟨k, hk1, hkn, rfl, HK, HD⟩ := hrel
    have e2 : (a : Int) + (k : Int) = ((a + k : Nat) : Int) := by omega
    obtain ⟨Q, hQ⟩ : ∃ Q, Q = a + k := ⟨_, rfl⟩
    rw [← hQ] at e2
    by_cases hlt : Q < n
    · obtain ⟨b, o, rfl, _, hc⟩ := (HD.out.rd HR.out).2 (by omega)
      have c1 := hc a (by omega)
      have c2 := hc Q hlt
      have hQn : (Q : Int) < (n : Int) := by omega
      have hQd : decide ((Q : Int) < (n : Int)) = true := by simp; omega
      have hQd2 : decide (Q < n) = true := by simp; omega
      have han : (a : Int) < (n : Int) := by omega
      have hQ0 : (0 : Int) ≤ (Q : Int) := by omega
      have ha0 : (0 : Int) ≤ (a : Int) := by omega
      clear hc
      by_cases he : f Q = f a
      · have hee : ((f Q : Int) == (f a : Int)) = true := by simp [he]
        have hst := lead_go (f := f) (n := n) (a := a + k) (x := f a) (by omega) (by rw [← hQ]; exact he)
        have HST : Hid (L = (k + 1) + leadN (f a) (dropU f n (a + (k + 1)))) := Lib.hid (by have := HK.out; rw [hst] at this; rw [← Nat.add_assoc]; omega)
        have hfin : a + (k + 1) ≤ n := by omega
        obtain ⟨x, hx⟩ : ∃ x, x = f a := ⟨_, rfl⟩
        obtain ⟨y, hy⟩ : ∃ y, y = f Q := ⟨_, rfl⟩
        rw [← hx] at c1 hee
        rw [← hy] at c2 hee
        clear hst hQ he hx hy
        go_wp2
        go_quiet (fail)
        go_wp2
        go_roundw
        case rel => exact ⟨k + 1, by omega, hfin, by go_num, HST, Lib.hid (HD.out.more _)⟩
        case measure => simp [intOf]; omega
      · have hee : ((f Q : Int) == (f a : Int)) = false := by simp; omega
        have hst := lead_stop (f := f) (n := n) (a := a + k) (x := f a) (.inr (by rw [← hQ]; exact he))
        have HST : Hid (L = k) := Lib.hid (by have := HK.out; rw [hst] at this; omega)
        obtain ⟨x, hx⟩ : ∃ x, x = f a := ⟨_, rfl⟩
        obtain ⟨y, hy⟩ : ∃ y, y = f Q := ⟨_, rfl⟩
        rw [← hx] at c1 hee
        rw [← hy] at c2 hee
        clear hst hQ he hx hy
        go_wp2
        go_quiet (fail)
        go_wp2
        go_ret
        exact ⟨(by rw [HST.out]; rfl), HD.out.more _⟩
    · have hQd : decide ((Q : Int) < (n : Int)) = false := by simp; omega
      have hQd2 : decide (Q < n) = false := by simp; omega
      have hQ0 : (0 : Int) ≤ (Q : Int) := by omega
      have hst := lead_stop (f := f) (n := n) (a := a + k) (x := f a) (.inl (by omega))
      have HST : Hid (L = k) := Lib.hid (by have := HK.out; rw [hst] at this; omega)
      have hQb : Q ≤ 1000000 := by omega
      have hQw : IntKind.i64.wrap (Q : Int) = (Q : Int) := by rw [IntKind.wrap_i64]; omega
      clear hst hQ
      go_wp2
      go_quiet (fail)
      go_wp2
      go_ret
      exact ⟨(by rw [HST.out]; rfl), HD.out.more _⟩
theorem built_run (s x : Int) : Tryz.prog.built 141 [(0, .int .i64 s), (1, .int .i64 x)] = some #[.int .i64 s, .int .i64 x] := by kernel_rfl
theorem built_run1 (s : Int) : Tryz.prog.built 141 [(0, .int .i64 s)] = some #[.int .i64 s, .int .i64 0] := by kernel_rfl
theorem cell_run {fn : Func} {p u : Tmp} (h : fn.results = #[.cell p 141, .tmp u]) (tmps : Array Value) (w : World) (g : Nat) (cs : Array Value) (hs : cs.size = 2) (hp : tmps.getD p undef = .pointer (some ⟨g, 0, none⟩)) (ht : w.heap[g]? = some (.cells cs 141 (0, 0))) :
    (results fn tmps).run Tryz.prog w = .ok (.tuple #[.agg cs, tmps.getD u undef]) w := by
  have hp' : tmps[p]?.getD undef = .pointer (some ⟨g, 0, none⟩) := by simpa using hp
  have hl := run_loadVar_row (P := Tryz.prog) w g 141 141 cs (0, 0) _ ht Tryz.underlying141 rfl (by rw [hs]; exact szRun)
  simp [results, h, hp', asAddr, hl]
theorem below_rowU {B : Nat} {a w : World} (h : Below B a w) {g : Nat} (hp : B ≤ g) (cs : Array Value) : Below B a (w.setRow g cs) :=
  ⟨h.os, h.tape, h.output, by rw [size_setRow]; exact h.size, fun k hk => (setRow_other w g k cs (by omega)).trans (h.block k hk)⟩
theorem oneU (x y : Int) : (#[.int .i64 x, .int .i64 y] : Array Value).all (·.oneCell') = true := by simp [Value.oneCell']
set_option maxRecDepth 100000 in
set_option maxHeartbeats 4000000 in
theorem rfirst10_any (w : World) (A : Option Addr) (n c : Nat) (f : Nat → Nat) (a : Nat) (hr : RdB w w.heap.size A n f) (ha : a < n) (hn : n ≤ 1000000) :
    Calls Tryz.prog 100 #[.slice A n c, .int .i64 (a : Int)] w fun e w' => e = .returned (.tuple #[.agg #[.int .i64 (fstU f n a).1.1, .int .i64 (fstU f n a).1.2], .int .i64 ((fstU f n a).2 : Nat)]) ∧ Below w.heap.size w w' := by
  obtain ⟨R, hR⟩ : ∃ R, R = fstU f n a := ⟨_, rfl⟩
  rw [← hR]
  unfold fstU fstR at hR
  obtain ⟨L, hL⟩ : ∃ L, L = ldsU f n a := ⟨_, rfl⟩
  obtain ⟨W1, hW1⟩ : ∃ W1, W1 = w.alloc (.cells #[.int .i64 0, .int .i64 0] 141) := ⟨_, rfl⟩
  have hb1 : Below w.heap.size w W1 := by rw [hW1]; exact (Below.refl _ _).alloc (Nat.le_refl _) _
  have hs1 : W1.heap.size = w.heap.size + 1 := by rw [hW1]; simp
  have hrow : W1.heap[w.heap.size]? = some (.cells #[.int .i64 0, .int .i64 0] 141 (0, 0)) := by rw [hW1]; exact heap_alloc_new w _
  have hsa := rsame10_any W1 w.heap.size A n c f a (hr.below hb1 (Nat.le_refl _)) ha hn
  rw [← hL] at hsa hR
  have hLn : 1 ≤ L ∧ a + L ≤ n := by rw [hL]; exact lds_le ha
  obtain ⟨h, hh⟩ : ∃ h, h = w.heap.size := ⟨_, rfl⟩
  have hrb := hr.below hb1 (Nat.le_refl _)
  obtain ⟨b, o, rfl, hbh, hc⟩ := hrb.2 (by omega)
  have hf8 := hr.1 a
  have hca := hc a ha
  have hcp : 0 < a → W1.cell? ⟨b, o + (a - 1), none⟩ = some (.int .u8 (f (a - 1) : Int)) := fun h => hc (a - 1) (by omega)
  obtain ⟨x, hx⟩ : ∃ x, x = f a := ⟨_, rfl⟩
  rw [← hx] at hca hR hf8
  have HSA := Lib.hid hsa; have HB1 := Lib.hid hb1; have HS1 := Lib.hid hs1; have HROW := Lib.hid hrow; have HW1 := Lib.hid hW1; have HH := Lib.hid hh; have HRES := Lib.hid hR; have HCA := Lib.hid hca; have HCP := Lib.hid hcp
  clear hsa hb1 hs1 hrow hW1 hh hR hL hrb hc hca hcp hx hr
  have hlt0 : (a : Int) < (n : Int) := by omega
  have ha0 : (0 : Int) ≤ (a : Int) := by omega
  obtain ⟨hL1, hL2⟩ := hLn
  by_cases x0 : x = 0
  · have e0 : ((x : Int) == 0) = true := by simp [x0]
    have e0n : ((x : Int) != 0) = false := by simp [x0]
    by_cases l11 : 11 ≤ L
    · have d1 : decide ((11 : Int) ≤ (L : Int)) = true := by simp; omega
      have d1' : decide (11 ≤ L) = true := by simp; omega
      by_cases l138 : 138 < L
      · have d2 : (138 : Int) < (L : Int) := by omega
        have hres : R = ((18, 127), 138) := by rw [HRES.out, if_pos ⟨x0, l11⟩, show min L 138 = 138 by omega]; rfl
        subst hres
        clear x0
        go_enter Tryz.func100, Tryz.ntmps100
        go_wp2_with fail
        rw [← HW1.out, ← HH.out]
        refine HSA.out.mono ?_
        rintro e w2 ⟨rfl, hd⟩
        have HD := Lib.hid hd
        have x1 : w2.cell? ⟨b, o + a, none⟩ = some (.int .u8 (x : Int)) := by obtain ⟨t, rfl⟩ := hd; exact HCA.out
        have HY := Lib.hid (show w2.heap[h]? = some (.cells #[.int .i64 0, .int .i64 0] 141 (0, 0)) by obtain ⟨t, rfl⟩ := hd; rw [HH.out]; exact HROW.out)
        have HB2 := Lib.hid (show Below h w w2 by rw [HH.out]; exact hd.below HB1.out)
        clear hd
        go_wp2_with (first
          | (refine wpList_buildTo rfl 141 #[(0, .const (.int .i64 18)), (1, .tmp 22)] rfl (some 23) rfl #[.int .i64 18, .int .i64 127] ?_ ?_; focus (simpa [Act.eval] using built_run 18 127))
          | (refine wpList_store_rowTo rfl _ _ _ rfl rfl h #[.int .i64 18, .int .i64 127] rfl rfl 141 #[.int .i64 0, .int .i64 0] HY.out szRun rfl (oneU _ _) ?_))
        refine bodyPost_ret ((cell_run rfl _ _ h _ rfl rfl (setRow_heap _ _ _ _ _ _ HY.out)).trans rfl) rfl ⟨rfl, ?_⟩
        rw [← HH.out]
        exact below_rowU HB2.out (Nat.le_refl _) _
      · have d2 : ¬ (138 : Int) < (L : Int) := by omega
        obtain ⟨u, hu⟩ : ∃ u, u = L - 11 := ⟨_, rfl⟩
        have eu : (L : Int) - 11 = (u : Int) := by omega
        have hres : R = ((18, (u : Int)), L) := by rw [HRES.out, if_pos ⟨x0, l11⟩, show min L 138 = L by omega, ← hu]
        subst hres
        clear x0 hu
        go_enter Tryz.func100, Tryz.ntmps100
        go_wp2_with fail
        rw [← HW1.out, ← HH.out]
        refine HSA.out.mono ?_
        rintro e w2 ⟨rfl, hd⟩
        have HD := Lib.hid hd
        have x1 : w2.cell? ⟨b, o + a, none⟩ = some (.int .u8 (x : Int)) := by obtain ⟨t, rfl⟩ := hd; exact HCA.out
        have HY := Lib.hid (show w2.heap[h]? = some (.cells #[.int .i64 0, .int .i64 0] 141 (0, 0)) by obtain ⟨t, rfl⟩ := hd; rw [HH.out]; exact HROW.out)
        have HB2 := Lib.hid (show Below h w w2 by rw [HH.out]; exact hd.below HB1.out)
        clear hd
        go_wp2_with (first
          | (refine wpList_buildTo rfl 141 #[(0, .const (.int .i64 18)), (1, .tmp 22)] rfl (some 23) rfl #[.int .i64 18, .int .i64 (u : Int)] ?_ ?_; focus (simpa [Act.eval] using built_run 18 (u : Int)))
          | (refine wpList_store_rowTo rfl _ _ _ rfl rfl h #[.int .i64 18, .int .i64 (u : Int)] rfl rfl 141 #[.int .i64 0, .int .i64 0] HY.out szRun rfl (oneU _ _) ?_))
        refine bodyPost_ret ((cell_run rfl _ _ h _ rfl rfl (setRow_heap _ _ _ _ _ _ HY.out)).trans rfl) rfl ⟨rfl, ?_⟩
        rw [← HH.out]
        exact below_rowU HB2.out (Nat.le_refl _) _
    · have d1 : decide ((11 : Int) ≤ (L : Int)) = false := by simp; omega
      have d1' : decide (11 ≤ L) = false := by simp; omega
      by_cases l3 : 3 ≤ L
      · have d3 : decide ((3 : Int) ≤ (L : Int)) = true := by simp; omega
        have d3' : decide (3 ≤ L) = true := by simp; omega
        obtain ⟨u, hu⟩ : ∃ u, u = L - 3 := ⟨_, rfl⟩
        have eu : (L : Int) - 3 = (u : Int) := by omega
        have hres : R = ((17, (u : Int)), L) := by rw [HRES.out, if_neg (fun q => l11 q.2), if_pos ⟨x0, l3⟩, ← hu]
        subst hres
        clear x0 hu
        go_enter Tryz.func100, Tryz.ntmps100
        go_wp2_with fail
        rw [← HW1.out, ← HH.out]
        refine HSA.out.mono ?_
        rintro e w2 ⟨rfl, hd⟩
        have HD := Lib.hid hd
        have x1 : w2.cell? ⟨b, o + a, none⟩ = some (.int .u8 (x : Int)) := by obtain ⟨t, rfl⟩ := hd; exact HCA.out
        have HY := Lib.hid (show w2.heap[h]? = some (.cells #[.int .i64 0, .int .i64 0] 141 (0, 0)) by obtain ⟨t, rfl⟩ := hd; rw [HH.out]; exact HROW.out)
        have HB2 := Lib.hid (show Below h w w2 by rw [HH.out]; exact hd.below HB1.out)
        clear hd
        go_wp2_with (first
          | (refine wpList_buildTo rfl 141 #[(0, .const (.int .i64 17)), (1, .tmp 35)] rfl (some 36) rfl #[.int .i64 17, .int .i64 (u : Int)] ?_ ?_; focus (simpa [Act.eval] using built_run 17 (u : Int)))
          | (refine wpList_store_rowTo rfl _ _ _ rfl rfl h #[.int .i64 17, .int .i64 (u : Int)] rfl rfl 141 #[.int .i64 0, .int .i64 0] HY.out szRun rfl (oneU _ _) ?_))
        refine bodyPost_ret ((cell_run rfl _ _ h _ rfl rfl (setRow_heap _ _ _ _ _ _ HY.out)).trans rfl) rfl ⟨rfl, ?_⟩
        rw [← HH.out]
        exact below_rowU HB2.out (Nat.le_refl _) _
      · have d3 : decide ((3 : Int) ≤ (L : Int)) = false := by simp; omega
        have d3' : decide (3 ≤ L) = false := by simp; omega
        have hres : R = (((x : Int), 0), 1) := by rw [HRES.out, if_neg (fun q => l11 q.2), if_neg (fun q => l3 q.2), if_neg (fun q => q.1 x0)]
        subst hres
        clear x0
        go_enter Tryz.func100, Tryz.ntmps100
        go_wp2_with fail
        rw [← HW1.out, ← HH.out]
        refine HSA.out.mono ?_
        rintro e w2 ⟨rfl, hd⟩
        have HD := Lib.hid hd
        have x1 : w2.cell? ⟨b, o + a, none⟩ = some (.int .u8 (x : Int)) := by obtain ⟨t, rfl⟩ := hd; exact HCA.out
        have HY := Lib.hid (show w2.heap[h]? = some (.cells #[.int .i64 0, .int .i64 0] 141 (0, 0)) by obtain ⟨t, rfl⟩ := hd; rw [HH.out]; exact HROW.out)
        have HB2 := Lib.hid (show Below h w w2 by rw [HH.out]; exact hd.below HB1.out)
        have x2 : w2.drew.cell? ⟨b, o + a, none⟩ = some (.int .u8 (x : Int)) := x1
        clear hd
        go_wp2
        go_region
        all_goals (
          have y1 : w2.drew.cell? ⟨b, o + a, none⟩ = some (.int .u8 (x : Int)) := x1
          go_wp2_with (first
            | (refine wpList_buildTo rfl 141 #[(0, .tmp 73)] rfl (some 74) rfl #[.int .i64 (x : Int), .int .i64 0] ?_ ?_; focus (simpa [Act.eval] using built_run1 (x : Int)))
            | (refine wpList_store_rowTo rfl _ _ _ rfl rfl h #[.int .i64 (x : Int), .int .i64 0] rfl rfl 141 #[.int .i64 0, .int .i64 0] (show w2.drew.heap[h]? = _ from HY.out) szRun rfl (oneU _ _) ?_))
          refine bodyPost_ret ((cell_run rfl _ _ h _ rfl rfl (setRow_heap _ _ _ _ _ _ (show w2.drew.heap[h]? = _ from HY.out))).trans rfl) rfl ⟨rfl, ?_⟩
          rw [← HH.out]
          exact below_rowU (Below.drew HB2.out) (Nat.le_refl _) _)
  · have e0 : ((x : Int) == 0) = false := by simp; omega
    have e0n : ((x : Int) != 0) = true := by simp; omega
    have r1 : R = if x ≠ 0 ∧ prvU f a = some x ∧ 3 ≤ L then (((16 : Int), ((min L 6 - 3 : Nat) : Int)), min L 6) else (((x : Int), 0), 1) := by rw [HRES.out, if_neg (fun q => x0 q.1), if_neg (fun q => x0 q.1)]
    have HR1 := Lib.hid r1
    clear r1 HRES
    by_cases a1 : a = 0
    · have dz : decide (0 < (a : Int)) = false := by simp; omega
      have dz' : decide (0 < a) = false := by simp; omega
      have hres : R = (((x : Int), 0), 1) := by rw [HR1.out, if_neg]; rintro ⟨_, q, _⟩; unfold prvU at q; rw [if_pos a1] at q; cases q
      subst hres
      clear x0 a1
      go_enter Tryz.func100, Tryz.ntmps100
      go_wp2_with fail
      rw [← HW1.out, ← HH.out]
      refine HSA.out.mono ?_
      rintro e w2 ⟨rfl, hd⟩
      have HD := Lib.hid hd
      have x1 : w2.cell? ⟨b, o + a, none⟩ = some (.int .u8 (x : Int)) := by obtain ⟨t, rfl⟩ := hd; exact HCA.out
      have HY := Lib.hid (show w2.heap[h]? = some (.cells #[.int .i64 0, .int .i64 0] 141 (0, 0)) by obtain ⟨t, rfl⟩ := hd; rw [HH.out]; exact HROW.out)
      have HB2 := Lib.hid (show Below h w w2 by rw [HH.out]; exact hd.below HB1.out)
      have x2 : w2.drew.cell? ⟨b, o + a, none⟩ = some (.int .u8 (x : Int)) := x1
      clear hd
      go_wp2
      go_region
      all_goals (
        have y1 : w2.drew.cell? ⟨b, o + a, none⟩ = some (.int .u8 (x : Int)) := x1
        go_wp2_with (first
          | (refine wpList_buildTo rfl 141 #[(0, .tmp 73)] rfl (some 74) rfl #[.int .i64 (x : Int), .int .i64 0] ?_ ?_; focus (simpa [Act.eval] using built_run1 (x : Int)))
          | (refine wpList_store_rowTo rfl _ _ _ rfl rfl h #[.int .i64 (x : Int), .int .i64 0] rfl rfl 141 #[.int .i64 0, .int .i64 0] (show w2.drew.heap[h]? = _ from HY.out) szRun rfl (oneU _ _) ?_))
        refine bodyPost_ret ((cell_run rfl _ _ h _ rfl rfl (setRow_heap _ _ _ _ _ _ (show w2.drew.heap[h]? = _ from HY.out))).trans rfl) rfl ⟨rfl, ?_⟩
        rw [← HH.out]
        exact below_rowU (Below.drew HB2.out) (Nat.le_refl _) _)
    · have dz : decide (0 < (a : Int)) = true := by simp; omega
      have dz' : decide (0 < a) = true := by simp; omega
      obtain ⟨p, hp⟩ : ∃ p, p = a - 1 := ⟨_, rfl⟩
      have ep : (a : Int) - 1 = (p : Int) := by omega
      have hpn : (p : Int) < (n : Int) := by omega
      have hp0 : (0 : Int) ≤ (p : Int) := by omega
      have hprv : prvU f a = some (f p) := by unfold prvU; rw [if_neg a1, hp]
      have hcp := HCP.out (by omega)
      rw [← hp] at hcp
      obtain ⟨y, hy⟩ : ∃ y, y = f p := ⟨_, rfl⟩
      rw [← hy] at hprv hcp
      have HCP2 := Lib.hid hcp; have HPRV := Lib.hid hprv
      clear hcp hprv HCP hy hp a1
      by_cases hxy : y = x
      · have eyx : ((y : Int) == (x : Int)) = true := by simp [hxy]
        by_cases l3 : 3 ≤ L
        · have d3 : decide ((3 : Int) ≤ (L : Int)) = true := by simp; omega
          have d3' : decide (3 ≤ L) = true := by simp; omega
          have r1 := HR1.out
          rw [if_pos ⟨x0, by rw [HPRV.out, hxy], l3⟩] at r1
          have HR2 := Lib.hid r1
          clear r1
          by_cases l6 : 6 < L
          · have d6 : (6 : Int) < (L : Int) := by omega
            have hres : R = ((16, 3), 6) := by rw [HR2.out, show min L 6 = 6 by omega]; rfl
            subst hres
            clear x0 hxy
            go_enter Tryz.func100, Tryz.ntmps100
            go_wp2_with fail
            rw [← HW1.out, ← HH.out]
            refine HSA.out.mono ?_
            rintro e w2 ⟨rfl, hd⟩
            have HD := Lib.hid hd
            have x1 : w2.cell? ⟨b, o + a, none⟩ = some (.int .u8 (x : Int)) := by obtain ⟨t, rfl⟩ := hd; exact HCA.out
            have HY := Lib.hid (show w2.heap[h]? = some (.cells #[.int .i64 0, .int .i64 0] 141 (0, 0)) by obtain ⟨t, rfl⟩ := hd; rw [HH.out]; exact HROW.out)
            have HB2 := Lib.hid (show Below h w w2 by rw [HH.out]; exact hd.below HB1.out)
            have x2 : w2.drew.cell? ⟨b, o + a, none⟩ = some (.int .u8 (x : Int)) := x1
            have x3 : w2.cell? ⟨b, o + p, none⟩ = some (.int .u8 (y : Int)) := by obtain ⟨t, rfl⟩ := hd; exact HCP2.out
            have x4 : w2.drew.cell? ⟨b, o + p, none⟩ = some (.int .u8 (y : Int)) := x3
            clear hd
            go_wp2
            go_region
            all_goals (
              go_wp2_with (first
                | (refine wpList_buildTo rfl 141 #[(0, .const (.int .i64 16)), (1, .tmp 66)] rfl (some 67) rfl #[.int .i64 16, .int .i64 3] ?_ ?_; focus (simpa [Act.eval] using built_run 16 3))
                | (refine wpList_store_rowTo rfl _ _ _ rfl rfl h #[.int .i64 16, .int .i64 3] rfl rfl 141 #[.int .i64 0, .int .i64 0] (show w2.drew.heap[h]? = _ from HY.out) szRun rfl (oneU _ _) ?_))
              refine bodyPost_ret ((cell_run rfl _ _ h _ rfl rfl (setRow_heap _ _ _ _ _ _ (show w2.drew.heap[h]? = _ from HY.out))).trans rfl) rfl ⟨rfl, ?_⟩
              rw [← HH.out]
              exact below_rowU (Below.drew HB2.out) (Nat.le_refl _) _)
          · have d6 : ¬ (6 : Int) < (L : Int) := by omega
            obtain ⟨u, hu⟩ : ∃ u, u = L - 3 := ⟨_, rfl⟩
            have eu : (L : Int) - 3 = (u : Int) := by omega
            have hres : R = ((16, (u : Int)), L) := by rw [HR2.out, show min L 6 = L by omega, ← hu]
            subst hres
            clear x0 hxy hu
            go_enter Tryz.func100, Tryz.ntmps100
            go_wp2_with fail
            rw [← HW1.out, ← HH.out]
            refine HSA.out.mono ?_
            rintro e w2 ⟨rfl, hd⟩
            have HD := Lib.hid hd
            have x1 : w2.cell? ⟨b, o + a, none⟩ = some (.int .u8 (x : Int)) := by obtain ⟨t, rfl⟩ := hd; exact HCA.out
            have HY := Lib.hid (show w2.heap[h]? = some (.cells #[.int .i64 0, .int .i64 0] 141 (0, 0)) by obtain ⟨t, rfl⟩ := hd; rw [HH.out]; exact HROW.out)
            have HB2 := Lib.hid (show Below h w w2 by rw [HH.out]; exact hd.below HB1.out)
            have x2 : w2.drew.cell? ⟨b, o + a, none⟩ = some (.int .u8 (x : Int)) := x1
            have x3 : w2.cell? ⟨b, o + p, none⟩ = some (.int .u8 (y : Int)) := by obtain ⟨t, rfl⟩ := hd; exact HCP2.out
            have x4 : w2.drew.cell? ⟨b, o + p, none⟩ = some (.int .u8 (y : Int)) := x3
            clear hd
            go_wp2
            go_region
            all_goals (
              go_wp2_with (first
                | (refine wpList_buildTo rfl 141 #[(0, .const (.int .i64 16)), (1, .tmp 66)] rfl (some 67) rfl #[.int .i64 16, .int .i64 (u : Int)] ?_ ?_; focus (simpa [Act.eval] using built_run 16 (u : Int)))
                | (refine wpList_store_rowTo rfl _ _ _ rfl rfl h #[.int .i64 16, .int .i64 (u : Int)] rfl rfl 141 #[.int .i64 0, .int .i64 0] (show w2.drew.heap[h]? = _ from HY.out) szRun rfl (oneU _ _) ?_))
              refine bodyPost_ret ((cell_run rfl _ _ h _ rfl rfl (setRow_heap _ _ _ _ _ _ (show w2.drew.heap[h]? = _ from HY.out))).trans rfl) rfl ⟨rfl, ?_⟩
              rw [← HH.out]
              exact below_rowU (Below.drew HB2.out) (Nat.le_refl _) _)
        · have d3 : decide ((3 : Int) ≤ (L : Int)) = false := by simp; omega
          have d3' : decide (3 ≤ L) = false := by simp; omega
          have hres : R = (((x : Int), 0), 1) := by rw [HR1.out, if_neg (fun q => l3 q.2.2)]
          subst hres
          clear x0 hxy
          go_enter Tryz.func100, Tryz.ntmps100
          go_wp2_with fail
          rw [← HW1.out, ← HH.out]
          refine HSA.out.mono ?_
          rintro e w2 ⟨rfl, hd⟩
          have HD := Lib.hid hd
          have x1 : w2.cell? ⟨b, o + a, none⟩ = some (.int .u8 (x : Int)) := by obtain ⟨t, rfl⟩ := hd; exact HCA.out
          have HY := Lib.hid (show w2.heap[h]? = some (.cells #[.int .i64 0, .int .i64 0] 141 (0, 0)) by obtain ⟨t, rfl⟩ := hd; rw [HH.out]; exact HROW.out)
          have HB2 := Lib.hid (show Below h w w2 by rw [HH.out]; exact hd.below HB1.out)
          have x2 : w2.drew.cell? ⟨b, o + a, none⟩ = some (.int .u8 (x : Int)) := x1
          have x3 : w2.cell? ⟨b, o + p, none⟩ = some (.int .u8 (y : Int)) := by obtain ⟨t, rfl⟩ := hd; exact HCP2.out
          have x4 : w2.drew.cell? ⟨b, o + p, none⟩ = some (.int .u8 (y : Int)) := x3
          clear hd
          go_wp2
          go_region
          all_goals (
            have y1 : w2.drew.cell? ⟨b, o + a, none⟩ = some (.int .u8 (x : Int)) := x1
            go_wp2_with (first
              | (refine wpList_buildTo rfl 141 #[(0, .tmp 73)] rfl (some 74) rfl #[.int .i64 (x : Int), .int .i64 0] ?_ ?_; focus (simpa [Act.eval] using built_run1 (x : Int)))
              | (refine wpList_store_rowTo rfl _ _ _ rfl rfl h #[.int .i64 (x : Int), .int .i64 0] rfl rfl 141 #[.int .i64 0, .int .i64 0] (show w2.drew.heap[h]? = _ from HY.out) szRun rfl (oneU _ _) ?_))
            refine bodyPost_ret ((cell_run rfl _ _ h _ rfl rfl (setRow_heap _ _ _ _ _ _ (show w2.drew.heap[h]? = _ from HY.out))).trans rfl) rfl ⟨rfl, ?_⟩
            rw [← HH.out]
            exact below_rowU (Below.drew HB2.out) (Nat.le_refl _) _)
      · have eyx : ((y : Int) == (x : Int)) = false := by simp; omega
        have hres : R = (((x : Int), 0), 1) := by rw [HR1.out, if_neg]; rintro ⟨_, q, _⟩; rw [HPRV.out] at q; injection q with q; exact hxy q
        subst hres
        clear x0 hxy
        go_enter Tryz.func100, Tryz.ntmps100
        go_wp2_with fail
        rw [← HW1.out, ← HH.out]
        refine HSA.out.mono ?_
        rintro e w2 ⟨rfl, hd⟩
        have HD := Lib.hid hd
        have x1 : w2.cell? ⟨b, o + a, none⟩ = some (.int .u8 (x : Int)) := by obtain ⟨t, rfl⟩ := hd; exact HCA.out
        have HY := Lib.hid (show w2.heap[h]? = some (.cells #[.int .i64 0, .int .i64 0] 141 (0, 0)) by obtain ⟨t, rfl⟩ := hd; rw [HH.out]; exact HROW.out)
        have HB2 := Lib.hid (show Below h w w2 by rw [HH.out]; exact hd.below HB1.out)
        have x2 : w2.drew.cell? ⟨b, o + a, none⟩ = some (.int .u8 (x : Int)) := x1
        have x3 : w2.cell? ⟨b, o + p, none⟩ = some (.int .u8 (y : Int)) := by obtain ⟨t, rfl⟩ := hd; exact HCP2.out
        have x4 : w2.drew.cell? ⟨b, o + p, none⟩ = some (.int .u8 (y : Int)) := x3
        clear hd
        go_wp2
        go_region
        all_goals (
          have y1 : w2.drew.cell? ⟨b, o + a, none⟩ = some (.int .u8 (x : Int)) := x1
          go_wp2_with (first
            | (refine wpList_buildTo rfl 141 #[(0, .tmp 73)] rfl (some 74) rfl #[.int .i64 (x : Int), .int .i64 0] ?_ ?_; focus (simpa [Act.eval] using built_run1 (x : Int)))
            | (refine wpList_store_rowTo rfl _ _ _ rfl rfl h #[.int .i64 (x : Int), .int .i64 0] rfl rfl 141 #[.int .i64 0, .int .i64 0] (show w2.drew.heap[h]? = _ from HY.out) szRun rfl (oneU _ _) ?_))
          refine bodyPost_ret ((cell_run rfl _ _ h _ rfl rfl (setRow_heap _ _ _ _ _ _ (show w2.drew.heap[h]? = _ from HY.out))).trans rfl) rfl ⟨rfl, ?_⟩
          rw [← HH.out]
          exact below_rowU (Below.drew HB2.out) (Nat.le_refl _) _)
end Go.Proofs.YtjhljkhgjcckhaaGreat

namespace Go.Proofs.YtjhljkhgjcckhaaGreat
open Go.RowKit Go.ChangeShapes Go.WideShapes Go.ChangeAt Go.Joins
theorem own_keepU {w w' : World} {base sz n : Nat} {e : TypeId} {v : Value} {xs : List Value} (h : w.ownsRow base e sz v n xs) (hb : Below w.heap.size w w') : w'.ownsRow base e sz v n xs := by
  obtain ⟨h1, h2⟩ := h
  refine ⟨h1, ?_⟩
  rcases h2 with h2 | ⟨g, cap, cur, hv, hg, hh, r⟩
  · exact .inl h2
  · exact .inr ⟨g, cap, cur, hv, hg, (hb.block g (Array.getElem?_eq_some_iff.1 hh).1).trans hh, r⟩
set_option maxRecDepth 100000 in
set_option maxHeartbeats 2000000 in
theorem rofs10_any (w : World) (A : Option Addr) (n c : Nat) (f : Nat → Nat) (hr : RdB w w.heap.size A n f) (hn : n ≤ 1000000) (h15 : ∀ i, i < n → f i ≤ 15) :
    Calls Tryz.prog 79 #[.slice A n c] w fun e w' => ∃ A' n' c', e = .returned (.slice A' n' c') ∧ RuR w' w'.heap.size A' n' c' (ofU f n 0) ∧ Below w.heap.size w w' := by
  have HR := Lib.hid hr; have H15 := Lib.hid h15
  clear hr h15
  go_enter Tryz.func79, Tryz.ntmps79
  go_wp2
  go_loopw [3, 4] (fun ov av wr => ∃ (p a : Nat) (At : Option Addr) (ct : Nat) (pre : List (Int × Int)), a ≤ n ∧ p ≤ a ∧ ov = .slice At p ct ∧ av = .int .i64 (a : Int) ∧ Hid (pre ++ ofU f n a = ofU f n 0) ∧ Hid (wr.ownsRow w.heap.size 141 2 (.slice At p ct) p (runsL pre)) ∧ Hid (Below w.heap.size w wr)) (fun _ av _ => n - (intOf av).toNat)
  case atStart => exact ⟨0, 0, none, 0, [], Nat.zero_le _, Nat.le_refl _, rfl, rfl, Lib.hid rfl, Lib.hid (World.ownsRow_nil _ _ _ _), Lib.hid (Below.refl _ _)⟩
  case round =>
    obtain ⟨p, a, At, ct, pre, ha, hpa, rfl, rfl, HK, HO, HB⟩ := hrel
    by_cases hlt : a < n
    · have hlti : (a : Int) < (n : Int) := by omega
      have hfi := rfirst10_any wr A n c f a ((HR.out.below HB.out (Nat.le_refl _)).more HB.out.size) hlt hn
      obtain ⟨g1, g2, g3⟩ := ofU_cons (f := f) hlt H15.out
      obtain ⟨R, hR⟩ : ∃ R, R = fstU f n a := ⟨_, rfl⟩
      rw [← hR] at hfi g1 g2 g3
      obtain ⟨⟨s, x⟩, k⟩ := R
      dsimp only at hfi g1 g2 g3
      have HFI := Lib.hid hfi; have HG1 := Lib.hid g1
      clear hfi g1 hR
      go_wp2_with fail
      refine HFI.out.mono ?_
      rintro e w2 ⟨rfl, hb2⟩
      have HB2 := Lib.hid (HB.out.trans (hb2.mono HB.out.size))
      have HO2 := own_keepU HO.out hb2
      obtain ⟨W3, hW3⟩ : ∃ W3, W3 = w2.alloc (.cells #[.int .i64 s, .int .i64 x] 141) := ⟨_, rfl⟩
      have hb3 : Below w2.heap.size w2 W3 := by rw [hW3]; exact (Below.refl _ _).alloc (Nat.le_refl _) _
      have hb03 : Below w.heap.size w W3 := HB2.out.trans (hb3.mono HB2.out.size)
      obtain ⟨A', c', w', hrun, hown, hb'⟩ := run_oneU W3 w.heap.size At p ct pre (own_keepU HO2 hb3) (s, x) (by omega) hb03.size
      have hst := HK.out
      rw [HG1.out] at hst
      have HST := Lib.hid (show (pre ++ [(s, x)]) ++ ofU f n (a + k) = ofU f n 0 by rw [List.append_assoc]; exact hst)
      have hrow : W3.heap[w2.heap.size]? = some (.cells #[.int .i64 s, .int .i64 x] 141 (0, 0)) := by rw [hW3]; exact heap_alloc_new w2 _
      have y0 : W3.cell? ⟨w2.heap.size, 0, none⟩ = some (.int .i64 s) := (cell_of_row W3 _ 0 _ _ (0, 0) hrow).trans rfl
      have y1 : W3.cell? ⟨w2.heap.size, 1, none⟩ = some (.int .i64 x) := (cell_of_row W3 _ 1 _ _ (0, 0) hrow).trans rfl
      have HRUN := Lib.hid hrun; have HOWN := Lib.hid hown; have HB' := Lib.hid (hb03.trans hb'); have HROW := Lib.hid hrow; have HW3 := Lib.hid hW3
      have hq : p + 1 ≤ a + k := by omega
      clear hrun hown hb' hst hb2 HO2 hb3 hb03 hrow hW3 y0 y1
      obtain ⟨q, hqe⟩ : ∃ q, q = a + k := ⟨_, rfl⟩
      have eq : (a : Int) + (k : Int) = (q : Int) := by omega
      rw [← hqe] at g3 hq HST
      clear hqe
      go_wp2_with (first
        | (rw [← HW3.out]; refine wpList_load_row rfl _ _ rfl w2.heap.size rfl _ #[.int .i64 s, .int .i64 x] (0, 0) _ HROW.out Tryz.underlying141 rfl szRun ?_)
        | (at_builtin; refine wpList_append_run rfl (.tmp 17) (.tmp 19) 117 rfl (.slice At p ct) (.slice (some ⟨W3.heap.size, 0, none⟩) 1 1) (.slice A' (p + 1) c') w' rfl rfl HRUN.out ?_))
      go_roundw
      case rel => exact ⟨p + 1, q, A', c', pre ++ [(s, x)], g3, hq, rfl, by go_num, HST, HOWN, HB'⟩
      case measure => simp [intOf]; omega
    · obtain rfl : a = n := by omega
      have hlti : ¬ (a : Int) < (a : Int) := by omega
      have hk := HK.out
      rw [ofU_end (Nat.le_refl _), List.append_nil] at hk
      have hout := RuR.of_own HO.out
      rw [hk] at hout
      have HOUT := Lib.hid hout
      clear hout hk
      go_wp2
      go_ret
      exact ⟨At, p, ct, rfl, HOUT.out, HB.out⟩
set_option maxRecDepth 100000 in
set_option maxHeartbeats 1000000 in
theorem rbits10_any (w : World) (s : Int) : Calls Tryz.prog 80 #[.int .i64 s] w fun e w' => e = .returned (.tuple #[.int .i64 (bitV s), .int .i64 (bitE s)]) ∧ w = w' := by
  by_cases y0 : s < 0
  · have e1 : bitV s = 0 := by unfold bitV; rw [if_neg (by omega)]
    have e2 : bitE s = 2 := by unfold bitE; rw [if_neg (by omega)]
    rw [e1, e2]
    have d0 : decide (s < 0) = true := decY0 y0
    clear e1 e2
    go_enter Tryz.func80, Tryz.ntmps80
    go_wp2
    go_ret2
    exact ⟨rfl, rfl⟩
  have d0 : decide (s < 0) = false := decN0 y0
  by_cases y1 : 18 < s
  · have e1 : bitV s = 0 := by unfold bitV; rw [if_neg (by omega)]
    have e2 : bitE s = 2 := by unfold bitE; rw [if_neg (by omega)]
    rw [e1, e2]
    have d1 : decide (18 < s) = true := decY0 y1
    clear e1 e2
    go_enter Tryz.func80, Tryz.ntmps80
    go_wp2
    go_ret2
    exact ⟨rfl, rfl⟩
  have d1 : decide (18 < s) = false := decN0 y1
  by_cases y2 : s = 16
  · have e1 : bitV s = 2 := by unfold bitV bitsR; rw [if_pos (by omega), if_pos y2]; rfl
    have e2 : bitE s = 0 := by unfold bitE; rw [if_pos (by omega)]
    rw [e1, e2]
    have d2 : (s == 16) = true := by simp [y2]
    clear y2 y0 y1
    clear e1 e2
    go_enter Tryz.func80, Tryz.ntmps80
    go_wp2
    go_ret2
    exact ⟨rfl, rfl⟩
  have d2 : (s == 16) = false := by simp [y2]
  by_cases y3 : s = 17
  · have e1 : bitV s = 3 := by unfold bitV bitsR; rw [if_pos (by omega), if_neg y2, if_pos y3]; rfl
    have e2 : bitE s = 0 := by unfold bitE; rw [if_pos (by omega)]
    rw [e1, e2]
    have d3 : (s == 17) = true := by simp [y3]
    clear y3 y2
    clear e1 e2
    go_enter Tryz.func80, Tryz.ntmps80
    go_wp2
    go_ret2
    exact ⟨rfl, rfl⟩
  have d3 : (s == 17) = false := by simp [y3]
  by_cases y4 : s = 18
  · have e1 : bitV s = 7 := by unfold bitV bitsR; rw [if_pos (by omega), if_neg y2, if_neg y3, if_pos y4]; rfl
    have e2 : bitE s = 0 := by unfold bitE; rw [if_pos (by omega)]
    rw [e1, e2]
    have d4 : (s == 18) = true := by simp [y4]
    clear y4 y3 y2
    clear e1 e2
    go_enter Tryz.func80, Tryz.ntmps80
    go_wp2
    go_ret2
    exact ⟨rfl, rfl⟩
  have d4 : (s == 18) = false := by simp [y4]
  have e1 : bitV s = 0 := by unfold bitV bitsR; rw [if_pos (by omega), if_neg y2, if_neg y3, if_neg y4]; rfl
  have e2 : bitE s = 0 := by unfold bitE; rw [if_pos (by omega)]
  rw [e1, e2]
  clear e1 e2
  go_enter Tryz.func80, Tryz.ntmps80
  go_wp2
  go_ret2
  exact ⟨rfl, rfl⟩
end Go.Proofs.YtjhljkhgjcckhaaGreat

namespace Go.Proofs.YtjhljkhgjcckhaaGreat
open Go.RowKit
set_option maxRecDepth 100000 in
/-- The same, and what became of the memory, block by block. -/
theorem run_app_g {T E : TypeId} {z : Value} {sz by_ : Nat} (hT : Tryz.prog.underlying T = some (.slice E)) (hI : (Tryz.prog.info? E).map (fun i => (i.zero, i.size, i.bytes)) = some (some z, sz, by_)) (hz : z.cells.size = sz) (hsz : 0 < sz)
    (w : World) (base B : Nat) (v0 : Value) (n : Nat) (xs : List Value) (hown : w.ownsRow base E sz v0 n xs) (A : Option Addr) (m c : Nat) (ys : List Value) (hr : SrcL w B sz A m ys) (h1 : ∀ u ∈ ys, u.oneCell' = true)
    (hnm : n + m ≤ maxLen) (hby : (n + m) * by_ ≤ 140737488355328) (ty : TypeId) (hA : A = none → c = 0) (hbase : base ≤ w.heap.size) :
    ∃ A' c' w', (Builtin.append_ #[T, T] ty #[v0, .slice A m c]).run Tryz.prog w = .ok (.slice A' (n + m) c') w' ∧ w'.ownsRow base E sz (.slice A' (n + m) c') (n + m) (xs ++ ys) ∧ w.grownBy w' v0.ownBlock := by
  obtain ⟨i0, hi, hz0, hz1, hz2⟩ := info_parts hI
  have key : ∃ v' w', (Builtin.append_ #[T, T] ty #[v0, .slice A m c]).run Tryz.prog w = .ok v' w' ∧ w'.ownsRow base E sz v' (n + m) (xs ++ ys) ∧ w.grownBy w' v0.ownBlock := by
    rcases A with _ | ad
    · have h0 : m = 0 := by
        rcases Nat.eq_zero_or_pos m with h | h
        · exact h
        · obtain ⟨b, o, h, _⟩ := hr.2 h; cases h
      subst h0
      obtain rfl := hA rfl
      have hy : ys = [] := List.length_eq_zero_iff.1 (by have := hr.1; omega)
      subst hy
      refine ⟨v0, w, run_append_owned_none (P := Tryz.prog) (w := w) base T ty E i0 sz hT hi v0 n _ hown, ?_, World.grownBy.refl _ _⟩
      simpa using hown
    · have hcells : ∀ j u, ys[j]? = some u → w.cell? (ad.add j) = some u := by
        intro j u hu
        have hm : 0 < m := by
          rcases Nat.eq_zero_or_pos m with h | h
          · have hy : ys = [] := List.length_eq_zero_iff.1 (by have := hr.1; rw [h] at this; omega)
            rw [hy] at hu; cases hu
          · exact h
        obtain ⟨b, o, h, _, hc⟩ := hr.2 hm
        injection h with h
        subst h
        have e : (⟨b, o, none⟩ : Addr).add j = ⟨b, o + j, none⟩ := by unfold Addr.add; split <;> simp_all
        rw [e]; exact hc j u hu
      obtain ⟨v', w', h1, h2, h3, _, _⟩ := run_append_own_at (P := Tryz.prog) w base T ty E i0 z sz by_ hT hi hz0 hz1 hz2 hz hsz v0 n xs hown ad m c ys hr.1 hcells h1 hnm hby hbase
      exact ⟨v', w', h1, h2, h3⟩
  obtain ⟨v', w', h1, h2, h3⟩ := key
  have hv : ∃ A' c', v' = .slice A' (n + m) c' := by
    rcases h2.2 with ⟨rfl, h⟩ | ⟨g, cap, cur, rfl, _⟩
    · exact ⟨none, 0, by rw [h]⟩
    · exact ⟨_, _, rfl⟩
  obtain ⟨A', c', rfl⟩ := hv
  exact ⟨A', c', w', h1, h2, h3⟩
end Go.Proofs.YtjhljkhgjcckhaaGreat

namespace Go.Proofs.YtjhljkhgjcckhaaGreat
open Go.RowKit
theorem ofR_ok : ∀ d prev l, (∀ x ∈ l, x ≤ 15) → ∀ r ∈ ofR d prev l, 0 ≤ r.1 ∧ r.1 ≤ 18 ∧ 0 ≤ r.2 ∧ r.2 < (2 ^ bitsR r.1 : Nat)
  | 0, _, _, _, r, hr => by simp [ofR] at hr
  | _ + 1, _, [], _, r, hr => by simp [ofR] at hr
  | d + 1, prev, x :: l, h, r, hr => by
    simp only [ofR, List.mem_cons] at hr
    rcases hr with rfl | hr
    · obtain ⟨_, _, _, h4, _⟩ := fstR_spec prev x (leadN x l + 1) (h x List.mem_cons_self) (by omega)
      omega
    · exact ofR_ok d (some x) _ (fun y hy => h y (List.mem_of_mem_drop hy)) r hr
theorem ofR_len : ∀ d prev l, (∀ x ∈ l, x ≤ 15) → (ofR d prev l).length ≤ l.length
  | 0, _, _, _ => by simp [ofR]
  | _ + 1, _, [], _ => by simp [ofR]
  | d + 1, prev, x :: l, h => by
    obtain ⟨h1, h2, _⟩ := fstR_spec prev x (leadN x l + 1) (h x List.mem_cons_self) (by omega)
    have ih := ofR_len d (some x) ((x :: l).drop (fstR prev x (leadN x l + 1)).2) (fun y hy => h y (List.mem_of_mem_drop hy))
    have hl := leadN_le x l
    simp only [ofR, List.length_cons]
    rw [List.length_drop, List.length_cons] at ih
    omega
theorem dropU_mem {f : Nat → Nat} {n a : Nat} (h : ∀ i, i < n → f i ≤ 15) : ∀ x ∈ dropU f n a, x ≤ 15 := by
  intro x hx
  unfold dropU at hx
  have hx := List.mem_of_mem_drop hx
  rw [List.mem_map] at hx
  obtain ⟨i, hi, rfl⟩ := hx
  exact h i (List.mem_range.1 hi)
theorem ofU_ok {f : Nat → Nat} {n : Nat} (h : ∀ i, i < n → f i ≤ 15) : ∀ r ∈ ofU f n 0, 0 ≤ r.1 ∧ r.1 ≤ 18 ∧ 0 ≤ r.2 ∧ r.2 < (2 ^ bitsR r.1 : Nat) := ofR_ok _ _ _ (dropU_mem h)
theorem ofU_len {f : Nat → Nat} {n : Nat} (h : ∀ i, i < n → f i ≤ 15) : (ofU f n 0).length ≤ n := by
  have := ofR_len (n - 0) (prvU f 0) (dropU f n 0) (dropU_mem h)
  rw [dropU_length] at this
  exact this
theorem bitsR_le' (s : Int) : bitsR s ≤ 7 := by
  unfold bitsR
  split
  · omega
  · split
    · omega
    · split <;> omega
/-- A run of a dynamic block is one of a length's symbol. -/
theorem run_ok (l : List Tok) (hl : l.length ≤ 1000000) : (∀ r ∈ runD l, 0 ≤ r.1 ∧ r.1 ≤ 18 ∧ 0 ≤ r.2 ∧ r.2 < 128 ∧ r.2 < (2 ^ bitsR r.1 : Nat)) ∧ (runD l).length ≤ 316 := by
  obtain ⟨_, _, _, _, _, a2, _, b2, _⟩ := dyn_ok l hl
  have h := ofU_ok (f := allF l) (n := nA l + nB l) (fun i _ => all_le l hl i)
  refine ⟨fun r hr => ?_, ?_⟩
  · obtain ⟨h1, h2, h3, h4⟩ := h r hr
    have h5 : (2 ^ bitsR r.1 : Nat) ≤ 2 ^ 7 := Nat.pow_le_pow_right (by omega) (by unfold bitsR; split; omega; split; omega; split <;> omega)
    have h6 : (2 : Nat) ^ 7 = 128 := rfl
    exact ⟨h1, h2, h3, by omega, h4⟩
  · have := ofU_len (f := allF l) (n := nA l + nB l) (fun i _ => all_le l hl i)
    unfold runD; omega
theorem ord_lt : ∀ i, ordN i < 19 := by
  intro i
  rcases Nat.lt_or_ge i 19 with h | h
  · have : ∀ j, j < 19 → ordN j < 19 := by decide
    exact this i h
  · unfold ordN
    rw [List.getD_eq_getElem?_getD, List.getElem?_eq_none (by simpa using h)]
    show 0 < 19; omega
/-- The lengths that cost least of counted symbols. -/
theorem madeJ_any (w : World) (g n : Nat) (c : Nat → Nat) (L : Nat) (hrow : RowJ w g n c) (hL1 : 1 ≤ L) (hL2 : L ≤ 15) (hn : n ≤ 320) (hn2 : n ≤ 2 ^ L) (hc : ∀ i, c i ≤ 1073741824) :
    Calls Tryz.prog 78 #[.slice (some ⟨g, 0, none⟩) n n, .int .i64 (L : Int)] w fun e w' => ∃ g', e = .returned (.slice (some ⟨g', 0, none⟩) n n) ∧ w.heap.size ≤ g' ∧ Below w.heap.size w w' ∧ RowW w' g' n (lenM c n L) := by
  obtain ⟨_, _, _, e, h5⟩ := lenM_may (c := c) (n := n) (most := L) hL1 hL2 hn hn2 hc
  rw [e]
  exact made4_any w (some ⟨g, 0, none⟩) n (frqL c n) hrow.rd L hL1 hL2 n (frqL_length c n).symm (by rw [frqL_length]; exact h5) (by omega) (fun j hj => by
    rw [frqL_length] at hj
    rw [frqL_get c hj]
    have := hc j
    omega)
theorem own_litN (w : World) (m : List (Nat × Nat)) (k : Nat) (hk : k = m.length) (hk2 : k ≤ 1000) (cs : Array Value) (hcs : cs.toList = numsL m) : (w.alloc (.cells cs 102)).ownsRow w.heap.size 102 2 (.slice (some ⟨w.heap.size, 0, none⟩) k k) k (numsL m) := by
  subst hk
  have hsz : cs.size = m.length * 2 := by rw [← Array.length_toList, hcs, numsL_length]
  refine ⟨numsL_length m, .inr ⟨w.heap.size, m.length, cs, rfl, Nat.le_refl _, heap_alloc_new w _, Nat.le_refl _, by unfold maxLen; omega, hsz, ?_⟩⟩
  rw [hcs, List.take_of_length_le (by rw [numsL_length]; exact Nat.le_refl _)]
theorem ownsRow_base {w : World} {base base' sz n : Nat} {e : TypeId} {v : Value} {xs : List Value} (h : w.ownsRow base e sz v n xs) (hb : base' ≤ base) : w.ownsRow base' e sz v n xs := by
  obtain ⟨h1, h2⟩ := h
  refine ⟨h1, ?_⟩
  rcases h2 with h2 | ⟨g, cap, cur, hv, hg, r⟩
  · exact .inl h2
  · exact .inr ⟨g, cap, cur, hv, Nat.le_trans hb hg, r⟩
theorem run_mem {l : List (Int × Int)} {i : Nat} (h : i < l.length) : l.getD i run0 ∈ l := by
  rw [List.getD_eq_getElem?_getD, List.getElem?_eq_getElem h]; exact List.getElem_mem h
theorem runs_take {l : List (Int × Int)} {i : Nat} (h : i < l.length) : l.take (i + 1) = l.take i ++ [l.getD i run0] := by
  rw [List.take_add_one, List.getElem?_eq_getElem h, List.getD_eq_getElem?_getD, List.getElem?_eq_getElem h]; rfl
theorem runP_take {F : Nat → Nat} {l : List (Int × Int)} {i : Nat} (h : i < l.length) : (l.take (i + 1)).flatMap (runP F) = (l.take i).flatMap (runP F) ++ runP F (l.getD i run0) := by
  rw [runs_take h, List.flatMap_append]; simp
theorem own_typeG {w : World} {base sz n h : Nat} {e t : TypeId} {v : Value} {xs : List Value} {cs : Array Value} (ho : w.ownsRow base e sz v n xs) (hh : w.heap[h]? = some (.cells cs t (0, 0))) (hne : (e == t) = false) : v.ownBlock ≠ some h := fun hk => by
  rcases ho.2 with ⟨rfl, _⟩ | ⟨g, cap, cur, rfl, _, hg, _⟩
  · simp [Value.ownBlock] at hk
  · simp [Value.ownBlock] at hk
    subst hk
    rw [hg] at hh
    injection hh with hh
    injection hh with _ h2 _
    rw [h2] at hne; simp at hne
/-- More numbers behind a row of the call's own, and what is kept. -/
theorem run_moreN_g (w : World) (base : Nat) (A : Option Addr) (n c : Nat) (l : List (Nat × Nat)) (hown : w.ownsRow base 102 2 (.slice A n c) n (numsL l)) (m : List (Nat × Nat)) (k : Nat) (hk : k = m.length) (cs : Array Value) (hcs : cs.toList = numsL m) (hn : n + k ≤ 1000000) (hbase : base ≤ w.heap.size) :
    ∃ A' c' w', (Builtin.append_ #[67, 67] 67 #[.slice A n c, .slice (some ⟨w.heap.size, 0, none⟩) k k]).run Tryz.prog (w.alloc (.cells cs 102)) = .ok (.slice A' (n + k) c') w' ∧
      w'.ownsRow base 102 2 (.slice A' (n + k) c') (n + k) (numsL (l ++ m)) ∧ Below base w w' ∧ (∀ j, j < w.heap.size → (Value.slice A n c).ownBlock ≠ some j → w'.heap[j]? = w.heap[j]?) := by
  subst hk
  have hb1 : Below base w (w.alloc (.cells cs 102)) := (Below.refl base w).alloc hbase _
  have hsz : cs.size = m.length * 2 := by rw [← Array.length_toList, hcs, numsL_length]
  have ho1 := hown.alloc (.cells cs 102)
  obtain ⟨A', c', w', h2, o2, b2⟩ := run_app_g (by_ := 16) Tryz.underlying67 infoNum rfl (by decide) (w.alloc (.cells cs 102)) base _ (.slice A n c) n _ ho1 _ m.length m.length _
    (SrcL.new w 2 m.length cs 102 hsz) (fun u hu => by rw [hcs] at hu; exact numsL_one m u hu) (by unfold maxLen; omega) (by omega) 67 (fun h => by cases h) (Nat.le_trans hbase hb1.size)
  refine ⟨A', c', w', h2, ?_, hb1.trans ((Below.refl base _).grown b2 (Nat.le_trans hbase hb1.size) (own_geS ho1)), fun j hj hne => ?_⟩
  · rw [numsL_app, ← hcs]
    exact o2
  · refine (b2.block j (by simp; omega) (fun e => hne e.symm)).trans ?_
    exact (Below.refl w.heap.size w).alloc (Nat.le_refl _) (.cells cs 102) |>.block j hj
end Go.Proofs.YtjhljkhgjcckhaaGreat

