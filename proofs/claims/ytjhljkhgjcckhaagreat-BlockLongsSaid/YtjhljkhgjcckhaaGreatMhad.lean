/-
  Layer 9 (reach): the document's own answers, whole.
-/
import Derived.Deep.RegionLaw
import Derived.Deep.MidRow
import Derived.Shelf.Abstract
import Derived.Great.BuildSlice
import Derived.Laws.Tables
import Derived.StillTailTactics
import Derived.Deep.DeepCutAuto
import Derived.Deep.WholeRow
import Derived.BigRegion
import Derived.BigQuiet
import Derived.Test.YtjhljkhgjcckhaaGreatMhaa
import Derived.Test.YtjhljkhgjcckhaaGreatMhac
namespace Go.Proofs.YtjhljkhgjcckhaaGreat
open Go.RowKit
theorem step_call {ops : Array Oper} {o : Oper} {a : Act} {w : World} {K : Act → World → Prop} {Q : Exit → Act → World → Prop} {E : Prop} (hgd : o.guard = none) (f : FuncId) (xs : Array Operand) (ts : Array TypeId)
    (ho : o.op = .call { callee := .value (.func f), args := xs, argTypes := ts }) (eg : ∀ args w, (callFunc f args).run Tryz.prog w = .ok (.enter f args) w) (args : Array Value) (hx : xs.map a.eval = args) {R : Ending → World → Prop} (hc : Calls Tryz.prog f args w R)
    (h : ∀ e w', R e w' → ∃ v, e = .returned v ∧ K (a.put o.dst v) w') :
    if Region.wanted o (yielded ops a.tmps) = true then Oper.wp Tryz.prog o a w K Q else E := by
  have hw : Region.wanted o (yielded ops a.tmps) = true := by simp [Region.wanted, hgd]
  rw [if_pos hw]
  unfold Oper.wp
  have hrun : (execOp a.eval o).run Tryz.prog w = .ok (.enter f args) w := by
    simp [execOp, ho, resolve, invoke, hx, go_sem, eg, Deferred.ofValue]
  rw [hrun]
  refine hc.mono fun e w' hr => ?_
  obtain ⟨v, rfl, hk⟩ := h e w' hr
  exact hk
/-- The same of a guarded operation. -/
theorem step_call_on {ops : Array Oper} {o : Oper} {a : Act} {w : World} {K : Act → World → Prop} {Q : Exit → Act → World → Prop} {E : Prop} (hw : Region.wanted o (yielded ops a.tmps) = true) (f : FuncId) (xs : Array Operand) (ts : Array TypeId)
    (ho : o.op = .call { callee := .value (.func f), args := xs, argTypes := ts }) (eg : ∀ args w, (callFunc f args).run Tryz.prog w = .ok (.enter f args) w) (args : Array Value) (hx : xs.map a.eval = args) {R : Ending → World → Prop} (hc : Calls Tryz.prog f args w R)
    (h : ∀ e w', R e w' → ∃ v, e = .returned v ∧ K (a.put o.dst v) w') :
    if Region.wanted o (yielded ops a.tmps) = true then Oper.wp Tryz.prog o a w K Q else E := by
  rw [if_pos hw]
  unfold Oper.wp
  have hrun : (execOp a.eval o).run Tryz.prog w = .ok (.enter f args) w := by
    simp [execOp, ho, resolve, invoke, hx, go_sem, eg, Deferred.ofValue]
  rw [hrun]
  refine hc.mono fun e w' hr => ?_
  obtain ⟨v, rfl, hk⟩ := h e w' hr
  exact hk
/-- A whole array or struct, read as one step of such a statement. -/
theorem step_row {ops : Array Oper} {o : Oper} {a : Act} {w : World} {K : Act → World → Prop} {Q : Exit → Act → World → Prop} {E : Prop} (hgd : o.guard = none) (ty : TypeId) (x : Operand) (ho : o.op = .load ty x) (b k : Nat) (hx : a.eval x = .pointer (some ⟨b, k, none⟩)) (cs : List Value) (d : TypeDesc)
    (hS : w.rangeAt b k cs) (hu : Tryz.prog.underlying ty = some d) (hd : d.isRow = true) (hi : (Tryz.prog.info? ty).map (·.size) = some cs.length) (h : K (a.put o.dst (.agg cs.toArray)) w) :
    if Region.wanted o (yielded ops a.tmps) = true then Oper.wp Tryz.prog o a w K Q else E := by
  rw [if_pos (by simp [Region.wanted, hgd])]
  unfold Oper.wp execOp
  simp only [ho, hx, Instr.loadAt, Instr.sureAddr, Sem.run_bind, Sem.run_pure, Result.andThen_ok, run_loadVar_mid w b k ty cs d hS hu hd hi]
  exact h
theorem box_set2 {w : World} {X : Nat} {x y p q : Value} (h0 : w.cell? ⟨X, 0, none⟩ = some x) (h1 : w.cell? ⟨X, 1, none⟩ = some y) :
    ((w.setCell ⟨X, 0, none⟩ p).setCell ⟨X, 1, none⟩ q).cell? ⟨X, 0, none⟩ = some p ∧ ((w.setCell ⟨X, 0, none⟩ p).setCell ⟨X, 1, none⟩ q).cell? ⟨X, 1, none⟩ = some q :=
  ⟨(World.cell?_setCell_other _ _ _ _ (by simp)).trans (World.cell?_setCell_same _ _ _ h0), World.cell?_setCell_same _ _ _ ((World.cell?_setCell_other _ _ _ _ (by simp)).trans h1)⟩
end Go.Proofs.YtjhljkhgjcckhaaGreat

namespace Go.Proofs.YtjhljkhgjcckhaaGreat
open Go.RowKit
theorem step_store_row {ops : Array Oper} {o : Oper} {a : Act} {w : World} {K : Act → World → Prop} {Q : Exit → Act → World → Prop} {E : Prop} (hgd : o.guard = none) (ty : TypeId) (x y : Operand) (ho : o.op = .store ty x y) (hdst : o.dst = none)
    (g : Nat) (cells : Array Value) (hx : a.eval x = .pointer (some ⟨g, 0, none⟩)) (hy : a.eval y = .agg cells)
    (t : TypeId) (old : Array Value) (hg : w.heap[g]? = some (.cells old t (0, 0))) (hi : (Tryz.prog.info? ty).map (·.size) = some cells.size) (hold : old.size = cells.size) (h1 : cells.all (·.oneCell') = true) (h : K a (w.setRow g cells)) :
    if Region.wanted o (yielded ops a.tmps) = true then Oper.wp Tryz.prog o a w K Q else E := by
  rw [if_pos (by simp [Region.wanted, hgd])]
  unfold Oper.wp execOp
  have := run_storeVar_row (P := Tryz.prog) w g t ty old cells hg hi hold h1
  simp [ho, hx, hy, Instr.storeAt, Instr.sureAddr, this, Result.andThen]
  show K (a.put o.dst undef) (w.setRow g cells)
  rw [show a.put o.dst undef = a by rw [hdst]; rfl]
  exact h
theorem results_tmp4 {fn : Func} {t u v x : Tmp} (h : fn.results = #[.tmp t, .tmp u, .tmp v, .tmp x]) (tmps : Array Value) (P : Program) (w : World) :
    (results fn tmps).run P w = .ok (.tuple #[tmps.getD t undef, tmps.getD u undef, tmps.getD v undef, tmps.getD x undef]) w := by
  simp [results, h, go_sem]
/-- A table of n numbers, by value. -/
def tblL (T : Nat → Int) (n : Nat) : List Value := (List.range n).map fun i => .int .i64 (T i)
def tblA (T : Nat → Int) (n : Nat) : Array Value := (tblL T n).toArray
theorem tblA_size (T : Nat → Int) (n : Nat) : (tblA T n).size = n := by simp [tblA, tblL]
theorem tblL_length (T : Nat → Int) (n : Nat) : (tblL T n).length = n := by simp [tblL]
theorem tblA_one (T : Nat → Int) (n : Nat) : (tblA T n).all (·.oneCell') = true :=
  all_oneCell_toArray fun u hu => by
    unfold tblL at hu
    obtain ⟨i, _, rfl⟩ := List.mem_map.1 hu; rfl
theorem tblA_get (T : Nat → Int) (n i : Nat) (h : i < n) : (tblA T n)[i]? = some (.int .i64 (T i)) := by simp [tblA, tblL, h]
theorem tbl_ext {T T' : Nat → Int} {n : Nat} (h : ∀ i, i < n → T i = T' i) : tblA T n = tblA T' n := by
  unfold tblA tblL
  congr 1
  exact List.map_congr_left fun i hi => by rw [h i (List.mem_range.1 hi)]
theorem tbl_set (T : Nat → Int) (n i : Nat) (x : Int) : (tblA T n).setIfInBounds i (.int .i64 x) = tblA (fun k => if k = i then x else T k) n := by
  apply Array.ext_getElem?
  intro k
  rw [Array.getElem?_setIfInBounds, tblA_size]
  rcases Nat.lt_or_ge k n with h | h
  · rw [tblA_get _ _ _ h]
    by_cases e : i = k
    · subst e; rw [if_pos rfl, if_pos h, tblA_get _ _ _ h, if_pos rfl]
    · rw [if_neg e, tblA_get _ _ _ h, if_neg (fun g : k = i => e g.symm)]
  · have h1 : (tblA T n)[k]? = none := Array.getElem?_eq_none (by rw [tblA_size]; exact h)
    have h2 : (tblA (fun k => if k = i then x else T k) n)[k]? = none := Array.getElem?_eq_none (by rw [tblA_size]; exact h)
    rw [h1, h2]
    by_cases e : i = k
    · subst e; rw [if_pos rfl, if_neg (by omega)]
    · rw [if_neg e]
theorem tbl_cell {w : World} {g : Nat} {T : Nat → Int} {n : Nat} {t : TypeId} (hg : w.heap[g]? = some (.cells (tblA T n) t (0, 0))) {i : Nat} (h : i < n) : w.cell? ⟨g, i, none⟩ = some (.int .i64 (T i)) :=
  (cell_of_row w g _ _ _ (0, 0) hg).trans (tblA_get T n i h)
end Go.Proofs.YtjhljkhgjcckhaaGreat

namespace Go.Proofs.YtjhljkhgjcckhaaGreat
open Go.RowKit
theorem row_range {w : World} {g : Nat} {T : Nat → Int} {n : Nat} {t : TypeId} (hg : w.heap[g]? = some (.cells (tblA T n) t (0, 0))) : w.rangeAt g 0 (tblL T n) := fun i v hv => by
  rw [cell_of_row w g _ _ _ (0, 0) hg, Nat.zero_add]
  simpa [tblA] using hv
theorem below_row9 {B : Nat} {a w : World} (h : Below B a w) {g : Nat} (hp : B ≤ g) (cs : Array Value) : Below B a (w.setRow g cs) :=
  ⟨h.os, h.tape, h.output, by rw [size_setRow]; exact h.size, fun k hk => (setRow_other w g k cs (by omega)).trans (h.block k hk)⟩
/-- A variable that was just made, and what is stored into it. -/
def mkV (w : World) (z cs : Array Value) (t : TypeId) : World := (w.alloc (.cells z t)).setRow w.heap.size cs
theorem mkV_row (w : World) (z cs : Array Value) (t : TypeId) : (mkV w z cs t).heap[w.heap.size]? = some (.cells cs t (0, 0)) := setRow_heap _ _ _ _ _ _ (heap_alloc_new w _)
theorem mkV_below (w : World) (z cs : Array Value) (t : TypeId) : Below w.heap.size w (mkV w z cs t) := below_row9 ((Below.refl _ _).alloc (Nat.le_refl _) _) (Nat.le_refl _) cs
theorem mkV_size (w : World) (z cs : Array Value) (t : TypeId) : (mkV w z cs t).heap.size = w.heap.size + 1 := by unfold mkV; rw [size_setRow]; simp
theorem inforlongs : (Tryz.prog.info? 163).map (fun i => (i.zero, i.size)) = some (some (.agg (tblA (fun _ => 0) 29)), 29) := by kernel_rfl
theorem szA29 (T : Nat → Int) : (Tryz.prog.info? 163).map (·.size) = some (tblA T 29).size := by rw [tblA_size]; kernel_rfl
theorem szL29 (T : Nat → Int) : (Tryz.prog.info? 163).map (·.size) = some (tblL T 29).length := by rw [tblL_length]; kernel_rfl
theorem cell_two29 {fn : Func} {p q : Tmp} (h : fn.results = #[.cell p 163, .cell q 163]) (tmps : Array Value) (w : World) (g g2 : Nat) (T X : Nat → Int) (hp : tmps.getD p undef = .pointer (some ⟨g, 0, none⟩)) (hq : tmps.getD q undef = .pointer (some ⟨g2, 0, none⟩))
    (ht : w.heap[g]? = some (.cells (tblA T 29) 163 (0, 0))) (ht2 : w.heap[g2]? = some (.cells (tblA X 29) 163 (0, 0))) :
    (results fn tmps).run Tryz.prog w = .ok (.tuple #[.agg (tblA T 29), .agg (tblA X 29)]) w := by
  have hp' : tmps[p]?.getD undef = .pointer (some ⟨g, 0, none⟩) := by simpa using hp
  have hq' : tmps[q]?.getD undef = .pointer (some ⟨g2, 0, none⟩) := by simpa using hq
  have hl := run_loadVar_row (P := Tryz.prog) w g 163 163 _ (0, 0) _ ht Tryz.underlying163 rfl (szA29 T)
  have hl2 := run_loadVar_row (P := Tryz.prog) w g2 163 163 _ (0, 0) _ ht2 Tryz.underlying163 rfl (szA29 X)
  simp [results, h, hp', hq', asAddr, hl, hl2]
theorem flatlongT : (([3, 4, 5, 6, 7, 8, 9, 10, 11, 13, 15, 17, 19, 23, 27, 31, 35, 43, 51, 59, 67, 83, 99, 115, 131, 163, 195, 227, 258] : List Int).map (Value.int .i64)).toArray = tblA (fun i => (longT i : Int)) 29 := by kernel_rfl
theorem flatlongX : (([0, 0, 0, 0, 0, 0, 0, 0, 1, 1, 1, 1, 2, 2, 2, 2, 3, 3, 3, 3, 4, 4, 4, 4, 5, 5, 5, 5, 0] : List Int).map (Value.int .i64)).toArray = tblA (fun i => (longX i : Int)) 29 := by kernel_rfl
set_option maxRecDepth 100000 in
set_option maxHeartbeats 2000000 in
theorem rlongs_any (w : World) : Calls Tryz.prog 96 #[] w fun e w' => e = .returned (.tuple #[.agg (tblA (fun i => (longT i : Int)) 29), .agg (tblA (fun i => (longX i : Int)) 29)]) ∧ Below w.heap.size w w' := by
  have hz := (zero_of_info inforlongs).1
  obtain ⟨T, hT⟩ : ∃ T : Nat → Int, T = fun i => (longT i : Int) := ⟨_, rfl⟩
  obtain ⟨X, hX⟩ : ∃ X : Nat → Int, X = fun i => (longX i : Int) := ⟨_, rfl⟩
  obtain ⟨Z, hZ⟩ : ∃ Z : Nat → Int, Z = fun _ => 0 := ⟨_, rfl⟩
  rw [← hT, ← hX]
  rw [← hZ] at hz
  have f1 := flatlongT
  have f2 := flatlongX
  rw [← hT] at f1
  rw [← hX] at f2
  obtain ⟨b, hb⟩ : ∃ b, b = w.heap.size := ⟨_, rfl⟩
  obtain ⟨W1, hW1⟩ : ∃ W1, W1 = (w.alloc (.cells (tblA Z 29) 163)).alloc (.cells (tblA Z 29) 163) := ⟨_, rfl⟩
  obtain ⟨W2, hW2⟩ : ∃ W2, W2 = mkV W1 (tblA Z 29) (tblA T 29) 163 := ⟨_, rfl⟩
  obtain ⟨W3, hW3⟩ : ∃ W3, W3 = mkV W2 (tblA Z 29) (tblA X 29) 163 := ⟨_, rfl⟩
  have s1 : W1.heap.size = b + 2 := by rw [hW1, hb]; simp
  have s2 : W2.heap.size = b + 3 := by rw [hW2, mkV_size, s1]
  have b1 : Below w.heap.size w W1 := by rw [hW1]; exact ((Below.refl _ _).alloc (Nat.le_refl _) _).alloc (by simp) _
  have b2 : Below W1.heap.size W1 W2 := by rw [hW2]; exact mkV_below _ _ _ _
  have b3 : Below W2.heap.size W2 W3 := by rw [hW3]; exact mkV_below _ _ _ _
  have b03 : Below w.heap.size w W3 := (b1.trans (b2.mono (by omega))).trans (b3.mono (by omega))
  have r0 : W1.heap[b]? = some (.cells (tblA Z 29) 163 (0, 0)) := by rw [hW1, hb]; exact (Below.heap_alloc _ _ _ (by simp)).trans (heap_alloc_new w _)
  have r1 : W1.heap[b + 1]? = some (.cells (tblA Z 29) 163 (0, 0)) := by
    have := heap_alloc_new (w.alloc (.cells (tblA Z 29) 163)) (.cells (tblA Z 29) 163)
    rw [World.size_alloc, ← hW1, ← hb] at this; exact this
  have r2 : W2.heap[b + 2]? = some (.cells (tblA T 29) 163 (0, 0)) := by
    have := mkV_row W1 (tblA Z 29) (tblA T 29) 163
    rw [s1, ← hW2] at this; exact this
  have r3 : W3.heap[b + 3]? = some (.cells (tblA X 29) 163 (0, 0)) := by
    have := mkV_row W2 (tblA Z 29) (tblA X 29) 163
    rw [s2, ← hW3] at this; exact this
  have q0 := (b3.block b (by omega)).trans ((b2.block b (by omega)).trans r0)
  have q1 := (b3.block (b + 1) (by omega)).trans ((b2.block (b + 1) (by omega)).trans r1)
  have q2 := (b3.block (b + 2) (by omega)).trans r2
  have n2 : (W1.alloc (.cells (tblA Z 29) 163)).heap[w.heap.size + 1 + 1]? = some (.cells (tblA Z 29) 163 (0, 0)) := by
    have := heap_alloc_new W1 (.cells (tblA Z 29) 163)
    rw [s1, hb] at this; exact this
  have v2 : (W1.alloc (.cells (tblA Z 29) 163)).setRow (w.heap.size + 1 + 1) (tblA T 29) = W2 := by
    rw [hW2]; unfold mkV; rw [s1, hb]
  have HN2 := Lib.hid n2; have HV2 := Lib.hid v2
  have F1 := Lib.hid f1; have F2 := Lib.hid f2; have HW1 := Lib.hid hW1; have HW2 := Lib.hid hW2; have HW3 := Lib.hid hW3; have HB := Lib.hid hb; have Q0 := Lib.hid q0; have Q1 := Lib.hid q1; have Q2 := Lib.hid q2; have Q3 := Lib.hid r3; have B03 := Lib.hid b03; have S1 := Lib.hid s1; have S2 := Lib.hid s2
  clear n2 v2 f1 f2 hW1 hW2 hW3 hb q0 q1 q2 r0 r1 r2 r3 b1 b2 b3 b03 s1 s2 hT hX hZ
  go_enter Tryz.func96, Tryz.ntmps96
  go_wp2_with (first
    | (refine wpList_buildFlatArrTo rfl 163 3 29 _ rfl .i64 [3, 4, 5, 6, 7, 8, 9, 10, 11, 13, 15, 17, 19, 23, 27, 31, 35, 43, 51, 59, 67, 83, 99, 115, 131, 163, 195, 227, 258] (some 4) rfl Tryz.underlying163 (by kernel_rfl) (by kernel_rfl) rfl ?_; rw [F1.out])
    | (refine wpList_buildFlatArrTo rfl 163 3 29 _ rfl .i64 [0, 0, 0, 0, 0, 0, 0, 0, 1, 1, 1, 1, 2, 2, 2, 2, 3, 3, 3, 3, 4, 4, 4, 4, 5, 5, 5, 5, 0] (some 5) rfl Tryz.underlying163 (by kernel_rfl) (by kernel_rfl) rfl ?_; rw [F2.out])
    | (rw [← HW1.out]; refine wpList_store_rowTo rfl _ _ _ rfl rfl (w.heap.size + 1 + 1) (tblA T 29) rfl rfl 163 (tblA Z 29) HN2.out (szA29 _) (by rw [tblA_size, tblA_size]) (tblA_one _ _) ?_; rw [HV2.out])
    | (refine wpList_store_rowTo rfl _ _ _ rfl rfl W2.heap.size (tblA X 29) rfl rfl 163 (tblA Z 29) (heap_alloc_new W2 _) (szA29 _) (by rw [tblA_size, tblA_size]) (tblA_one _ _) ?_; change wpList _ _ _ _ _ (mkV W2 (tblA Z 29) (tblA X 29) 163); rw [← HW3.out]))
  have hne1 : w.heap.size + 1 ≠ w.heap.size := by omega
  have hne2 : w.heap.size + 1 + 1 ≠ w.heap.size := by omega
  have hne3 : w.heap.size + 1 + 1 ≠ w.heap.size + 1 := by omega
  have hne4 : W2.heap.size ≠ w.heap.size := by have := S2.out; have := HB.out; omega
  have hne5 : W2.heap.size ≠ w.heap.size + 1 := by have := S2.out; have := HB.out; omega
  have q0 : W3.drew.heap[w.heap.size]? = some (.cells (tblA Z 29) 163 (0, 0)) := by rw [← HB.out]; exact Q0.out
  have q1 : W3.drew.heap[w.heap.size + 1]? = some (.cells (tblA Z 29) 163 (0, 0)) := by rw [← HB.out]; exact Q1.out
  have q2 : W3.drew.heap[w.heap.size + 1 + 1]? = some (.cells (tblA T 29) 163 (0, 0)) := by rw [← HB.out]; exact Q2.out
  have q3 : W3.drew.heap[W2.heap.size]? = some (.cells (tblA X 29) 163 (0, 0)) := by rw [S2.out]; exact Q3.out
  have P0 := Lib.hid q0; have P1 := Lib.hid q1; have P2 := Lib.hid q2; have P3 := Lib.hid q3; have N1 := Lib.hid hne1; have N2 := Lib.hid hne2; have N3 := Lib.hid hne3; have N4 := Lib.hid hne4; have N5 := Lib.hid hne5
  have FIN : Hid (∀ V : World, V = (W3.drew.setRow w.heap.size (tblA T 29)).setRow (w.heap.size + 1) (tblA X 29) → V.heap[w.heap.size]? = some (.cells (tblA T 29) 163 (0, 0)) ∧ V.heap[w.heap.size + 1]? = some (.cells (tblA X 29) 163 (0, 0)) ∧ Below w.heap.size w V) := Lib.hid fun V hV => by
    have r0 := setRow_heap _ _ _ (tblA T 29) _ _ q0
    have r1 := (setRow_other W3.drew w.heap.size _ (tblA T 29) hne1).trans q1
    rw [hV]
    refine ⟨(setRow_other _ _ _ _ hne1.symm).trans r0, setRow_heap _ _ _ _ _ _ r1, ?_⟩
    exact below_row9 (below_row9 (Below.drew B03.out) (Nat.le_refl _) _) (by omega) _
  clear q0 q1 q2 q3 hne1 hne2 hne3 hne4 hne5
  refine wp_region_any (by kernel_rfl) ?_
  change wpAny _ _ _ _ _ _ _ (World.drew _)
  refine wpAny_ready (rs := [0, 1]) (by kernel_rfl) (by simp) ?_
  refine AllReady.cons rfl (fun K hK => ?_) (AllReady.cons rfl (fun K hK => ?_) AllReady.nil)
  · refine step_row rfl 163 _ rfl (w.heap.size + 1 + 1) 0 rfl (tblL T 29) _ (row_range P2.out) Tryz.underlying163 rfl (szL29 T) ?_
    refine hK _ _ ?_
    clear hK K
    refine wpAny_ready (rs := [1, 2]) (by kernel_rfl) (by simp) ?_
    refine AllReady.cons rfl (fun K hK => ?_) (AllReady.cons rfl (fun K hK => ?_) AllReady.nil)
    · refine step_row rfl 163 _ rfl W2.heap.size 0 rfl (tblL X 29) _ (row_range P3.out) Tryz.underlying163 rfl (szL29 X) ?_
      refine hK _ _ ?_
      clear hK K
      refine wpAny_ready (rs := [2]) (by kernel_rfl) (by simp) ?_
      refine AllReady.cons rfl (fun K hK => ?_) AllReady.nil
      refine step_store_row rfl 163 _ _ rfl rfl w.heap.size (tblA T 29) rfl rfl 163 (tblA Z 29) P0.out (szA29 _) (by rw [tblA_size, tblA_size]) (tblA_one _ _) ?_
      refine hK _ _ ?_
      clear hK K
      refine wpAny_ready (rs := [3]) (by kernel_rfl) (by simp) ?_
      refine AllReady.cons rfl (fun K hK => ?_) AllReady.nil
      refine step_store_row rfl 163 _ _ rfl rfl (w.heap.size + 1) (tblA X 29) rfl rfl 163 (tblA Z 29) ((setRow_other _ _ _ _ N1.out).trans P1.out) (szA29 _) (by rw [tblA_size, tblA_size]) (tblA_one _ _) ?_
      refine hK _ _ ?_
      clear hK K
      refine wpAny_done (by kernel_rfl) ?_ _
      obtain ⟨f1, f2, f3⟩ := FIN.out _ rfl
      obtain ⟨V, hV⟩ : ∃ V, V = (W3.drew.setRow w.heap.size (tblA T 29)).setRow (w.heap.size + 1) (tblA X 29) := ⟨_, rfl⟩
      rw [← hV] at f1 f2 f3 ⊢
      have G1 := Lib.hid f1; have G2 := Lib.hid f2; have G3 := Lib.hid f3
      clear f1 f2 f3 hV
      simp only [Act.put, List.getElem_toArray, List.getElem_cons_zero, List.getElem_cons_succ, List.setIfInBounds_toArray, List.set_cons_zero, List.set_cons_succ]
      go_wp2
      refine bodyPost_ret (cell_two29 rfl _ _ w.heap.size (w.heap.size + 1) T X rfl rfl G1.out G2.out) rfl ⟨rfl, G3.out⟩
    · refine step_store_row rfl 163 _ _ rfl rfl w.heap.size (tblA T 29) rfl rfl 163 (tblA Z 29) P0.out (szA29 _) (by rw [tblA_size, tblA_size]) (tblA_one _ _) ?_
      refine hK _ _ ?_
      clear hK K
      refine wpAny_ready (rs := [1]) (by kernel_rfl) (by simp) ?_
      refine AllReady.cons rfl (fun K hK => ?_) AllReady.nil
      refine step_row rfl 163 _ rfl W2.heap.size 0 rfl (tblL X 29) _ (row_range ((setRow_other _ _ _ _ N4.out).trans P3.out)) Tryz.underlying163 rfl (szL29 X) ?_
      refine hK _ _ ?_
      clear hK K
      refine wpAny_ready (rs := [3]) (by kernel_rfl) (by simp) ?_
      refine AllReady.cons rfl (fun K hK => ?_) AllReady.nil
      refine step_store_row rfl 163 _ _ rfl rfl (w.heap.size + 1) (tblA X 29) rfl rfl 163 (tblA Z 29) ((setRow_other _ _ _ _ N1.out).trans P1.out) (szA29 _) (by rw [tblA_size, tblA_size]) (tblA_one _ _) ?_
      refine hK _ _ ?_
      clear hK K
      refine wpAny_done (by kernel_rfl) ?_ _
      obtain ⟨f1, f2, f3⟩ := FIN.out _ rfl
      obtain ⟨V, hV⟩ : ∃ V, V = (W3.drew.setRow w.heap.size (tblA T 29)).setRow (w.heap.size + 1) (tblA X 29) := ⟨_, rfl⟩
      rw [← hV] at f1 f2 f3 ⊢
      have G1 := Lib.hid f1; have G2 := Lib.hid f2; have G3 := Lib.hid f3
      clear f1 f2 f3 hV
      simp only [Act.put, List.getElem_toArray, List.getElem_cons_zero, List.getElem_cons_succ, List.setIfInBounds_toArray, List.set_cons_zero, List.set_cons_succ]
      go_wp2
      refine bodyPost_ret (cell_two29 rfl _ _ w.heap.size (w.heap.size + 1) T X rfl rfl G1.out G2.out) rfl ⟨rfl, G3.out⟩
  · refine step_row rfl 163 _ rfl W2.heap.size 0 rfl (tblL X 29) _ (row_range P3.out) Tryz.underlying163 rfl (szL29 X) ?_
    refine hK _ _ ?_
    clear hK K
    refine wpAny_ready (rs := [0]) (by kernel_rfl) (by simp) ?_
    refine AllReady.cons rfl (fun K hK => ?_) AllReady.nil
    refine step_row rfl 163 _ rfl (w.heap.size + 1 + 1) 0 rfl (tblL T 29) _ (row_range P2.out) Tryz.underlying163 rfl (szL29 T) ?_
    refine hK _ _ ?_
    clear hK K
    refine wpAny_ready (rs := [2]) (by kernel_rfl) (by simp) ?_
    refine AllReady.cons rfl (fun K hK => ?_) AllReady.nil
    refine step_store_row rfl 163 _ _ rfl rfl w.heap.size (tblA T 29) rfl rfl 163 (tblA Z 29) P0.out (szA29 _) (by rw [tblA_size, tblA_size]) (tblA_one _ _) ?_
    refine hK _ _ ?_
    clear hK K
    refine wpAny_ready (rs := [3]) (by kernel_rfl) (by simp) ?_
    refine AllReady.cons rfl (fun K hK => ?_) AllReady.nil
    refine step_store_row rfl 163 _ _ rfl rfl (w.heap.size + 1) (tblA X 29) rfl rfl 163 (tblA Z 29) ((setRow_other _ _ _ _ N1.out).trans P1.out) (szA29 _) (by rw [tblA_size, tblA_size]) (tblA_one _ _) ?_
    refine hK _ _ ?_
    clear hK K
    refine wpAny_done (by kernel_rfl) ?_ _
    obtain ⟨f1, f2, f3⟩ := FIN.out _ rfl
    obtain ⟨V, hV⟩ : ∃ V, V = (W3.drew.setRow w.heap.size (tblA T 29)).setRow (w.heap.size + 1) (tblA X 29) := ⟨_, rfl⟩
    rw [← hV] at f1 f2 f3 ⊢
    have G1 := Lib.hid f1; have G2 := Lib.hid f2; have G3 := Lib.hid f3
    clear f1 f2 f3 hV
    simp only [Act.put, List.getElem_toArray, List.getElem_cons_zero, List.getElem_cons_succ, List.setIfInBounds_toArray, List.set_cons_zero, List.set_cons_succ]
    go_wp2
    refine bodyPost_ret (cell_two29 rfl _ _ w.heap.size (w.heap.size + 1) T X rfl rfl G1.out G2.out) rfl ⟨rfl, G3.out⟩
theorem inforfars : (Tryz.prog.info? 88).map (fun i => (i.zero, i.size)) = some (some (.agg (tblA (fun _ => 0) 30)), 30) := by kernel_rfl
theorem szA30 (T : Nat → Int) : (Tryz.prog.info? 88).map (·.size) = some (tblA T 30).size := by rw [tblA_size]; kernel_rfl
theorem szL30 (T : Nat → Int) : (Tryz.prog.info? 88).map (·.size) = some (tblL T 30).length := by rw [tblL_length]; kernel_rfl
theorem cell_two30 {fn : Func} {p q : Tmp} (h : fn.results = #[.cell p 88, .cell q 88]) (tmps : Array Value) (w : World) (g g2 : Nat) (T X : Nat → Int) (hp : tmps.getD p undef = .pointer (some ⟨g, 0, none⟩)) (hq : tmps.getD q undef = .pointer (some ⟨g2, 0, none⟩))
    (ht : w.heap[g]? = some (.cells (tblA T 30) 88 (0, 0))) (ht2 : w.heap[g2]? = some (.cells (tblA X 30) 88 (0, 0))) :
    (results fn tmps).run Tryz.prog w = .ok (.tuple #[.agg (tblA T 30), .agg (tblA X 30)]) w := by
  have hp' : tmps[p]?.getD undef = .pointer (some ⟨g, 0, none⟩) := by simpa using hp
  have hq' : tmps[q]?.getD undef = .pointer (some ⟨g2, 0, none⟩) := by simpa using hq
  have hl := run_loadVar_row (P := Tryz.prog) w g 88 88 _ (0, 0) _ ht Tryz.underlying88 rfl (szA30 T)
  have hl2 := run_loadVar_row (P := Tryz.prog) w g2 88 88 _ (0, 0) _ ht2 Tryz.underlying88 rfl (szA30 X)
  simp [results, h, hp', hq', asAddr, hl, hl2]
theorem flatfarT : (([1, 2, 3, 4, 5, 7, 9, 13, 17, 25, 33, 49, 65, 97, 129, 193, 257, 385, 513, 769, 1025, 1537, 2049, 3073, 4097, 6145, 8193, 12289, 16385, 24577] : List Int).map (Value.int .i64)).toArray = tblA (fun i => (farT i : Int)) 30 := by kernel_rfl
theorem flatfarX : (([0, 0, 0, 0, 1, 1, 2, 2, 3, 3, 4, 4, 5, 5, 6, 6, 7, 7, 8, 8, 9, 9, 10, 10, 11, 11, 12, 12, 13, 13] : List Int).map (Value.int .i64)).toArray = tblA (fun i => (farX i : Int)) 30 := by kernel_rfl
set_option maxRecDepth 100000 in
set_option maxHeartbeats 2000000 in
theorem rfars_any (w : World) : Calls Tryz.prog 97 #[] w fun e w' => e = .returned (.tuple #[.agg (tblA (fun i => (farT i : Int)) 30), .agg (tblA (fun i => (farX i : Int)) 30)]) ∧ Below w.heap.size w w' := by
  have hz := (zero_of_info inforfars).1
  obtain ⟨T, hT⟩ : ∃ T : Nat → Int, T = fun i => (farT i : Int) := ⟨_, rfl⟩
  obtain ⟨X, hX⟩ : ∃ X : Nat → Int, X = fun i => (farX i : Int) := ⟨_, rfl⟩
  obtain ⟨Z, hZ⟩ : ∃ Z : Nat → Int, Z = fun _ => 0 := ⟨_, rfl⟩
  rw [← hT, ← hX]
  rw [← hZ] at hz
  have f1 := flatfarT
  have f2 := flatfarX
  rw [← hT] at f1
  rw [← hX] at f2
  obtain ⟨b, hb⟩ : ∃ b, b = w.heap.size := ⟨_, rfl⟩
  obtain ⟨W1, hW1⟩ : ∃ W1, W1 = (w.alloc (.cells (tblA Z 30) 88)).alloc (.cells (tblA Z 30) 88) := ⟨_, rfl⟩
  obtain ⟨W2, hW2⟩ : ∃ W2, W2 = mkV W1 (tblA Z 30) (tblA T 30) 88 := ⟨_, rfl⟩
  obtain ⟨W3, hW3⟩ : ∃ W3, W3 = mkV W2 (tblA Z 30) (tblA X 30) 88 := ⟨_, rfl⟩
  have s1 : W1.heap.size = b + 2 := by rw [hW1, hb]; simp
  have s2 : W2.heap.size = b + 3 := by rw [hW2, mkV_size, s1]
  have b1 : Below w.heap.size w W1 := by rw [hW1]; exact ((Below.refl _ _).alloc (Nat.le_refl _) _).alloc (by simp) _
  have b2 : Below W1.heap.size W1 W2 := by rw [hW2]; exact mkV_below _ _ _ _
  have b3 : Below W2.heap.size W2 W3 := by rw [hW3]; exact mkV_below _ _ _ _
  have b03 : Below w.heap.size w W3 := (b1.trans (b2.mono (by omega))).trans (b3.mono (by omega))
  have r0 : W1.heap[b]? = some (.cells (tblA Z 30) 88 (0, 0)) := by rw [hW1, hb]; exact (Below.heap_alloc _ _ _ (by simp)).trans (heap_alloc_new w _)
  have r1 : W1.heap[b + 1]? = some (.cells (tblA Z 30) 88 (0, 0)) := by
    have := heap_alloc_new (w.alloc (.cells (tblA Z 30) 88)) (.cells (tblA Z 30) 88)
    rw [World.size_alloc, ← hW1, ← hb] at this; exact this
  have r2 : W2.heap[b + 2]? = some (.cells (tblA T 30) 88 (0, 0)) := by
    have := mkV_row W1 (tblA Z 30) (tblA T 30) 88
    rw [s1, ← hW2] at this; exact this
  have r3 : W3.heap[b + 3]? = some (.cells (tblA X 30) 88 (0, 0)) := by
    have := mkV_row W2 (tblA Z 30) (tblA X 30) 88
    rw [s2, ← hW3] at this; exact this
  have q0 := (b3.block b (by omega)).trans ((b2.block b (by omega)).trans r0)
  have q1 := (b3.block (b + 1) (by omega)).trans ((b2.block (b + 1) (by omega)).trans r1)
  have q2 := (b3.block (b + 2) (by omega)).trans r2
  have n2 : (W1.alloc (.cells (tblA Z 30) 88)).heap[w.heap.size + 1 + 1]? = some (.cells (tblA Z 30) 88 (0, 0)) := by
    have := heap_alloc_new W1 (.cells (tblA Z 30) 88)
    rw [s1, hb] at this; exact this
  have v2 : (W1.alloc (.cells (tblA Z 30) 88)).setRow (w.heap.size + 1 + 1) (tblA T 30) = W2 := by
    rw [hW2]; unfold mkV; rw [s1, hb]
  have HN2 := Lib.hid n2; have HV2 := Lib.hid v2
  have F1 := Lib.hid f1; have F2 := Lib.hid f2; have HW1 := Lib.hid hW1; have HW2 := Lib.hid hW2; have HW3 := Lib.hid hW3; have HB := Lib.hid hb; have Q0 := Lib.hid q0; have Q1 := Lib.hid q1; have Q2 := Lib.hid q2; have Q3 := Lib.hid r3; have B03 := Lib.hid b03; have S1 := Lib.hid s1; have S2 := Lib.hid s2
  clear n2 v2 f1 f2 hW1 hW2 hW3 hb q0 q1 q2 r0 r1 r2 r3 b1 b2 b3 b03 s1 s2 hT hX hZ
  go_enter Tryz.func97, Tryz.ntmps97
  go_wp2_with (first
    | (refine wpList_buildFlatArrTo rfl 88 3 30 _ rfl .i64 [1, 2, 3, 4, 5, 7, 9, 13, 17, 25, 33, 49, 65, 97, 129, 193, 257, 385, 513, 769, 1025, 1537, 2049, 3073, 4097, 6145, 8193, 12289, 16385, 24577] (some 4) rfl Tryz.underlying88 (by kernel_rfl) (by kernel_rfl) rfl ?_; rw [F1.out])
    | (refine wpList_buildFlatArrTo rfl 88 3 30 _ rfl .i64 [0, 0, 0, 0, 1, 1, 2, 2, 3, 3, 4, 4, 5, 5, 6, 6, 7, 7, 8, 8, 9, 9, 10, 10, 11, 11, 12, 12, 13, 13] (some 5) rfl Tryz.underlying88 (by kernel_rfl) (by kernel_rfl) rfl ?_; rw [F2.out])
    | (rw [← HW1.out]; refine wpList_store_rowTo rfl _ _ _ rfl rfl (w.heap.size + 1 + 1) (tblA T 30) rfl rfl 88 (tblA Z 30) HN2.out (szA30 _) (by rw [tblA_size, tblA_size]) (tblA_one _ _) ?_; rw [HV2.out])
    | (refine wpList_store_rowTo rfl _ _ _ rfl rfl W2.heap.size (tblA X 30) rfl rfl 88 (tblA Z 30) (heap_alloc_new W2 _) (szA30 _) (by rw [tblA_size, tblA_size]) (tblA_one _ _) ?_; change wpList _ _ _ _ _ (mkV W2 (tblA Z 30) (tblA X 30) 88); rw [← HW3.out]))
  have hne1 : w.heap.size + 1 ≠ w.heap.size := by omega
  have hne2 : w.heap.size + 1 + 1 ≠ w.heap.size := by omega
  have hne3 : w.heap.size + 1 + 1 ≠ w.heap.size + 1 := by omega
  have hne4 : W2.heap.size ≠ w.heap.size := by have := S2.out; have := HB.out; omega
  have hne5 : W2.heap.size ≠ w.heap.size + 1 := by have := S2.out; have := HB.out; omega
  have q0 : W3.drew.heap[w.heap.size]? = some (.cells (tblA Z 30) 88 (0, 0)) := by rw [← HB.out]; exact Q0.out
  have q1 : W3.drew.heap[w.heap.size + 1]? = some (.cells (tblA Z 30) 88 (0, 0)) := by rw [← HB.out]; exact Q1.out
  have q2 : W3.drew.heap[w.heap.size + 1 + 1]? = some (.cells (tblA T 30) 88 (0, 0)) := by rw [← HB.out]; exact Q2.out
  have q3 : W3.drew.heap[W2.heap.size]? = some (.cells (tblA X 30) 88 (0, 0)) := by rw [S2.out]; exact Q3.out
  have P0 := Lib.hid q0; have P1 := Lib.hid q1; have P2 := Lib.hid q2; have P3 := Lib.hid q3; have N1 := Lib.hid hne1; have N2 := Lib.hid hne2; have N3 := Lib.hid hne3; have N4 := Lib.hid hne4; have N5 := Lib.hid hne5
  have FIN : Hid (∀ V : World, V = (W3.drew.setRow w.heap.size (tblA T 30)).setRow (w.heap.size + 1) (tblA X 30) → V.heap[w.heap.size]? = some (.cells (tblA T 30) 88 (0, 0)) ∧ V.heap[w.heap.size + 1]? = some (.cells (tblA X 30) 88 (0, 0)) ∧ Below w.heap.size w V) := Lib.hid fun V hV => by
    have r0 := setRow_heap _ _ _ (tblA T 30) _ _ q0
    have r1 := (setRow_other W3.drew w.heap.size _ (tblA T 30) hne1).trans q1
    rw [hV]
    refine ⟨(setRow_other _ _ _ _ hne1.symm).trans r0, setRow_heap _ _ _ _ _ _ r1, ?_⟩
    exact below_row9 (below_row9 (Below.drew B03.out) (Nat.le_refl _) _) (by omega) _
  clear q0 q1 q2 q3 hne1 hne2 hne3 hne4 hne5
  refine wp_region_any (by kernel_rfl) ?_
  change wpAny _ _ _ _ _ _ _ (World.drew _)
  refine wpAny_ready (rs := [0, 1]) (by kernel_rfl) (by simp) ?_
  refine AllReady.cons rfl (fun K hK => ?_) (AllReady.cons rfl (fun K hK => ?_) AllReady.nil)
  · refine step_row rfl 88 _ rfl (w.heap.size + 1 + 1) 0 rfl (tblL T 30) _ (row_range P2.out) Tryz.underlying88 rfl (szL30 T) ?_
    refine hK _ _ ?_
    clear hK K
    refine wpAny_ready (rs := [1, 2]) (by kernel_rfl) (by simp) ?_
    refine AllReady.cons rfl (fun K hK => ?_) (AllReady.cons rfl (fun K hK => ?_) AllReady.nil)
    · refine step_row rfl 88 _ rfl W2.heap.size 0 rfl (tblL X 30) _ (row_range P3.out) Tryz.underlying88 rfl (szL30 X) ?_
      refine hK _ _ ?_
      clear hK K
      refine wpAny_ready (rs := [2]) (by kernel_rfl) (by simp) ?_
      refine AllReady.cons rfl (fun K hK => ?_) AllReady.nil
      refine step_store_row rfl 88 _ _ rfl rfl w.heap.size (tblA T 30) rfl rfl 88 (tblA Z 30) P0.out (szA30 _) (by rw [tblA_size, tblA_size]) (tblA_one _ _) ?_
      refine hK _ _ ?_
      clear hK K
      refine wpAny_ready (rs := [3]) (by kernel_rfl) (by simp) ?_
      refine AllReady.cons rfl (fun K hK => ?_) AllReady.nil
      refine step_store_row rfl 88 _ _ rfl rfl (w.heap.size + 1) (tblA X 30) rfl rfl 88 (tblA Z 30) ((setRow_other _ _ _ _ N1.out).trans P1.out) (szA30 _) (by rw [tblA_size, tblA_size]) (tblA_one _ _) ?_
      refine hK _ _ ?_
      clear hK K
      refine wpAny_done (by kernel_rfl) ?_ _
      obtain ⟨f1, f2, f3⟩ := FIN.out _ rfl
      obtain ⟨V, hV⟩ : ∃ V, V = (W3.drew.setRow w.heap.size (tblA T 30)).setRow (w.heap.size + 1) (tblA X 30) := ⟨_, rfl⟩
      rw [← hV] at f1 f2 f3 ⊢
      have G1 := Lib.hid f1; have G2 := Lib.hid f2; have G3 := Lib.hid f3
      clear f1 f2 f3 hV
      simp only [Act.put, List.getElem_toArray, List.getElem_cons_zero, List.getElem_cons_succ, List.setIfInBounds_toArray, List.set_cons_zero, List.set_cons_succ]
      go_wp2
      refine bodyPost_ret (cell_two30 rfl _ _ w.heap.size (w.heap.size + 1) T X rfl rfl G1.out G2.out) rfl ⟨rfl, G3.out⟩
    · refine step_store_row rfl 88 _ _ rfl rfl w.heap.size (tblA T 30) rfl rfl 88 (tblA Z 30) P0.out (szA30 _) (by rw [tblA_size, tblA_size]) (tblA_one _ _) ?_
      refine hK _ _ ?_
      clear hK K
      refine wpAny_ready (rs := [1]) (by kernel_rfl) (by simp) ?_
      refine AllReady.cons rfl (fun K hK => ?_) AllReady.nil
      refine step_row rfl 88 _ rfl W2.heap.size 0 rfl (tblL X 30) _ (row_range ((setRow_other _ _ _ _ N4.out).trans P3.out)) Tryz.underlying88 rfl (szL30 X) ?_
      refine hK _ _ ?_
      clear hK K
      refine wpAny_ready (rs := [3]) (by kernel_rfl) (by simp) ?_
      refine AllReady.cons rfl (fun K hK => ?_) AllReady.nil
      refine step_store_row rfl 88 _ _ rfl rfl (w.heap.size + 1) (tblA X 30) rfl rfl 88 (tblA Z 30) ((setRow_other _ _ _ _ N1.out).trans P1.out) (szA30 _) (by rw [tblA_size, tblA_size]) (tblA_one _ _) ?_
      refine hK _ _ ?_
      clear hK K
      refine wpAny_done (by kernel_rfl) ?_ _
      obtain ⟨f1, f2, f3⟩ := FIN.out _ rfl
      obtain ⟨V, hV⟩ : ∃ V, V = (W3.drew.setRow w.heap.size (tblA T 30)).setRow (w.heap.size + 1) (tblA X 30) := ⟨_, rfl⟩
      rw [← hV] at f1 f2 f3 ⊢
      have G1 := Lib.hid f1; have G2 := Lib.hid f2; have G3 := Lib.hid f3
      clear f1 f2 f3 hV
      simp only [Act.put, List.getElem_toArray, List.getElem_cons_zero, List.getElem_cons_succ, List.setIfInBounds_toArray, List.set_cons_zero, List.set_cons_succ]
      go_wp2
      refine bodyPost_ret (cell_two30 rfl _ _ w.heap.size (w.heap.size + 1) T X rfl rfl G1.out G2.out) rfl ⟨rfl, G3.out⟩
  · refine step_row rfl 88 _ rfl W2.heap.size 0 rfl (tblL X 30) _ (row_range P3.out) Tryz.underlying88 rfl (szL30 X) ?_
    refine hK _ _ ?_
    clear hK K
    refine wpAny_ready (rs := [0]) (by kernel_rfl) (by simp) ?_
    refine AllReady.cons rfl (fun K hK => ?_) AllReady.nil
    refine step_row rfl 88 _ rfl (w.heap.size + 1 + 1) 0 rfl (tblL T 30) _ (row_range P2.out) Tryz.underlying88 rfl (szL30 T) ?_
    refine hK _ _ ?_
    clear hK K
    refine wpAny_ready (rs := [2]) (by kernel_rfl) (by simp) ?_
    refine AllReady.cons rfl (fun K hK => ?_) AllReady.nil
    refine step_store_row rfl 88 _ _ rfl rfl w.heap.size (tblA T 30) rfl rfl 88 (tblA Z 30) P0.out (szA30 _) (by rw [tblA_size, tblA_size]) (tblA_one _ _) ?_
    refine hK _ _ ?_
    clear hK K
    refine wpAny_ready (rs := [3]) (by kernel_rfl) (by simp) ?_
    refine AllReady.cons rfl (fun K hK => ?_) AllReady.nil
    refine step_store_row rfl 88 _ _ rfl rfl (w.heap.size + 1) (tblA X 30) rfl rfl 88 (tblA Z 30) ((setRow_other _ _ _ _ N1.out).trans P1.out) (szA30 _) (by rw [tblA_size, tblA_size]) (tblA_one _ _) ?_
    refine hK _ _ ?_
    clear hK K
    refine wpAny_done (by kernel_rfl) ?_ _
    obtain ⟨f1, f2, f3⟩ := FIN.out _ rfl
    obtain ⟨V, hV⟩ : ∃ V, V = (W3.drew.setRow w.heap.size (tblA T 30)).setRow (w.heap.size + 1) (tblA X 30) := ⟨_, rfl⟩
    rw [← hV] at f1 f2 f3 ⊢
    have G1 := Lib.hid f1; have G2 := Lib.hid f2; have G3 := Lib.hid f3
    clear f1 f2 f3 hV
    simp only [Act.put, List.getElem_toArray, List.getElem_cons_zero, List.getElem_cons_succ, List.setIfInBounds_toArray, List.set_cons_zero, List.set_cons_succ]
    go_wp2
    refine bodyPost_ret (cell_two30 rfl _ _ w.heap.size (w.heap.size + 1) T X rfl rfl G1.out G2.out) rfl ⟨rfl, G3.out⟩
end Go.Proofs.YtjhljkhgjcckhaaGreat

namespace Go.Proofs.YtjhljkhgjcckhaaGreat
open Go.RowKit
theorem decN {p : Prop} [Decidable p] (h : ¬ p) : decide p = false := by simp [h]
theorem decY {p : Prop} [Decidable p] (h : p) : decide p = true := by simp [h]
def p2N (k : Nat) : Nat := 2 ^ k
/-- Two variables, made, then written. -/
def twoV (w : World) (z p q : Array Value) (t : TypeId) : World := (((w.alloc (.cells z t)).alloc (.cells z t)).setRow w.heap.size p).setRow (w.heap.size + 1) q
theorem two_rows (w : World) (z p q : Array Value) (t : TypeId) : ((w.alloc (.cells z t)).alloc (.cells z t)).heap[w.heap.size]? = some (.cells z t (0, 0)) ∧ (((w.alloc (.cells z t)).alloc (.cells z t)).setRow w.heap.size p).heap[w.heap.size + 1]? = some (.cells z t (0, 0)) ∧
    (twoV w z p q t).heap[w.heap.size]? = some (.cells p t (0, 0)) ∧ (twoV w z p q t).heap[w.heap.size + 1]? = some (.cells q t (0, 0)) ∧ Below w.heap.size w (twoV w z p q t) := by
  have h1 : ((w.alloc (.cells z t)).alloc (.cells z t)).heap[w.heap.size]? = some (.cells z t (0, 0)) := (Below.heap_alloc _ _ _ (by simp)).trans (heap_alloc_new w _)
  have h2 : ((w.alloc (.cells z t)).alloc (.cells z t)).heap[w.heap.size + 1]? = some (.cells z t (0, 0)) := by
    have := heap_alloc_new (w.alloc (.cells z t)) (.cells z t)
    rw [World.size_alloc] at this; exact this
  have h3 := (setRow_other ((w.alloc (.cells z t)).alloc (.cells z t)) w.heap.size (w.heap.size + 1) p (by omega)).trans h2
  refine ⟨h1, h3, ?_, setRow_heap _ _ _ _ _ _ h3, ?_⟩
  · exact (setRow_other _ _ _ _ (by omega)).trans (setRow_heap _ _ _ _ _ _ h1)
  · exact below_row9 (below_row9 (((Below.refl _ _).alloc (Nat.le_refl _) _).alloc (by simp) _) (Nat.le_refl _) _) (by omega) _
set_option maxRecDepth 100000 in
set_option maxHeartbeats 4000000 in
theorem rlong9_any (w : World) (n : Int) : Calls Tryz.prog 74 #[.int .i64 n] w fun e w' => e = .returned (.tuple #[.int .i64 (lgS n), .int .i64 (lgB n), .int .i64 (lgX n), .int .i64 (lgE n)]) ∧ Below w.heap.size w w' := by
  by_cases y0 : n < 3
  · have e1 : lgS n = 0 := if_neg (by omega)
    have e2 : lgB n = 0 := if_neg (by omega)
    have e3 : lgX n = 0 := if_neg (by omega)
    have e4 : lgE n = 2 := if_neg (by omega)
    rw [e1, e2, e3, e4]
    have d0 : decide (n < 3) = true := decY y0
    clear e1 e2 e3 e4
    go_enter Tryz.func74, Tryz.ntmps74
    go_wp2
    refine bodyPost_ret (results_tmp4 rfl _ _ _) rfl ?_
    exact ⟨rfl, Below.refl _ _⟩
  have d0 : decide (n < 3) = false := decN y0
  by_cases y1 : 258 < n
  · have e1 : lgS n = 0 := if_neg (by omega)
    have e2 : lgB n = 0 := if_neg (by omega)
    have e3 : lgX n = 0 := if_neg (by omega)
    have e4 : lgE n = 2 := if_neg (by omega)
    rw [e1, e2, e3, e4]
    have d1 : decide (258 < n) = true := decY y1
    clear e1 e2 e3 e4
    go_enter Tryz.func74, Tryz.ntmps74
    go_wp2
    refine bodyPost_ret (results_tmp4 rfl _ _ _) rfl ?_
    exact ⟨rfl, Below.refl _ _⟩
  have d1 : decide (258 < n) = false := decN y1
  obtain ⟨m, rfl⟩ := Int.eq_ofNat_of_zero_le (show 0 ≤ n by omega)
  have hk : 3 ≤ (m : Int) ∧ (m : Int) ≤ 258 := by omega
  have hz := (zero_of_info inforlongs).1
  obtain ⟨I, hI⟩ : ∃ I, I = atN longT m 29 := ⟨_, rfl⟩
  obtain ⟨q1, q2, q3⟩ := atN_spec (T := longT) (n := m) (show 3 ≤ m by omega) 29 (by omega)
  rw [← hI] at q1 q2
  have e1 : lgS (m : Int) = (((257 + I : Nat)) : Int) := by unfold lgS lgI; rw [if_pos hk, Int.toNat_natCast, ← hI]
  have e2 : lgB (m : Int) = ((longX I : Nat) : Int) := by unfold lgB lgI; rw [if_pos hk, Int.toNat_natCast, ← hI]
  have e3 : lgX (m : Int) = ((m - longT I : Nat) : Int) := by
    unfold lgX lgI; rw [if_pos hk, Int.toNat_natCast, ← hI]
  have e4 : lgE (m : Int) = 0 := if_pos hk
  obtain ⟨tI, htI⟩ : ∃ tI, tI = longT I := ⟨_, rfl⟩
  obtain ⟨xI, hxI⟩ : ∃ xI, xI = longX I := ⟨_, rfl⟩
  obtain ⟨uI, huI⟩ : ∃ uI, uI = m - longT I := ⟨_, rfl⟩
  obtain ⟨sI, hsI⟩ : ∃ sI, sI = 257 + I := ⟨_, rfl⟩
  rw [← hsI] at e1; rw [← hxI] at e2; rw [← huI] at e3
  rw [← htI] at huI q2
  rw [e1, e2, e3, e4]
  have hm3 : m ≤ 258 := by omega
  have HTI := Lib.hid htI; have HXI := Lib.hid hxI; have HUI := Lib.hid huI; have HSI := Lib.hid hsI
  clear htI hxI huI hsI
  have HI := Lib.hid hI; have HQ2 := Lib.hid q2; have HLO := Lib.hid (rlongs_any w)
  clear q3 e1 e2 e3 e4 hI q2
  go_enter Tryz.func74, Tryz.ntmps74
  go_wp2_with fail
  refine HLO.out.mono ?_
  rintro e w1 ⟨rfl, hb1⟩
  obtain ⟨t1, t2, t3, t4, t5⟩ := two_rows w1 (tblA (fun _ => 0) 29) (tblA (fun i => (longT i : Int)) 29) (tblA (fun i => (longX i : Int)) 29) 163
  obtain ⟨V, hV⟩ : ∃ V, V = twoV w1 (tblA (fun _ => 0) 29) (tblA (fun i => (longT i : Int)) 29) (tblA (fun i => (longX i : Int)) 29) 163 := ⟨_, rfl⟩
  rw [← hV] at t3 t4 t5
  have TA := Lib.hid t1; have TB := Lib.hid t2; have TC := Lib.hid t3; have TD := Lib.hid t4; have HBV := Lib.hid (hb1.trans (t5.mono hb1.size)); have HV := Lib.hid hV
  obtain ⟨b, hb⟩ : ∃ b, b = w1.heap.size := ⟨_, rfl⟩
  have HB := Lib.hid hb
  clear t1 t2 t3 t4 t5 hb1 hV hb
  go_wp2_with (first
    | (refine wpList_store_rowTo rfl _ _ _ rfl rfl w1.heap.size (tblA (fun i => (longT i : Int)) 29) rfl rfl 163 (tblA (fun _ => 0) 29) TA.out (szA29 _) (by rw [tblA_size, tblA_size]) (tblA_one _ _) ?_)
    | (refine wpList_store_rowTo rfl _ _ _ rfl rfl (w1.heap.size + 1) (tblA (fun i => (longX i : Int)) 29) rfl rfl 163 (tblA (fun _ => 0) 29) TB.out (szA29 _) (by rw [tblA_size, tblA_size]) (tblA_one _ _) ?_; change wpList _ _ _ _ _ (twoV w1 (tblA (fun _ => 0) 29) (tblA (fun i => (longT i : Int)) 29) (tblA (fun i => (longX i : Int)) 29) 163); rw [← HV.out]))
  rw [← HB.out]
  have TC2 : Hid (V.heap[b]? = some (.cells (tblA (fun i => (longT i : Int)) 29) 163 (0, 0))) := Lib.hid (by rw [HB.out]; exact TC.out)
  have TD2 : Hid (V.heap[b + 1]? = some (.cells (tblA (fun i => (longX i : Int)) 29) 163 (0, 0))) := Lib.hid (by rw [HB.out]; exact TD.out)
  clear TC TD TA TB hz
  go_loopw [8, 9] (fun av iv wr => ∃ i a : Nat, i ≤ 29 ∧ a ≤ 29 ∧ iv = .int .i64 (i : Int) ∧ av = .int .i64 (a : Int) ∧ Hid (a = atN longT m i) ∧ V = wr) (fun _ iv _ => 29 - (intOf iv).toNat)
  case atStart => exact ⟨0, 0, Nat.zero_le _, Nat.zero_le _, rfl, rfl, Lib.hid rfl, rfl⟩
  case round =>
    obtain ⟨i, a, hi, ha, rfl, rfl, HA, rfl⟩ := hrel
    by_cases hlt : i < 29
    · have hlti : (i : Int) < 29 := by omega
      have c1 : V.cell? ⟨b, i, none⟩ = some (.int .i64 ((longT i : Nat) : Int)) := tbl_cell TC2.out hlt
      have hst : atN longT m (i + 1) = if longT i ≤ m then i else atN longT m i := rfl
      obtain ⟨t, ht⟩ : ∃ t, t = longT i := ⟨_, rfl⟩
      rw [← ht] at c1 hst
      clear ht
      by_cases htm : t ≤ m
      · have dt : decide ((t : Int) ≤ (m : Int)) = true := decY (by omega)
        have dt2 : decide (t ≤ m) = true := decY htm
        rw [if_pos htm] at hst
        have HST := Lib.hid hst
        clear hst
        go_wp2
        go_roundw
        case rel => exact ⟨i + 1, i, by omega, by omega, by go_num, rfl, Lib.hid HST.out.symm, trivial⟩
        case measure => simp [intOf]; omega
      · have dt : decide ((t : Int) ≤ (m : Int)) = false := decN (by omega)
        have dt2 : decide (t ≤ m) = false := decN htm
        rw [if_neg htm, ← HA.out] at hst
        have HST := Lib.hid hst
        clear hst
        go_wp2
        go_roundw
        case rel => exact ⟨i + 1, a, by omega, by omega, by go_num, rfl, Lib.hid HST.out.symm, trivial⟩
        case measure => simp [intOf]; omega
    · obtain rfl : i = 29 := by omega
      have hlti : ¬ ((29 : Nat) : Int) < 29 := by omega
      obtain rfl : a = I := HA.out.trans HI.out.symm
      have c1 : V.drew.cell? ⟨b, a, none⟩ = some (.int .i64 (tI : Int)) := by rw [HTI.out]; exact tbl_cell TC2.out q1
      have c2 : V.drew.cell? ⟨b + 1, a, none⟩ = some (.int .i64 (xI : Int)) := by rw [HXI.out]; exact tbl_cell TD2.out q1
      have c3 : V.cell? ⟨b, a, none⟩ = some (.int .i64 (tI : Int)) := c1
      have c4 : V.cell? ⟨b + 1, a, none⟩ = some (.int .i64 (xI : Int)) := c2
      have w1 : IntKind.i64.wrap ((m : Int) - (tI : Int)) = (uI : Int) := by rw [IntKind.wrap_i64]; have := HUI.out; have := HQ2.out; omega
      have w2 : IntKind.i64.wrap (257 + (a : Int)) = (sI : Int) := by rw [IntKind.wrap_i64]; have := HSI.out; omega
      have ha1 : (a : Int) < 29 := by omega
      have ha0 : ¬ (a : Int) < 0 := by omega
      have ha2 : ¬ (29 : Int) ≤ (a : Int) := by omega
      go_wp2
      go_region
      all_goals (
        go_wp2
        refine bodyPost_ret (results_tmp4 rfl _ _ _) rfl ?_
        exact ⟨rfl, Below.drew HBV.out⟩)
set_option maxRecDepth 100000 in
set_option maxHeartbeats 4000000 in
theorem rfar9_any (w : World) (n : Int) : Calls Tryz.prog 75 #[.int .i64 n] w fun e w' => e = .returned (.tuple #[.int .i64 (frS n), .int .i64 (frB n), .int .i64 (frX n), .int .i64 (frE n)]) ∧ Below w.heap.size w w' := by
  by_cases y0 : n < 1
  · have e1 : frS n = 0 := if_neg (by omega)
    have e2 : frB n = 0 := if_neg (by omega)
    have e3 : frX n = 0 := if_neg (by omega)
    have e4 : frE n = 2 := if_neg (by omega)
    rw [e1, e2, e3, e4]
    have d0 : decide (n < 1) = true := decY y0
    clear e1 e2 e3 e4
    go_enter Tryz.func75, Tryz.ntmps75
    go_wp2
    refine bodyPost_ret (results_tmp4 rfl _ _ _) rfl ?_
    exact ⟨rfl, Below.refl _ _⟩
  have d0 : decide (n < 1) = false := decN y0
  by_cases y1 : 32768 < n
  · have e1 : frS n = 0 := if_neg (by omega)
    have e2 : frB n = 0 := if_neg (by omega)
    have e3 : frX n = 0 := if_neg (by omega)
    have e4 : frE n = 2 := if_neg (by omega)
    rw [e1, e2, e3, e4]
    have d1 : decide (32768 < n) = true := decY y1
    clear e1 e2 e3 e4
    go_enter Tryz.func75, Tryz.ntmps75
    go_wp2
    refine bodyPost_ret (results_tmp4 rfl _ _ _) rfl ?_
    exact ⟨rfl, Below.refl _ _⟩
  have d1 : decide (32768 < n) = false := decN y1
  obtain ⟨m, rfl⟩ := Int.eq_ofNat_of_zero_le (show 0 ≤ n by omega)
  have hk : 1 ≤ (m : Int) ∧ (m : Int) ≤ 32768 := by omega
  have hz := (zero_of_info inforfars).1
  obtain ⟨I, hI⟩ : ∃ I, I = atN farT m 30 := ⟨_, rfl⟩
  obtain ⟨q1, q2, q3⟩ := atN_spec (T := farT) (n := m) (show 1 ≤ m by omega) 30 (by omega)
  rw [← hI] at q1 q2
  have e1 : frS (m : Int) = (((I : Nat)) : Int) := by unfold frS frI; rw [if_pos hk, Int.toNat_natCast, ← hI]
  have e2 : frB (m : Int) = ((farX I : Nat) : Int) := by unfold frB frI; rw [if_pos hk, Int.toNat_natCast, ← hI]
  have e3 : frX (m : Int) = ((m - farT I : Nat) : Int) := by
    unfold frX frI; rw [if_pos hk, Int.toNat_natCast, ← hI]
  have e4 : frE (m : Int) = 0 := if_pos hk
  obtain ⟨tI, htI⟩ : ∃ tI, tI = farT I := ⟨_, rfl⟩
  obtain ⟨xI, hxI⟩ : ∃ xI, xI = farX I := ⟨_, rfl⟩
  obtain ⟨uI, huI⟩ : ∃ uI, uI = m - farT I := ⟨_, rfl⟩
  obtain ⟨sI, hsI⟩ : ∃ sI, sI = I := ⟨_, rfl⟩
  rw [← hsI] at e1; rw [← hxI] at e2; rw [← huI] at e3
  rw [← htI] at huI q2
  rw [e1, e2, e3, e4]
  have hm3 : m ≤ 32768 := by omega
  have HTI := Lib.hid htI; have HXI := Lib.hid hxI; have HUI := Lib.hid huI; have HSI := Lib.hid hsI
  clear htI hxI huI hsI
  have HI := Lib.hid hI; have HQ2 := Lib.hid q2; have HLO := Lib.hid (rfars_any w)
  clear q3 e1 e2 e3 e4 hI q2
  go_enter Tryz.func75, Tryz.ntmps75
  go_wp2_with fail
  refine HLO.out.mono ?_
  rintro e w1 ⟨rfl, hb1⟩
  obtain ⟨t1, t2, t3, t4, t5⟩ := two_rows w1 (tblA (fun _ => 0) 30) (tblA (fun i => (farT i : Int)) 30) (tblA (fun i => (farX i : Int)) 30) 88
  obtain ⟨V, hV⟩ : ∃ V, V = twoV w1 (tblA (fun _ => 0) 30) (tblA (fun i => (farT i : Int)) 30) (tblA (fun i => (farX i : Int)) 30) 88 := ⟨_, rfl⟩
  rw [← hV] at t3 t4 t5
  have TA := Lib.hid t1; have TB := Lib.hid t2; have TC := Lib.hid t3; have TD := Lib.hid t4; have HBV := Lib.hid (hb1.trans (t5.mono hb1.size)); have HV := Lib.hid hV
  obtain ⟨b, hb⟩ : ∃ b, b = w1.heap.size := ⟨_, rfl⟩
  have HB := Lib.hid hb
  clear t1 t2 t3 t4 t5 hb1 hV hb
  go_wp2_with (first
    | (refine wpList_store_rowTo rfl _ _ _ rfl rfl w1.heap.size (tblA (fun i => (farT i : Int)) 30) rfl rfl 88 (tblA (fun _ => 0) 30) TA.out (szA30 _) (by rw [tblA_size, tblA_size]) (tblA_one _ _) ?_)
    | (refine wpList_store_rowTo rfl _ _ _ rfl rfl (w1.heap.size + 1) (tblA (fun i => (farX i : Int)) 30) rfl rfl 88 (tblA (fun _ => 0) 30) TB.out (szA30 _) (by rw [tblA_size, tblA_size]) (tblA_one _ _) ?_; change wpList _ _ _ _ _ (twoV w1 (tblA (fun _ => 0) 30) (tblA (fun i => (farT i : Int)) 30) (tblA (fun i => (farX i : Int)) 30) 88); rw [← HV.out]))
  rw [← HB.out]
  have TC2 : Hid (V.heap[b]? = some (.cells (tblA (fun i => (farT i : Int)) 30) 88 (0, 0))) := Lib.hid (by rw [HB.out]; exact TC.out)
  have TD2 : Hid (V.heap[b + 1]? = some (.cells (tblA (fun i => (farX i : Int)) 30) 88 (0, 0))) := Lib.hid (by rw [HB.out]; exact TD.out)
  clear TC TD TA TB hz
  go_loopw [8, 9] (fun av iv wr => ∃ i a : Nat, i ≤ 30 ∧ a ≤ 30 ∧ iv = .int .i64 (i : Int) ∧ av = .int .i64 (a : Int) ∧ Hid (a = atN farT m i) ∧ V = wr) (fun _ iv _ => 30 - (intOf iv).toNat)
  case atStart => exact ⟨0, 0, Nat.zero_le _, Nat.zero_le _, rfl, rfl, Lib.hid rfl, rfl⟩
  case round =>
    obtain ⟨i, a, hi, ha, rfl, rfl, HA, rfl⟩ := hrel
    by_cases hlt : i < 30
    · have hlti : (i : Int) < 30 := by omega
      have c1 : V.cell? ⟨b, i, none⟩ = some (.int .i64 ((farT i : Nat) : Int)) := tbl_cell TC2.out hlt
      have hst : atN farT m (i + 1) = if farT i ≤ m then i else atN farT m i := rfl
      obtain ⟨t, ht⟩ : ∃ t, t = farT i := ⟨_, rfl⟩
      rw [← ht] at c1 hst
      clear ht
      by_cases htm : t ≤ m
      · have dt : decide ((t : Int) ≤ (m : Int)) = true := decY (by omega)
        have dt2 : decide (t ≤ m) = true := decY htm
        rw [if_pos htm] at hst
        have HST := Lib.hid hst
        clear hst
        go_wp2
        go_roundw
        case rel => exact ⟨i + 1, i, by omega, by omega, by go_num, rfl, Lib.hid HST.out.symm, trivial⟩
        case measure => simp [intOf]; omega
      · have dt : decide ((t : Int) ≤ (m : Int)) = false := decN (by omega)
        have dt2 : decide (t ≤ m) = false := decN htm
        rw [if_neg htm, ← HA.out] at hst
        have HST := Lib.hid hst
        clear hst
        go_wp2
        go_roundw
        case rel => exact ⟨i + 1, a, by omega, by omega, by go_num, rfl, Lib.hid HST.out.symm, trivial⟩
        case measure => simp [intOf]; omega
    · obtain rfl : i = 30 := by omega
      have hlti : ¬ ((30 : Nat) : Int) < 30 := by omega
      obtain rfl : a = I := HA.out.trans HI.out.symm
      have c1 : V.drew.cell? ⟨b, a, none⟩ = some (.int .i64 (tI : Int)) := by rw [HTI.out]; exact tbl_cell TC2.out q1
      have c2 : V.drew.cell? ⟨b + 1, a, none⟩ = some (.int .i64 (xI : Int)) := by rw [HXI.out]; exact tbl_cell TD2.out q1
      have c3 : V.cell? ⟨b, a, none⟩ = some (.int .i64 (tI : Int)) := c1
      have c4 : V.cell? ⟨b + 1, a, none⟩ = some (.int .i64 (xI : Int)) := c2
      have w1 : IntKind.i64.wrap ((m : Int) - (tI : Int)) = (uI : Int) := by rw [IntKind.wrap_i64]; have := HUI.out; have := HQ2.out; omega
      obtain rfl : a = sI := HSI.out.symm
      have ha1 : (a : Int) < 30 := by omega
      have ha0 : ¬ (a : Int) < 0 := by omega
      have ha2 : ¬ (30 : Int) ≤ (a : Int) := by omega
      go_wp2
      go_region
      all_goals (
        go_wp2
        refine bodyPost_ret (results_tmp4 rfl _ _ _) rfl ?_
        exact ⟨rfl, Below.drew HBV.out⟩)
end Go.Proofs.YtjhljkhgjcckhaaGreat

