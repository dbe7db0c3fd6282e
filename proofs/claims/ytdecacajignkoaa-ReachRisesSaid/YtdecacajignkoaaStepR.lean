/-
  Words for every layer: a store of a whole row as one step of a statement whose order is open; tables of numbers by value.
-/
import Derived.Test.YtdecacajignkoaaStepC
import Derived.Great.BuildSlice
import Derived.Laws.Tables
import Derived.StillTailTactics
namespace Go.Proofs.Ytdecacajignkoaa
open Go.RowKit
theorem step_store_row {ops : Array Oper} {o : Oper} {a : Act} {w : World} {K : Act → World → Prop} {Q : Exit → Act → World → Prop} {E : Prop} (hgd : o.guard = none) (ty : TypeId) (x y : Operand) (ho : o.op = .store ty x y) (hdst : o.dst = none)
    (g : Nat) (cells : Array Value) (hx : a.eval x = .pointer (some ⟨g, 0, none⟩)) (hy : a.eval y = .agg cells)
    (t : TypeId) (old : Array Value) (hg : w.heap[g]? = some (.cells old t (0, 0))) (hi : (Try.prog.info? ty).map (·.size) = some cells.size) (hold : old.size = cells.size) (h1 : cells.all (·.oneCell') = true) (h : K a (w.setRow g cells)) :
    if Region.wanted o (yielded ops a.tmps) = true then Oper.wp Try.prog o a w K Q else E := by
  rw [if_pos (by simp [Region.wanted, hgd])]
  unfold Oper.wp execOp
  have := run_storeVar_row (P := Try.prog) w g t ty old cells hg hi hold h1
  simp [ho, hx, hy, Instr.storeAt, Instr.sureAddr, this, Result.andThen]
  show K (a.put o.dst undef) (w.setRow g cells)
  rw [show a.put o.dst undef = a by rw [hdst]; rfl]
  exact h
/-- A whole row, read in the part of a statement that only reads. -/
theorem still_load_row {ops : Array Oper} {w : World} {Q : Act → Prop} {a : Act} {o : Oper} {rest : List Oper} (hgd : o.guard = none) (ty : TypeId) (x : Operand) (ho : o.op = .load ty x) (b k : Nat) (hx : a.eval x = .pointer (some ⟨b, k, none⟩)) (cs : List Value) (d : TypeDesc)
    (hS : w.rangeAt b k cs) (hu : Try.prog.underlying ty = some d) (hd : d.isRow = true) (hi : (Try.prog.info? ty).map (·.size) = some cs.length) (h : wpStill Try.prog ops w Q rest (a.put o.dst (.agg cs.toArray))) : wpStill Try.prog ops w Q (o :: rest) a :=
  wpStill_step fun K hK => by
    rw [if_pos (by simp [Region.wanted, hgd])]
    unfold Oper.still execOp
    simp only [ho, hx, Instr.loadAt, Instr.sureAddr, Sem.run_bind, Sem.run_pure, Result.andThen_ok, run_loadVar_mid w b k ty cs d hS hu hd hi]
    exact ⟨rfl, hK _ h⟩
theorem results_tmp4 {fn : Func} {t u v x : Tmp} (h : fn.results = #[.tmp t, .tmp u, .tmp v, .tmp x]) (tmps : Array Value) (P : Program) (w : World) :
    (results fn tmps).run P w = .ok (.tuple #[tmps.getD t undef, tmps.getD u undef, tmps.getD v undef, tmps.getD x undef]) w := by
  simp [results, h, go_sem]
/-- A table of n numbers, by value. -/
def tblL (T : Nat → Int) (n : Nat) : List Value := (List.range n).map fun i => .int .i64 (T i)
def tblA (T : Nat → Int) (n : Nat) : Array Value := (tblL T n).toArray
theorem tblA_size (T : Nat → Int) (n : Nat) : (tblA T n).size = n := by simp [tblA, tblL]
theorem tblL_length (T : Nat → Int) (n : Nat) : (tblL T n).length = n := by simp [tblL]
theorem tblA_one (T : Nat → Int) (n : Nat) : (tblA T n).all (·.oneCell') = true :=
  all_oneCell_toArray fun u hu => by
    unfold tblL at hu
    obtain ⟨i, _, rfl⟩ := List.mem_map.1 hu; rfl
theorem tblA_get (T : Nat → Int) (n i : Nat) (h : i < n) : (tblA T n)[i]? = some (.int .i64 (T i)) := by simp [tblA, tblL, h]
theorem tbl_cell {w : World} {g : Nat} {T : Nat → Int} {n : Nat} {t : TypeId} (hg : w.heap[g]? = some (.cells (tblA T n) t (0, 0))) {i : Nat} (h : i < n) : w.cell? ⟨g, i, none⟩ = some (.int .i64 (T i)) :=
  (cell_of_row w g _ _ _ (0, 0) hg).trans (tblA_get T n i h)
end Go.Proofs.Ytdecacajignkoaa
