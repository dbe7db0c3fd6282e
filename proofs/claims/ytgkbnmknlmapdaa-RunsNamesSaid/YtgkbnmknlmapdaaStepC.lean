/-
  Words for every layer: a call of a function of the program as one step of a statement whose order is open.
-/
import Derived.Test.YtgkbnmknlmapdaaBase
import Derived.Deep.RegionLaw
import Derived.Deep.MidRow
import Derived.Shelf.Abstract
namespace Go.Proofs.Ytgkbnmknlmapdaa
open Go.RowKit
theorem step_call {ops : Array Oper} {o : Oper} {a : Act} {w : World} {K : Act → World → Prop} {Q : Exit → Act → World → Prop} {E : Prop} (hgd : o.guard = none) (f : FuncId) (xs : Array Operand) (ts : Array TypeId)
    (ho : o.op = .call { callee := .value (.func f), args := xs, argTypes := ts }) (eg : ∀ args w, (callFunc f args).run Try.prog w = .ok (.enter f args) w) (args : Array Value) (hx : xs.map a.eval = args) {R : Ending → World → Prop} (hc : Calls Try.prog f args w R)
    (h : ∀ e w', R e w' → ∃ v, e = .returned v ∧ K (a.put o.dst v) w') :
    if Region.wanted o (yielded ops a.tmps) = true then Oper.wp Try.prog o a w K Q else E := by
  have hw : Region.wanted o (yielded ops a.tmps) = true := by simp [Region.wanted, hgd]
  rw [if_pos hw]
  unfold Oper.wp
  have hrun : (execOp a.eval o).run Try.prog w = .ok (.enter f args) w := by
    simp [execOp, ho, resolve, invoke, hx, go_sem, eg, Deferred.ofValue]
  rw [hrun]
  refine hc.mono fun e w' hr => ?_
  obtain ⟨v, rfl, hk⟩ := h e w' hr
  exact hk
/-- The same of a guarded operation. -/
theorem step_call_on {ops : Array Oper} {o : Oper} {a : Act} {w : World} {K : Act → World → Prop} {Q : Exit → Act → World → Prop} {E : Prop} (hw : Region.wanted o (yielded ops a.tmps) = true) (f : FuncId) (xs : Array Operand) (ts : Array TypeId)
    (ho : o.op = .call { callee := .value (.func f), args := xs, argTypes := ts }) (eg : ∀ args w, (callFunc f args).run Try.prog w = .ok (.enter f args) w) (args : Array Value) (hx : xs.map a.eval = args) {R : Ending → World → Prop} (hc : Calls Try.prog f args w R)
    (h : ∀ e w', R e w' → ∃ v, e = .returned v ∧ K (a.put o.dst v) w') :
    if Region.wanted o (yielded ops a.tmps) = true then Oper.wp Try.prog o a w K Q else E := by
  rw [if_pos hw]
  unfold Oper.wp
  have hrun : (execOp a.eval o).run Try.prog w = .ok (.enter f args) w := by
    simp [execOp, ho, resolve, invoke, hx, go_sem, eg, Deferred.ofValue]
  rw [hrun]
  refine hc.mono fun e w' hr => ?_
  obtain ⟨v, rfl, hk⟩ := h e w' hr
  exact hk
/-- A whole array or struct, read as one step of such a statement. -/
theorem step_row {ops : Array Oper} {o : Oper} {a : Act} {w : World} {K : Act → World → Prop} {Q : Exit → Act → World → Prop} {E : Prop} (hgd : o.guard = none) (ty : TypeId) (x : Operand) (ho : o.op = .load ty x) (b k : Nat) (hx : a.eval x = .pointer (some ⟨b, k, none⟩)) (cs : List Value) (d : TypeDesc)
    (hS : w.rangeAt b k cs) (hu : Try.prog.underlying ty = some d) (hd : d.isRow = true) (hi : (Try.prog.info? ty).map (·.size) = some cs.length) (h : K (a.put o.dst (.agg cs.toArray)) w) :
    if Region.wanted o (yielded ops a.tmps) = true then Oper.wp Try.prog o a w K Q else E := by
  rw [if_pos (by simp [Region.wanted, hgd])]
  unfold Oper.wp execOp
  simp only [ho, hx, Instr.loadAt, Instr.sureAddr, Sem.run_bind, Sem.run_pure, Result.andThen_ok, run_loadVar_mid w b k ty cs d hS hu hd hi]
  exact h
/-- A variable of two cells, made ahead of a call, behind it. -/
theorem box_kept2 {U w' : World} {x y : Value} {t : TypeId} (h : Below (U.alloc (.cells #[x, y] t)).drew.heap.size (U.alloc (.cells #[x, y] t)).drew w') :
    w'.cell? ⟨U.heap.size, 0, none⟩ = some x ∧ w'.cell? ⟨U.heap.size, 1, none⟩ = some y ∧ w'.frozen? ⟨U.heap.size, 0, none⟩ = false ∧ w'.frozen? ⟨U.heap.size, 1, none⟩ = false := by
  have hs : U.heap.size < (U.alloc (.cells #[x, y] t)).drew.heap.size := by show U.heap.size < (U.alloc (.cells #[x, y] t)).heap.size; simp
  have hn := heap_alloc_new U (.cells #[x, y] t)
  refine ⟨?_, ?_, ?_, ?_⟩
  · rw [h.cell (p := ⟨U.heap.size, 0, none⟩) hs]; exact (cell_of_row (U.alloc (.cells #[x, y] t)) _ 0 _ t (0, 0) hn).trans rfl
  · rw [h.cell (p := ⟨U.heap.size, 1, none⟩) hs]; exact (cell_of_row (U.alloc (.cells #[x, y] t)) _ 1 _ t (0, 0) hn).trans rfl
  · rw [h.frozen (p := ⟨U.heap.size, 0, none⟩) hs]; exact frozen_of_row (U.alloc (.cells #[x, y] t)) _ 0 _ _ hn
  · rw [h.frozen (p := ⟨U.heap.size, 1, none⟩) hs]; exact frozen_of_row (U.alloc (.cells #[x, y] t)) _ 1 _ _ hn
theorem box_set2 {w : World} {X : Nat} {x y p q : Value} (h0 : w.cell? ⟨X, 0, none⟩ = some x) (h1 : w.cell? ⟨X, 1, none⟩ = some y) :
    ((w.setCell ⟨X, 0, none⟩ p).setCell ⟨X, 1, none⟩ q).cell? ⟨X, 0, none⟩ = some p ∧ ((w.setCell ⟨X, 0, none⟩ p).setCell ⟨X, 1, none⟩ q).cell? ⟨X, 1, none⟩ = some q :=
  ⟨(World.cell?_setCell_other _ _ _ _ (by simp)).trans (World.cell?_setCell_same _ _ _ h0), World.cell?_setCell_same _ _ _ ((World.cell?_setCell_other _ _ _ _ (by simp)).trans h1)⟩
end Go.Proofs.Ytgkbnmknlmapdaa
