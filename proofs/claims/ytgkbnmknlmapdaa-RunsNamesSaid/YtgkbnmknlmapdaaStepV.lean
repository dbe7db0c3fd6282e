/-
  Words for every layer: a call of a function value (a closure) as one step of a statement whose order is open; a variable of two cells, made ahead of a call.
-/
import Derived.Test.YtgkbnmknlmapdaaStepC
namespace Go.Proofs.Ytgkbnmknlmapdaa
open Go.RowKit
theorem step_callv {ops : Array Oper} {o : Oper} {a : Act} {w : World} {K : Act → World → Prop} {Q : Exit → Act → World → Prop} {E : Prop} (hgd : o.guard = none) (f : FuncId) (cap : Array Value) (x : Operand) (xs : Array Operand) (ts : Array TypeId)
    (ho : o.op = .call { callee := .value x, args := xs, argTypes := ts }) (hv : a.eval x = .func (.func f) #[] cap) (eg : ∀ args w, (callFunc f args).run Try.prog w = .ok (.enter f args) w) (args : Array Value) (hx : xs.map a.eval ++ cap = args) {R : Ending → World → Prop} (hc : Calls Try.prog f args w R)
    (h : ∀ e w', R e w' → ∃ v, e = .returned v ∧ K (a.put o.dst v) w') :
    if Region.wanted o (yielded ops a.tmps) = true then Oper.wp Try.prog o a w K Q else E := by
  have hw : Region.wanted o (yielded ops a.tmps) = true := by simp [Region.wanted, hgd]
  rw [if_pos hw]
  unfold Oper.wp
  have hall : ∀ ρ : Operand → Value, ρ x = .func (.func f) #[] cap → xs.map ρ ++ cap = args → (execOp ρ o).run Try.prog w = .ok (.enter f args) w := by
    intro ρ h1 h2
    simp [execOp, ho, resolve, invoke, h1, h2, go_sem, eg, Deferred.ofValue]
  rw [hall _ hv hx]
  refine hc.mono fun e w' hr => ?_
  obtain ⟨v, rfl, hk⟩ := h e w' hr
  exact hk
/-- A variable of two cells. -/
structure BoxW (w : World) (X : Nat) (x y : Value) : Prop where
  lt : X < w.heap.size
  c0 : w.cell? ⟨X, 0, none⟩ = some x
  c1 : w.cell? ⟨X, 1, none⟩ = some y
  f0 : w.frozen? ⟨X, 0, none⟩ = false
  f1 : w.frozen? ⟨X, 1, none⟩ = false
theorem BoxW.new (U : World) (x y : Value) (t : TypeId) : BoxW (U.alloc (.cells #[x, y] t)) U.heap.size x y := by
  have hn := heap_alloc_new U (.cells #[x, y] t)
  refine ⟨by simp, ?_, ?_, ?_, ?_⟩
  · exact (cell_of_row (U.alloc (.cells #[x, y] t)) _ 0 _ t (0, 0) hn).trans rfl
  · exact (cell_of_row (U.alloc (.cells #[x, y] t)) _ 1 _ t (0, 0) hn).trans rfl
  · exact frozen_of_row (U.alloc (.cells #[x, y] t)) _ 0 _ _ hn
  · exact frozen_of_row (U.alloc (.cells #[x, y] t)) _ 1 _ _ hn
theorem BoxW.drew {w : World} {X : Nat} {x y : Value} (h : BoxW w X x y) (n : Nat) : BoxW (w.drewN n) X x y := ⟨h.lt, h.c0, h.c1, h.f0, h.f1⟩
theorem BoxW.below {w w' : World} {X B : Nat} {x y : Value} (h : BoxW w X x y) (hb : Below B w w') (hB : X < B) : BoxW w' X x y :=
  ⟨Nat.lt_of_lt_of_le h.lt hb.size, (hb.cell (p := ⟨X, 0, none⟩) hB).trans h.c0, (hb.cell (p := ⟨X, 1, none⟩) hB).trans h.c1, (hb.frozen (p := ⟨X, 0, none⟩) hB).trans h.f0, (hb.frozen (p := ⟨X, 1, none⟩) hB).trans h.f1⟩
theorem BoxW.set {w : World} {X : Nat} {x y : Value} (h : BoxW w X x y) (p q : Value) : BoxW ((w.setCell ⟨X, 0, none⟩ p).setCell ⟨X, 1, none⟩ q) X p q := by
  obtain ⟨h1, h2⟩ := box_set2 (p := p) (q := q) h.c0 h.c1
  refine ⟨by have := h.lt; simpa [World.setCell] using this, h1, h2, ?_, ?_⟩
  · simpa using h.f0
  · simpa using h.f1
end Go.Proofs.Ytgkbnmknlmapdaa
