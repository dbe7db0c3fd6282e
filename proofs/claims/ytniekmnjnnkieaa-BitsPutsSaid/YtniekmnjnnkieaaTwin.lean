/-
  Layer 1 (bits), the document's own answer: what its Twin makes of every pen.
-/
import Derived.Test.YtniekmnjnnkieaaAli
import Derived.Deep.RegionLaw
namespace Go.Proofs.Ytniekmnjnnkieaa
open Go.RowKit
theorem ownsRow_lower {w : World} {base base' : Nat} {e : TypeId} {size : Nat} {v : Value} {n : Nat} {xs : List Value} (h : w.ownsRow base e size v n xs) (hb : base' ≤ base) : w.ownsRow base' e size v n xs := by
  obtain ⟨h1, h2⟩ := h
  refine ⟨h1, ?_⟩
  rcases h2 with h2 | ⟨g, cap, cur, hv, hg, r⟩
  · exact .inl h2
  · exact .inr ⟨g, cap, cur, hv, by omega, r⟩
/-- append([]byte(nil), b...) as one step of a statement whose order is open. -/
theorem step_twin {ops : Array Oper} {o : Oper} {a : Act} {w : World} {K : Act → World → Prop} {Q : Exit → Act → World → Prop} {E : Prop} (hgd : o.guard = none) (s x : Operand)
    (ho : o.op = .call { callee := .builtin .append, args := #[s, x], argTypes := #[22, 22] }) (B : Nat) (A : Option Addr) (n c : Nat) (f : Nat → Nat) (hs : a.eval s = .slice none 0 0) (hx : a.eval x = .slice A n c)
    (hr : RdB w B A n f) (hn : n ≤ 1000000000000) (hA : A = none → c = 0)
    (h : ∀ A' c' w', w'.ownsRow w.heap.size 5 1 (.slice A' n c') n (bytesL n f) → Below w.heap.size w w' → K (a.put o.dst (.slice A' n c')) w') :
    if Region.wanted o (yielded ops a.tmps) = true then Oper.wp Try.prog o a w K Q else E := by
  have hw : Region.wanted o (yielded ops a.tmps) = true := by simp [Region.wanted, hgd]
  rw [if_pos hw]
  obtain ⟨A', c', w', hrun, h1, h2, _⟩ := run_twin w B A n c f hr hn o.type hA
  unfold Oper.wp
  simp [execOp, ho, resolve, invoke, builtin, hs, hx, hrun, Result.andThen]
  exact h A' c' w' h1 h2
theorem RdB.drew {w : World} {B n : Nat} {A : Option Addr} {f : Nat → Nat} (h : RdB w B A n f) : RdB w.drew B A n f := h
theorem undrew {B : Nat} {w w' : World} (h : Below B w.drew w') : Below B w w' := ⟨h.os, h.tape, h.output, h.size, h.block⟩
set_option maxHeartbeats 1000000 in
theorem twin_any (w : World) (A : Option Addr) (n c : Nat) (f : Nat → Nat) (k : Int) (hr : RdB w w.heap.size A n f) (hn : n ≤ 1000000000000) (hA : A = none → c = 0) :
    Calls Try.prog 19 #[.agg #[.slice A n c, .int .i64 k]] w fun e w' => ∃ A' c', e = .returned (.agg #[.slice A' n c', .int .i64 k]) ∧ w'.ownsRow w.heap.size 5 1 (.slice A' n c') n (bytesL n f) ∧ Below w.heap.size w w' := by
  have HR := Lib.hid hr
  have HA := Lib.hid hA
  clear hr hA
  go_enter Try.func19, Try.ntmps19
  go_wp2
  go_region_law ((refine step_twin rfl _ _ rfl _ A n c f rfl rfl (two_rd HR.out _ _).drew hn HA.out ?_; intro A' c' w4 ho hb; have HO := Lib.hid ho; have HB := Lib.hid (undrew (hb.mono (B' := w.heap.size + 1 + 1) (by simp))); clear ho hb; obtain ⟨k2, k3, k4, k5, k6, k7⟩ := two_blocks HB.out))
  all_goals (
    go_wp2
    refine bodyPost_ret (v := .agg #[.slice A' n c', .int .i64 k]) (by simp [results, Try.results19, go_sem, k2, k3]) rfl ⟨A', c', rfl, ?_, two_below HB.out _ _⟩
    exact ownsRow_lower (ownsRow_setCell_below (ownsRow_setCell_below HO.out (a := ⟨w.heap.size + 1, 0, none⟩) (by simp) _) (a := ⟨w.heap.size + 1, 1, none⟩) (by simp) _) (by simp; omega))
end Go.Proofs.Ytniekmnjnnkieaa
