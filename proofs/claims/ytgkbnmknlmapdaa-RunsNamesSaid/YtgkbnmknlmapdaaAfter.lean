/-
  Words for every layer: a region that draws its order, whose operations only read and whose callees leave all that was there: walked once, in the order of the text, over the class of all worlds that come after.
-/
import Derived.Test.YtgkbnmknlmapdaaBase
import Derived.Deep.MidRow
import Derived.Laws.StructEq
namespace Go.Proofs.Ytgkbnmknlmapdaa
open Go.RowKit
/-- A world that comes after U: below block n all is as it was. -/
structure After (n : Nat) (U : World) where
  w : World
  h : Below n U w
instance After.some (n : Nat) (U : World) : Inhabited (After n U) := ⟨⟨U, Below.refl n U⟩⟩
theorem wp_region_after {P : Program} {id : Nat} {Q : Exit → Act → World → Prop} {a : Act} {w : World} {l : List Oper} (n : Nat) (U : World) (hU : Below n U w) (hm : P.follows .mixedOrders = true) (hB : Region.lexB .any l.toArray = true)
    (h : wpQuiet P l.toArray (fun V => ∃ p : After n U, V = p.w) (fun a' => ∀ V, (∃ p : After n U, V = p.w) → Q .normal a' V) l a) : (Code.region id l.toArray true).wp P Q a w :=
  wp_region_quiet (C := fun V => ∃ p : After n U, V = p.w) hm hB ⟨⟨_, hU.drew⟩, rfl⟩ (by simpa using h)
/-- A callee that leaves all that was there. -/
theorem call_after {P : Program} {f : FuncId} {args : Array Value} {n : Nat} {U : World} {v : Value} (h : ∀ V, Below n U V → Calls P f args V fun e V' => e = .returned v ∧ Below n U V') (p : After n U) :
    Calls P f args p.w fun e w'' => e = .returned v ∧ ∃ q : After n U, w'' = q.w :=
  (h p.w p.h).mono fun _ _ ⟨he, hb⟩ => ⟨he, ⟨_, hb⟩, rfl⟩
/-- A whole array, read in such a region. -/
theorem quiet_load_row {P : Program} {C : World → Prop} {K : Act → Prop} {a : Act} {o : Oper} (ty : TypeId) (x : Operand) (ho : o.op = .load ty x) (b k : Nat) (hx : a.eval x = .pointer (some ⟨b, k, none⟩)) (cs : List Value) (d : TypeDesc)
    (hS : ∀ V, C V → V.rangeAt b k cs) (hu : P.underlying ty = some d) (hd : d.isRow = true) (hi : (P.info? ty).map (·.size) = some cs.length) (hk : K (a.put o.dst (.agg cs.toArray))) : o.quiet P a C K :=
  ⟨_, fun w hw => by
    unfold Oper.quietAt execOp
    simp only [ho, hx, Instr.loadAt, Instr.sureAddr, Sem.run_bind, Sem.run_pure, Result.andThen_ok, run_loadVar_mid w b k ty cs d (hS w hw) hu hd hi]
    exact ⟨rfl, rfl⟩, hk⟩
/-- Two values compared in a region that draws and only reads. -/
theorem quiet_neq {P : Program} {C : World → Prop} {K : Act → Prop} {a : Act} {o : Oper} (ty : TypeId) (x y : Operand) (ho : o.op = .binOp .neq ty x y ty) (u v : Value) (b : Bool) (hx : a.eval x = u) (hy : a.eval y = v)
    (hg : ∀ w, (eqGuard .neq ty x y u v).run P w = .ok () w) (hrun : ∀ w, (binOp .neq ty u v).run P w = .ok (.bool b) w) (hk : K (a.put o.dst (.bool b))) : o.quiet P a C K :=
  ⟨_, fun w hw => by
    unfold Oper.quietAt execOp
    simp only [ho, hx, hy, Sem.run_bind, hg, hrun, Result.andThen_ok]
    exact ⟨rfl, rfl⟩, hk⟩
end Go.Proofs.Ytgkbnmknlmapdaa
