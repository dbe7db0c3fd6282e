/-
  Layer 10 (runs): runs in memory, two cells each.
-/
import Derived.Test.YtgkbnmknlmapdaaRunNum
import Derived.Test.YtgkbnmknlmapdaaApp
import Derived.Test.YtgkbnmknlmapdaaConcat
import Derived.Deep.MidRow
import Derived.Deep.SlicePairs
import Derived.Lib.SmallJoins
import Derived.BigQuiet
namespace Go.Proofs.Ytgkbnmknlmapdaa
open Go.RowKit Go.ChangeShapes Go.WideShapes Go.ChangeAt Go.Joins
def run0 : Int × Int := (0, 0)
def runC (r : Int × Int) : List Value := [.int .i64 r.1, .int .i64 r.2]
def runsL : List (Int × Int) → List Value
  | [] => []
  | r :: l => runC r ++ runsL l
theorem runsL_length : ∀ l, (runsL l).length = l.length * 2
  | [] => rfl
  | r :: l => by simp only [runsL, List.length_append, List.length_cons, runsL_length l]; simp [runC]; omega
theorem runsL_app : ∀ l m, runsL (l ++ m) = runsL l ++ runsL m
  | [], _ => rfl
  | r :: l, m => by simp [runsL, runsL_app l m]
theorem runsL_get : ∀ (l : List (Int × Int)) (j i : Nat), j < l.length → i < 2 → (runsL l)[j * 2 + i]? = (runC (l.getD j run0))[i]?
  | [], j, i, h, _ => absurd h (by simp)
  | r :: l, 0, i, _, hi => by
    simp only [runsL, Nat.zero_mul, Nat.zero_add]
    rw [List.getElem?_append_left (by simpa [runC] using hi)]
    rfl
  | r :: l, j + 1, i, h, hi => by
    simp only [runsL]
    rw [List.getElem?_append_right (by simp [runC]; omega)]
    have e : (j + 1) * 2 + i - (runC r).length = j * 2 + i := by simp [runC]; omega
    rw [e, runsL_get l j i (by simpa using h) hi]
    rfl
theorem runsL_one (l : List (Int × Int)) : ∀ u ∈ runsL l, u.oneCell' = true := by
  induction l with
  | nil => intro u hu; simp [runsL] at hu
  | cons r l ih =>
    intro u hu
    simp only [runsL, List.mem_append] at hu
    rcases hu with hu | hu
    · simp [runC] at hu; rcases hu with rfl | rfl <;> rfl
    · exact ih u hu
theorem infoRun : (Try.prog.info? 25).map (fun i => (i.zero, i.size, i.bytes)) = some (some (.agg #[.int .i64 0, .int .i64 0]), 2, 16) := by kernel_rfl
theorem szRun : (Try.prog.info? 25).map (·.size) = some 2 := by kernel_rfl
def RdU (w : World) (B : Nat) (A : Option Addr) (l : List (Int × Int)) : Prop := SrcL w B 2 A l.length (runsL l)
theorem RdU.below {w w' : World} {B B' : Nat} {A : Option Addr} {l : List (Int × Int)} (h : RdU w B A l) (hb : Below B' w w') (hB : B ≤ B') : RdU w' B A l := SrcL.below h hb hB
theorem RdU.more {w : World} {B B' : Nat} {A : Option Addr} {l : List (Int × Int)} (h : RdU w B A l) (hB : B ≤ B') : RdU w B' A l := SrcL.more h hB
theorem RdU.nil (w : World) (B : Nat) (A : Option Addr) : RdU w B A [] := SrcL.none_ w B 2 A
theorem RdU.of_own {w : World} {base c n : Nat} {A : Option Addr} {l : List (Int × Int)} (h : w.ownsRow base 25 2 (.slice A n c) n (runsL l)) : n = l.length ∧ RdU w w.heap.size A l := by
  have h1 := SrcL.of_own h
  have h2 := h1.1
  rw [runsL_length] at h2
  obtain rfl : n = l.length := by omega
  exact ⟨rfl, h1⟩
theorem RdU.at {w : World} {B : Nat} {A : Option Addr} {l : List (Int × Int)} (h : RdU w B A l) {k : Nat} (hk : k < l.length) : ∃ b o, A = some ⟨b, o, none⟩ ∧ b < B ∧ ∀ j, j < l.length →
    w.cell? ⟨b, o + j * 2, none⟩ = some (.int .i64 (l.getD j run0).1) ∧ w.cell? ⟨b, o + j * 2 + 1, none⟩ = some (.int .i64 (l.getD j run0).2) := by
  obtain ⟨b, o, h1, h2, h3⟩ := h.2 (by omega)
  refine ⟨b, o, h1, h2, fun j hj => ⟨?_, ?_⟩⟩
  · have := h3 (j * 2 + 0) _ ((runsL_get l j 0 hj (by omega)).trans rfl)
    simpa using this
  · have := h3 (j * 2 + 1) _ ((runsL_get l j 1 hj (by omega)).trans rfl)
    rw [show o + j * 2 + 1 = o + (j * 2 + 1) by omega]; exact this
theorem RdU.range {w : World} {B : Nat} {A : Option Addr} {l : List (Int × Int)} (h : RdU w B A l) {b o : Nat} (hA : A = some ⟨b, o, none⟩) {j : Nat} (hj : j < l.length) : w.rangeAt b (o + j * 2) (runC (l.getD j run0)) := by
  obtain ⟨b', o', h1, _, h3⟩ := h.at hj
  rw [hA] at h1
  injection h1 with h1
  injection h1 with hb ho _
  subst hb; subst ho
  obtain ⟨c0, c1⟩ := h3 j hj
  intro i v hv
  rcases i with _ | _ | i
  · simp [runC] at hv; subst hv; exact c0
  · simp [runC] at hv; subst hv; exact c1
  · simp [runC] at hv
/-- One more run behind a row of the call's own. -/
theorem run_oneU (w : World) (base : Nat) (A : Option Addr) (n c : Nat) (l : List (Int × Int)) (hown : w.ownsRow base 25 2 (.slice A n c) n (runsL l)) (r : Int × Int) (hn : n ≤ 1000000) (hbase : base ≤ w.heap.size) :
    ∃ A' c' w', (Builtin.append_ #[26, 26] 26 #[.slice A n c, .slice (some ⟨w.heap.size, 0, none⟩) 1 1]).run Try.prog (w.alloc (.cells #[.int .i64 r.1, .int .i64 r.2] 25)) = .ok (.slice A' (n + 1) c') w' ∧
      w'.ownsRow base 25 2 (.slice A' (n + 1) c') (n + 1) (runsL (l ++ [r])) ∧ Below base w w' := by
  have hb1 : Below base w (w.alloc (.cells #[.int .i64 r.1, .int .i64 r.2] 25)) := (Below.refl base w).alloc hbase _
  obtain ⟨A', c', w', h2, o2, b2⟩ := run_app (by_ := 16) Try.underlying26 infoRun rfl (by decide) (w.alloc (.cells #[.int .i64 r.1, .int .i64 r.2] 25)) base _ (.slice A n c) n _ (hown.alloc _) _ 1 1 _
    (SrcL.new w 2 1 #[.int .i64 r.1, .int .i64 r.2] 25 rfl) (fun u hu => by simp at hu; rcases hu with rfl | rfl <;> rfl) (by unfold maxLen; omega) (by omega) 26 (fun h => by cases h) (Nat.le_trans hbase hb1.size)
  refine ⟨A', c', w', h2, ?_, hb1.trans b2⟩
  rw [runsL_app]
  exact o2
/-- A slice of runs, its room too. -/
def RuR (w : World) (B : Nat) (A : Option Addr) (n c : Nat) (l : List (Int × Int)) : Prop := n = l.length ∧ RdU w B A l ∧ (A = none → c = 0) ∧ n ≤ c ∧ c ≤ maxLen
theorem RuR.below {w w' : World} {B B' n c : Nat} {A : Option Addr} {l : List (Int × Int)} (h : RuR w B A n c l) (hb : Below B' w w') (hB : B ≤ B') : RuR w' B A n c l := ⟨h.1, h.2.1.below hb hB, h.2.2⟩
theorem RuR.more {w : World} {B B' n c : Nat} {A : Option Addr} {l : List (Int × Int)} (h : RuR w B A n c l) (hB : B ≤ B') : RuR w B' A n c l := ⟨h.1, h.2.1.more hB, h.2.2⟩
theorem RuR.nil (w : World) (B : Nat) : RuR w B none 0 0 [] := ⟨rfl, RdU.nil w B none, fun _ => rfl, Nat.le_refl _, by unfold maxLen; omega⟩
theorem RuR.of_own {w : World} {base n c : Nat} {A : Option Addr} {l : List (Int × Int)} (h : w.ownsRow base 25 2 (.slice A n c) n (runsL l)) : RuR w w.heap.size A n c l := by
  obtain ⟨h1, h2⟩ := RdU.of_own h
  refine ⟨h1, h2, ?_⟩
  rcases h.2 with ⟨hv, h0⟩ | ⟨g, cap, cur, hv, _, _, k1, k2, _⟩
  · injection hv with h3 h4 h5
    exact ⟨fun _ => h5, by omega, by unfold maxLen; omega⟩
  · injection hv with h3 h4 h5
    exact ⟨(fun h => by rw [h] at h3; cases h3), by omega, by omega⟩
end Go.Proofs.Ytgkbnmknlmapdaa
