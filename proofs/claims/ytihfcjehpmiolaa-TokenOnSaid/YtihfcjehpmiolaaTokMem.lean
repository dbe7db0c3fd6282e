/-
  Layer 8 (token): tokens in memory; what a token may be, what a style may be (the document's own).
-/
import Derived.Test.YtihfcjehpmiolaaTokNum
import Derived.Test.YtihfcjehpmiolaaApp
import Derived.Test.YtihfcjehpmiolaaConcat
import Derived.Deep.MidRow
import Derived.Deep.SlicePairs
import Derived.Lib.SmallJoins
import Derived.BigQuiet
namespace Go.Proofs.Ytihfcjehpmiolaa
open Go.RowKit Go.ChangeShapes Go.WideShapes Go.ChangeAt Go.Joins
def tok0 : Tok := ⟨0, 0, 0⟩
def tokC (t : Tok) : List Value := [.int .u8 (t.x : Int), .int .i64 t.d, .int .i64 t.n]
def toksL : List Tok → List Value
  | [] => []
  | t :: l => tokC t ++ toksL l
theorem toksL_length : ∀ l, (toksL l).length = l.length * 3
  | [] => rfl
  | t :: l => by simp only [toksL, List.length_append, List.length_cons, toksL_length l]; simp [tokC]; omega
theorem toksL_app : ∀ l m, toksL (l ++ m) = toksL l ++ toksL m
  | [], _ => rfl
  | t :: l, m => by simp [toksL, toksL_app l m]
theorem toksL_get : ∀ (l : List Tok) (j i : Nat), j < l.length → i < 3 → (toksL l)[j * 3 + i]? = (tokC (l.getD j tok0))[i]?
  | [], j, i, h, _ => absurd h (by simp)
  | t :: l, 0, i, _, hi => by
    simp only [toksL, Nat.zero_mul, Nat.zero_add]
    rw [List.getElem?_append_left (by simpa [tokC] using hi)]
    rfl
  | t :: l, j + 1, i, h, hi => by
    simp only [toksL]
    rw [List.getElem?_append_right (by simp [tokC]; omega)]
    have e : (j + 1) * 3 + i - (tokC t).length = j * 3 + i := by simp [tokC]; omega
    rw [e, toksL_get l j i (by simpa using h) hi]
    rfl
theorem toksL_one (l : List Tok) : ∀ u ∈ toksL l, u.oneCell' = true := by
  induction l with
  | nil => intro u hu; simp [toksL] at hu
  | cons t l ih =>
    intro u hu
    simp only [toksL, List.mem_append] at hu
    rcases hu with hu | hu
    · simp [tokC] at hu; rcases hu with rfl | rfl | rfl <;> rfl
    · exact ih u hu
theorem infoTok : (Try.prog.info? 27).map (fun i => (i.zero, i.size, i.bytes)) = some (some (.agg #[.int .u8 0, .int .i64 0, .int .i64 0]), 3, 24) := by kernel_rfl
theorem szTok : (Try.prog.info? 27).map (·.size) = some 3 := by kernel_rfl
def RdT (w : World) (B : Nat) (A : Option Addr) (l : List Tok) : Prop := SrcL w B 3 A l.length (toksL l)
theorem RdT.below {w w' : World} {B B' : Nat} {A : Option Addr} {l : List Tok} (h : RdT w B A l) (hb : Below B' w w') (hB : B ≤ B') : RdT w' B A l := SrcL.below h hb hB
theorem RdT.more {w : World} {B B' : Nat} {A : Option Addr} {l : List Tok} (h : RdT w B A l) (hB : B ≤ B') : RdT w B' A l := SrcL.more h hB
theorem RdT.nil (w : World) (B : Nat) (A : Option Addr) : RdT w B A [] := SrcL.none_ w B 3 A
theorem RdT.of_own {w : World} {base c n : Nat} {A : Option Addr} {l : List Tok} (h : w.ownsRow base 27 3 (.slice A n c) n (toksL l)) : n = l.length ∧ RdT w w.heap.size A l := by
  have h1 := SrcL.of_own h
  have h2 := h1.1
  rw [toksL_length] at h2
  obtain rfl : n = l.length := by omega
  exact ⟨rfl, h1⟩
theorem RdT.at {w : World} {B : Nat} {A : Option Addr} {l : List Tok} (h : RdT w B A l) {k : Nat} (hk : k < l.length) : ∃ b o, A = some ⟨b, o, none⟩ ∧ b < B ∧ ∀ j, j < l.length →
    w.cell? ⟨b, o + j * 3, none⟩ = some (.int .u8 ((l.getD j tok0).x : Int)) ∧ w.cell? ⟨b, o + j * 3 + 1, none⟩ = some (.int .i64 (l.getD j tok0).d) ∧ w.cell? ⟨b, o + j * 3 + 2, none⟩ = some (.int .i64 (l.getD j tok0).n) := by
  obtain ⟨b, o, h1, h2, h3⟩ := h.2 (by omega)
  refine ⟨b, o, h1, h2, fun j hj => ⟨?_, ?_, ?_⟩⟩
  · have := h3 (j * 3 + 0) _ ((toksL_get l j 0 hj (by omega)).trans rfl)
    simpa using this
  · have := h3 (j * 3 + 1) _ ((toksL_get l j 1 hj (by omega)).trans rfl)
    rw [show o + j * 3 + 1 = o + (j * 3 + 1) by omega]; exact this
  · have := h3 (j * 3 + 2) _ ((toksL_get l j 2 hj (by omega)).trans rfl)
    rw [show o + j * 3 + 2 = o + (j * 3 + 2) by omega]; exact this
theorem RdT.range {w : World} {B : Nat} {A : Option Addr} {l : List Tok} (h : RdT w B A l) {b o : Nat} (hA : A = some ⟨b, o, none⟩) {j : Nat} (hj : j < l.length) : w.rangeAt b (o + j * 3) (tokC (l.getD j tok0)) := by
  obtain ⟨b', o', h1, _, h3⟩ := h.at hj
  rw [hA] at h1
  injection h1 with h1
  injection h1 with hb ho _
  subst hb; subst ho
  obtain ⟨c0, c1, c2⟩ := h3 j hj
  intro i v hv
  rcases i with _ | _ | _ | i
  · simp [tokC] at hv; subst hv; exact c0
  · simp [tokC] at hv; subst hv; exact c1
  · simp [tokC] at hv; subst hv; exact c2
  · simp [tokC] at hv
/-- One more token behind a row of the call's own. -/
theorem run_oneT (w : World) (base : Nat) (A : Option Addr) (n c : Nat) (l : List Tok) (hown : w.ownsRow base 27 3 (.slice A n c) n (toksL l)) (t : Tok) (hn : n ≤ 1000000) (hbase : base ≤ w.heap.size) :
    ∃ A' c' w', (Builtin.append_ #[28, 28] 28 #[.slice A n c, .slice (some ⟨w.heap.size, 0, none⟩) 1 1]).run Try.prog (w.alloc (.cells #[.int .u8 (t.x : Int), .int .i64 t.d, .int .i64 t.n] 27)) = .ok (.slice A' (n + 1) c') w' ∧
      w'.ownsRow base 27 3 (.slice A' (n + 1) c') (n + 1) (toksL (l ++ [t])) ∧ Below base w w' := by
  have hb1 : Below base w (w.alloc (.cells #[.int .u8 (t.x : Int), .int .i64 t.d, .int .i64 t.n] 27)) := (Below.refl base w).alloc hbase _
  obtain ⟨A', c', w', h2, o2, b2⟩ := run_app (by_ := 24) Try.underlying28 infoTok rfl (by decide) (w.alloc (.cells #[.int .u8 (t.x : Int), .int .i64 t.d, .int .i64 t.n] 27)) base _ (.slice A n c) n _ (hown.alloc _) _ 1 1 _
    (SrcL.new w 3 1 #[.int .u8 (t.x : Int), .int .i64 t.d, .int .i64 t.n] 27 rfl) (fun u hu => by simp at hu; rcases hu with rfl | rfl | rfl <;> rfl) (by unfold maxLen; omega) (by omega) 28 (fun h => by cases h) (Nat.le_trans hbase hb1.size)
  refine ⟨A', c', w', h2, ?_, hb1.trans b2⟩
  rw [toksL_app]
  exact o2
set_option maxRecDepth 100000 in
set_option maxHeartbeats 1000000 in
theorem rmay8_any (w : World) (t : Tok) : Calls Try.prog 26 #[.agg #[.int .u8 (t.x : Int), .int .i64 t.d, .int .i64 t.n]] w fun e w' => e = .returned (.bool (mayT t)) ∧ Below w.heap.size w w' := by
  obtain ⟨x, d, n⟩ := t
  have hb := (Below.refl w.heap.size w).alloc (Nat.le_refl _) (.cells #[.int .u8 (x : Int), .int .i64 d, .int .i64 n] 27)
  have HB := Lib.hid hb
  clear hb
  simp only [mayT]
  by_cases h0 : n = 0
  · have e0 : (n == 0) = true := by simp [h0]
    have e1 : decide ((n = 0 ∧ d = 0) ∨ (n ≠ 0 ∧ x = 0 ∧ 3 ≤ n ∧ n ≤ 258 ∧ 1 ≤ d ∧ d ≤ 32768)) = (d == 0) := by
      rw [Bool.eq_iff_iff]; simp [h0]
    rw [e1]
    subst h0
    clear e1
    go_enter Try.func26, Try.ntmps26
    go_wp2
    go_ret
    exact ⟨rfl, HB.out⟩
  · have e0 : (n == 0) = false := by simp [h0]
    have e1 : decide ((n = 0 ∧ d = 0) ∨ (n ≠ 0 ∧ x = 0 ∧ 3 ≤ n ∧ n ≤ 258 ∧ 1 ≤ d ∧ d ≤ 32768)) = decide (x = 0 ∧ 3 ≤ n ∧ n ≤ 258 ∧ 1 ≤ d ∧ d ≤ 32768) := by
      rw [Bool.eq_iff_iff]; simp [h0]
    rw [e1]
    clear e1
    by_cases hx : x = 0
    · subst hx
      have y0 : (((0 : Nat) : Int) == 0) = true := by decide
      by_cases h3 : 3 ≤ n
      · have y1 : decide (3 ≤ n) = true := by simp [h3]
        by_cases h4 : n ≤ 258
        · have y2 : decide (n ≤ 258) = true := by simp [h4]
          by_cases h5 : 1 ≤ d
          · have y3 : decide (1 ≤ d) = true := by simp [h5]
            have e2 : decide ((0 : Nat) = 0 ∧ 3 ≤ n ∧ n ≤ 258 ∧ 1 ≤ d ∧ d ≤ 32768) = decide (d ≤ 32768) := by simp [h3, h4, h5]
            rw [e2]
            go_enter Try.func26, Try.ntmps26
            go_wp2
            go_ret
            exact ⟨rfl, HB.out⟩
          · have y3 : decide (1 ≤ d) = false := by simp [h5]
            have e2 : decide ((0 : Nat) = 0 ∧ 3 ≤ n ∧ n ≤ 258 ∧ 1 ≤ d ∧ d ≤ 32768) = false := by simp [h5]
            rw [e2]
            go_enter Try.func26, Try.ntmps26
            go_wp2
            go_ret
            exact ⟨rfl, HB.out⟩
        · have y2 : decide (n ≤ 258) = false := by simp [h4]
          have e2 : decide ((0 : Nat) = 0 ∧ 3 ≤ n ∧ n ≤ 258 ∧ 1 ≤ d ∧ d ≤ 32768) = false := by simp [h4]
          rw [e2]
          go_enter Try.func26, Try.ntmps26
          go_wp2
          go_ret
          exact ⟨rfl, HB.out⟩
      · have y1 : decide (3 ≤ n) = false := by simp [h3]
        have e2 : decide ((0 : Nat) = 0 ∧ 3 ≤ n ∧ n ≤ 258 ∧ 1 ≤ d ∧ d ≤ 32768) = false := by simp [h3]
        rw [e2]
        go_enter Try.func26, Try.ntmps26
        go_wp2
        go_ret
        exact ⟨rfl, HB.out⟩
    · have y0 : ((x : Int) == 0) = false := by simp; omega
      have e2 : decide (x = 0 ∧ 3 ≤ n ∧ n ≤ 258 ∧ 1 ≤ d ∧ d ≤ 32768) = false := by simp [hx]
      rw [e2]
      go_enter Try.func26, Try.ntmps26
      go_wp2
      go_ret
      exact ⟨rfl, HB.out⟩
end Go.Proofs.Ytihfcjehpmiolaa
