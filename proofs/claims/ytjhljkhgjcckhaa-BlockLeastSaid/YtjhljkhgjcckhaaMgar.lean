/-
  Words for every layer: a call of a function value (a closure) as one step of a statement whose order is open; a variable of two cells, made ahead of a call.
-/
import Derived.BigQuiet
import Derived.Test.YtjhljkhgjcckhaaMgab
import Derived.Test.YtjhljkhgjcckhaaMgaq
namespace Go.Proofs.Ytjhljkhgjcckhaa
open Go.RowKit Go.ChangeShapes Go.WideShapes Go.ChangeAt Go.Joins
set_option maxRecDepth 100000 in
set_option maxHeartbeats 2000000 in
theorem same10_any (w : World) (K B : Nat) (A : Option Addr) (n c : Nat) (f : Nat → Nat) (a : Nat) (hk : w.cell? ⟨K, 0, none⟩ = some (.slice A n c)) (hr : RdB w B A n f) (ha : a < n) (hn : n ≤ 1000000) :
    Calls Try.prog 68 #[.int .i64 (a : Int), .pointer (some ⟨K, 0, none⟩)] w fun e w' => e = .returned (.int .i64 ((ldsU f n a : Nat) : Int)) ∧ DrU w w' := by
  obtain ⟨L, hL⟩ : ∃ L, L = ldsU f n a := ⟨_, rfl⟩
  rw [← hL]
  have hL2 : L = 1 + leadN (f a) (dropU f n (a + 1)) := by rw [hL]; unfold ldsU; omega
  have HR := Lib.hid hr; have HL := Lib.hid hL2; have HKC := Lib.hid hk
  clear hr hL hL2 hk
  go_enter Try.func68, Try.ntmps68
  go_wp2
  go_loopw [4] (fun kv wr => ∃ k : Nat, 1 ≤ k ∧ a + k ≤ n ∧ kv = .int .i64 (k : Int) ∧ Hid (L = k + leadN (f a) (dropU f n (a + k))) ∧ Hid (DrU w wr)) (fun kv _ => n - (intOf kv).toNat)
  case atStart => exact ⟨1, Nat.le_refl _, by omega, rfl, HL, Lib.hid (DrU.refl w)⟩
  case round =>
    obtain ⟨k, hk1, hkn, rfl, HK, HD⟩ := hrel
    have e2 : (a : Int) + (k : Int) = ((a + k : Nat) : Int) := by omega
    have ck : wr.cell? ⟨K, 0, none⟩ = some (.slice A n c) := by obtain ⟨t, rfl⟩ := HD.out; exact HKC.out
    obtain ⟨Q, hQ⟩ : ∃ Q, Q = a + k := ⟨_, rfl⟩
    rw [← hQ] at e2
    by_cases hlt : Q < n
    · obtain ⟨b, o, rfl, _, hc⟩ := (HD.out.rd HR.out).2 (by omega)
      have c1 := hc a (by omega)
      have c2 := hc Q hlt
      have hQn : (Q : Int) < (n : Int) := by omega
      have hQd : decide ((Q : Int) < (n : Int)) = true := by simp; omega
      have hQd2 : decide (Q < n) = true := by simp; omega
      have han : (a : Int) < (n : Int) := by omega
      have hQ0 : (0 : Int) ≤ (Q : Int) := by omega
      have ha0 : (0 : Int) ≤ (a : Int) := by omega
      clear hc
      by_cases he : f Q = f a
      · have hee : ((f Q : Int) == (f a : Int)) = true := by simp [he]
        have hst := lead_go (f := f) (n := n) (a := a + k) (x := f a) (by omega) (by rw [← hQ]; exact he)
        have HST : Hid (L = (k + 1) + leadN (f a) (dropU f n (a + (k + 1)))) := Lib.hid (by have := HK.out; rw [hst] at this; rw [← Nat.add_assoc]; omega)
        have hfin : a + (k + 1) ≤ n := by omega
        obtain ⟨x, hx⟩ : ∃ x, x = f a := ⟨_, rfl⟩
        obtain ⟨y, hy⟩ : ∃ y, y = f Q := ⟨_, rfl⟩
        rw [← hx] at c1 hee
        rw [← hy] at c2 hee
        clear hst hQ he hx hy
        go_wp2
        go_quiet (fail)
        go_wp2
        go_roundw
        case rel => exact ⟨k + 1, by omega, hfin, by go_num, HST, Lib.hid (HD.out.more _)⟩
        case measure => simp [intOf]; omega
      · have hee : ((f Q : Int) == (f a : Int)) = false := by simp; omega
        have hst := lead_stop (f := f) (n := n) (a := a + k) (x := f a) (.inr (by rw [← hQ]; exact he))
        have HST : Hid (L = k) := Lib.hid (by have := HK.out; rw [hst] at this; omega)
        obtain ⟨x, hx⟩ : ∃ x, x = f a := ⟨_, rfl⟩
        obtain ⟨y, hy⟩ : ∃ y, y = f Q := ⟨_, rfl⟩
        rw [← hx] at c1 hee
        rw [← hy] at c2 hee
        clear hst hQ he hx hy
        go_wp2
        go_quiet (fail)
        go_wp2
        go_ret
        exact ⟨(by rw [HST.out]; rfl), HD.out.more _⟩
    · have hQd : decide ((Q : Int) < (n : Int)) = false := by simp; omega
      have hQd2 : decide (Q < n) = false := by simp; omega
      have hQ0 : (0 : Int) ≤ (Q : Int) := by omega
      have hst := lead_stop (f := f) (n := n) (a := a + k) (x := f a) (.inl (by omega))
      have HST : Hid (L = k) := Lib.hid (by have := HK.out; rw [hst] at this; omega)
      have hQb : Q ≤ 1000000 := by omega
      have hQw : IntKind.i64.wrap (Q : Int) = (Q : Int) := by rw [IntKind.wrap_i64]; omega
      clear hst hQ
      go_wp2
      go_quiet (fail)
      go_wp2
      go_ret
      exact ⟨(by rw [HST.out]; rfl), HD.out.more _⟩
set_option maxRecDepth 100000 in
set_option maxHeartbeats 4000000 in
theorem next10_any (w : World) (prev : Option Nat) (x L : Nat) (kn : Bool) (hk : kn = decide (prev = some x)) (hx : x < 256) (h1 : 1 ≤ L) (h2 : L ≤ 1000000) :
    Calls Try.prog 69 #[.int .u8 (x : Int), .bool kn, .int .i64 (L : Int)] w fun e w' => e = .returned (.tuple #[.agg #[.int .i64 (fstR prev x L).1.1, .int .i64 (fstR prev x L).1.2], .int .i64 ((fstR prev x L).2 : Nat)]) ∧ Below w.heap.size w w' := by
  obtain ⟨R, hR⟩ : ∃ R, R = fstR prev x L := ⟨_, rfl⟩
  rw [← hR]
  unfold fstR at hR
  obtain ⟨W1, hW1⟩ : ∃ W1, W1 = w.alloc (.cells #[.int .i64 0, .int .i64 0] 124) := ⟨_, rfl⟩
  have hb1 : Below w.heap.size w W1 := by rw [hW1]; exact (Below.refl _ _).alloc (Nat.le_refl _) _
  obtain ⟨h, hh⟩ : ∃ h, h = w.heap.size := ⟨_, rfl⟩
  have hrow : W1.heap[h]? = some (.cells #[.int .i64 0, .int .i64 0] 124 (0, 0)) := by rw [hW1, hh]; exact heap_alloc_new w _
  have HROW := Lib.hid hrow; have HB1 := Lib.hid hb1; have HH := Lib.hid hh; have HW1 := Lib.hid hW1; have HR := Lib.hid hR; have HKN := Lib.hid hk
  clear hrow hb1 hW1 hR hh hk
  by_cases l3 : L < 3
  · have d3 : decide ((L : Int) < 3) = true := by simp; omega
    have d3' : decide (L < 3) = true := by simp; omega
    have hres : R = (((x : Int), 0), 1) := by rw [HR.out, if_neg (by omega), if_neg (by omega), if_neg (by omega)]
    subst hres
    clear l3 HR
    go_enter Try.func69, Try.ntmps69
    go_wp2_with (first
      | (rw [← HW1.out, ← HH.out]; refine wpList_buildTo rfl 124 #[(0, .tmp 19)] rfl (some 20) rfl #[.int .i64 (x : Int), .int .i64 0] ?_ ?_; focus (simpa [Act.eval] using built_run1 (x : Int)))
      | (refine wpList_buildTo rfl 124 #[(0, .tmp 19)] rfl (some 20) rfl #[.int .i64 (x : Int), .int .i64 0] ?_ ?_; focus (simpa [Act.eval] using built_run1 (x : Int)))
      | (refine wpList_store_rowTo rfl _ _ _ rfl rfl h #[.int .i64 (x : Int), .int .i64 0] rfl rfl 124 #[.int .i64 0, .int .i64 0] HROW.out szRun rfl (oneU _ _) ?_))
    refine bodyPost_ret ((cell_run rfl _ _ h _ rfl rfl (setRow_heap _ _ _ _ _ _ HROW.out)).trans rfl) rfl ⟨rfl, ?_⟩
    exact below_rowU HB1.out (by rw [HH.out]; exact Nat.le_refl _) _
  have d3 : decide ((L : Int) < 3) = false := by simp; omega
  have d3' : decide (L < 3) = false := by simp; omega
  by_cases x0 : x = 0
  · have dx : ((x : Int) != 0) = false := by simp [x0]
    by_cases l10 : L ≤ 10
    · have d10 : decide ((L : Int) ≤ 10) = true := by simp; omega
      have d10' : decide (L ≤ 10) = true := by simp; omega
      obtain ⟨u, hu⟩ : ∃ u, u = L - 3 := ⟨_, rfl⟩
      have eu : (L : Int) - 3 = (u : Int) := by omega
      have hres : R = ((17, (u : Int)), L) := by rw [HR.out, if_neg (by omega), if_pos ⟨x0, by omega⟩, ← hu]
      subst hres
      clear x0 hu HR
      go_enter Try.func69, Try.ntmps69
      go_wp2_with (first
        | (rw [← HW1.out, ← HH.out]; refine wpList_buildTo rfl 124 #[(0, .const (.int .i64 17)), (1, .tmp 32)] rfl (some 33) rfl #[.int .i64 17, .int .i64 (u : Int)] ?_ ?_; focus (simpa [Act.eval] using built_run 17 (u : Int)))
        | (refine wpList_buildTo rfl 124 #[(0, .const (.int .i64 17)), (1, .tmp 32)] rfl (some 33) rfl #[.int .i64 17, .int .i64 (u : Int)] ?_ ?_; focus (simpa [Act.eval] using built_run 17 (u : Int)))
        | (refine wpList_store_rowTo rfl _ _ _ rfl rfl h #[.int .i64 17, .int .i64 (u : Int)] rfl rfl 124 #[.int .i64 0, .int .i64 0] HROW.out szRun rfl (oneU _ _) ?_))
      refine bodyPost_ret ((cell_run rfl _ _ h _ rfl rfl (setRow_heap _ _ _ _ _ _ HROW.out)).trans rfl) rfl ⟨rfl, ?_⟩
      exact below_rowU HB1.out (by rw [HH.out]; exact Nat.le_refl _) _
    have d10 : decide ((L : Int) ≤ 10) = false := by simp; omega
    have d10' : decide (L ≤ 10) = false := by simp; omega
    by_cases l138 : 138 < L
    · have dd : (138 : Int) < (L : Int) := by omega
      have hres : R = ((18, 127), 138) := by rw [HR.out, if_pos ⟨x0, by omega⟩, show min L 138 = 138 by omega]; rfl
      subst hres
      clear x0 HR
      go_enter Try.func69, Try.ntmps69
      go_wp2_with (first
        | (rw [← HW1.out, ← HH.out]; refine wpList_buildTo rfl 124 #[(0, .const (.int .i64 18)), (1, .tmp 39)] rfl (some 40) rfl #[.int .i64 18, .int .i64 127] ?_ ?_; focus (simpa [Act.eval] using built_run 18 127))
        | (refine wpList_buildTo rfl 124 #[(0, .const (.int .i64 18)), (1, .tmp 39)] rfl (some 40) rfl #[.int .i64 18, .int .i64 127] ?_ ?_; focus (simpa [Act.eval] using built_run 18 127))
        | (refine wpList_store_rowTo rfl _ _ _ rfl rfl h #[.int .i64 18, .int .i64 127] rfl rfl 124 #[.int .i64 0, .int .i64 0] HROW.out szRun rfl (oneU _ _) ?_))
      refine bodyPost_ret ((cell_run rfl _ _ h _ rfl rfl (setRow_heap _ _ _ _ _ _ HROW.out)).trans rfl) rfl ⟨rfl, ?_⟩
      exact below_rowU HB1.out (by rw [HH.out]; exact Nat.le_refl _) _
    · have dd : ¬ (138 : Int) < (L : Int) := by omega
      obtain ⟨u1, hu1⟩ : ∃ u, u = L - 10 := ⟨_, rfl⟩
      have eu1 : (L : Int) - 10 = (u1 : Int) := by omega
      obtain ⟨u, hu⟩ : ∃ u, u = L - 11 := ⟨_, rfl⟩
      have eu : (u1 : Int) - 1 = (u : Int) := by omega
      have hres : R = ((18, (u : Int)), L) := by rw [HR.out, if_pos ⟨x0, by omega⟩, show min L 138 = L by omega, ← hu]
      subst hres
      clear x0 hu hu1 HR
      go_enter Try.func69, Try.ntmps69
      go_wp2_with (first
        | (rw [← HW1.out, ← HH.out]; refine wpList_buildTo rfl 124 #[(0, .const (.int .i64 18)), (1, .tmp 39)] rfl (some 40) rfl #[.int .i64 18, .int .i64 (u : Int)] ?_ ?_; focus (simpa [Act.eval] using built_run 18 (u : Int)))
        | (refine wpList_buildTo rfl 124 #[(0, .const (.int .i64 18)), (1, .tmp 39)] rfl (some 40) rfl #[.int .i64 18, .int .i64 (u : Int)] ?_ ?_; focus (simpa [Act.eval] using built_run 18 (u : Int)))
        | (refine wpList_store_rowTo rfl _ _ _ rfl rfl h #[.int .i64 18, .int .i64 (u : Int)] rfl rfl 124 #[.int .i64 0, .int .i64 0] HROW.out szRun rfl (oneU _ _) ?_))
      refine bodyPost_ret ((cell_run rfl _ _ h _ rfl rfl (setRow_heap _ _ _ _ _ _ HROW.out)).trans rfl) rfl ⟨rfl, ?_⟩
      exact below_rowU HB1.out (by rw [HH.out]; exact Nat.le_refl _) _
  have dx : ((x : Int) != 0) = true := by simp; omega
  by_cases hkn : prev = some x
  · obtain rfl : kn = true := by rw [HKN.out]; exact decY0 hkn
    by_cases l6 : 6 < L
    · have dd : (6 : Int) < (L : Int) := by omega
      have hres : R = ((16, 3), 6) := by rw [HR.out, if_neg (by omega), if_neg (by omega), if_pos ⟨x0, hkn, by omega⟩, show min L 6 = 6 by omega]; rfl
      subst hres
      clear x0 HR hkn HKN
      go_enter Try.func69, Try.ntmps69
      go_wp2_with (first
        | (rw [← HW1.out, ← HH.out]; refine wpList_buildTo rfl 124 #[(0, .const (.int .i64 16)), (1, .tmp 26)] rfl (some 27) rfl #[.int .i64 16, .int .i64 3] ?_ ?_; focus (simpa [Act.eval] using built_run 16 3))
        | (refine wpList_buildTo rfl 124 #[(0, .const (.int .i64 16)), (1, .tmp 26)] rfl (some 27) rfl #[.int .i64 16, .int .i64 3] ?_ ?_; focus (simpa [Act.eval] using built_run 16 3))
        | (refine wpList_store_rowTo rfl _ _ _ rfl rfl h #[.int .i64 16, .int .i64 3] rfl rfl 124 #[.int .i64 0, .int .i64 0] HROW.out szRun rfl (oneU _ _) ?_))
      refine bodyPost_ret ((cell_run rfl _ _ h _ rfl rfl (setRow_heap _ _ _ _ _ _ HROW.out)).trans rfl) rfl ⟨rfl, ?_⟩
      exact below_rowU HB1.out (by rw [HH.out]; exact Nat.le_refl _) _
    · have dd : ¬ (6 : Int) < (L : Int) := by omega
      obtain ⟨u, hu⟩ : ∃ u, u = L - 3 := ⟨_, rfl⟩
      have eu : (L : Int) - 3 = (u : Int) := by omega
      have hres : R = ((16, (u : Int)), L) := by rw [HR.out, if_neg (by omega), if_neg (by omega), if_pos ⟨x0, hkn, by omega⟩, show min L 6 = L by omega, ← hu]
      subst hres
      clear x0 hu HR hkn HKN
      go_enter Try.func69, Try.ntmps69
      go_wp2_with (first
        | (rw [← HW1.out, ← HH.out]; refine wpList_buildTo rfl 124 #[(0, .const (.int .i64 16)), (1, .tmp 26)] rfl (some 27) rfl #[.int .i64 16, .int .i64 (u : Int)] ?_ ?_; focus (simpa [Act.eval] using built_run 16 (u : Int)))
        | (refine wpList_buildTo rfl 124 #[(0, .const (.int .i64 16)), (1, .tmp 26)] rfl (some 27) rfl #[.int .i64 16, .int .i64 (u : Int)] ?_ ?_; focus (simpa [Act.eval] using built_run 16 (u : Int)))
        | (refine wpList_store_rowTo rfl _ _ _ rfl rfl h #[.int .i64 16, .int .i64 (u : Int)] rfl rfl 124 #[.int .i64 0, .int .i64 0] HROW.out szRun rfl (oneU _ _) ?_))
      refine bodyPost_ret ((cell_run rfl _ _ h _ rfl rfl (setRow_heap _ _ _ _ _ _ HROW.out)).trans rfl) rfl ⟨rfl, ?_⟩
      exact below_rowU HB1.out (by rw [HH.out]; exact Nat.le_refl _) _
  obtain rfl : kn = false := by rw [HKN.out]; exact decN0 hkn
  have hres : R = (((x : Int), 0), 1) := by rw [HR.out, if_neg (by omega), if_neg (by omega), if_neg (fun q => hkn q.2.1)]
  subst hres
  clear x0 HR hkn HKN
  go_enter Try.func69, Try.ntmps69
  go_wp2_with (first
    | (rw [← HW1.out, ← HH.out]; refine wpList_buildTo rfl 124 #[(0, .tmp 19)] rfl (some 20) rfl #[.int .i64 (x : Int), .int .i64 0] ?_ ?_; focus (simpa [Act.eval] using built_run1 (x : Int)))
    | (refine wpList_buildTo rfl 124 #[(0, .tmp 19)] rfl (some 20) rfl #[.int .i64 (x : Int), .int .i64 0] ?_ ?_; focus (simpa [Act.eval] using built_run1 (x : Int)))
    | (refine wpList_store_rowTo rfl _ _ _ rfl rfl h #[.int .i64 (x : Int), .int .i64 0] rfl rfl 124 #[.int .i64 0, .int .i64 0] HROW.out szRun rfl (oneU _ _) ?_))
  refine bodyPost_ret ((cell_run rfl _ _ h _ rfl rfl (setRow_heap _ _ _ _ _ _ HROW.out)).trans rfl) rfl ⟨rfl, ?_⟩
  exact below_rowU HB1.out (by rw [HH.out]; exact Nat.le_refl _) _
end Go.Proofs.Ytjhljkhgjcckhaa

namespace Go.Proofs.Ytjhljkhgjcckhaa
open Go.RowKit
theorem step_callv {ops : Array Oper} {o : Oper} {a : Act} {w : World} {K : Act → World → Prop} {Q : Exit → Act → World → Prop} {E : Prop} (hgd : o.guard = none) (f : FuncId) (cap : Array Value) (x : Operand) (xs : Array Operand) (ts : Array TypeId)
    (ho : o.op = .call { callee := .value x, args := xs, argTypes := ts }) (hv : a.eval x = .func (.func f) #[] cap) (eg : ∀ args w, (callFunc f args).run Try.prog w = .ok (.enter f args) w) (args : Array Value) (hx : xs.map a.eval ++ cap = args) {R : Ending → World → Prop} (hc : Calls Try.prog f args w R)
    (h : ∀ e w', R e w' → ∃ v, e = .returned v ∧ K (a.put o.dst v) w') :
    if Region.wanted o (yielded ops a.tmps) = true then Oper.wp Try.prog o a w K Q else E := by
  have hw : Region.wanted o (yielded ops a.tmps) = true := by simp [Region.wanted, hgd]
  rw [if_pos hw]
  unfold Oper.wp
  have hall : ∀ ρ : Operand → Value, ρ x = .func (.func f) #[] cap → xs.map ρ ++ cap = args → (execOp ρ o).run Try.prog w = .ok (.enter f args) w := by
    intro ρ h1 h2
    simp [execOp, ho, resolve, invoke, h1, h2, go_sem, eg, Deferred.ofValue]
  rw [hall _ hv hx]
  refine hc.mono fun e w' hr => ?_
  obtain ⟨v, rfl, hk⟩ := h e w' hr
  exact hk
/-- A variable of two cells. -/
structure BoxW (w : World) (X : Nat) (x y : Value) : Prop where
  lt : X < w.heap.size
  c0 : w.cell? ⟨X, 0, none⟩ = some x
  c1 : w.cell? ⟨X, 1, none⟩ = some y
  f0 : w.frozen? ⟨X, 0, none⟩ = false
  f1 : w.frozen? ⟨X, 1, none⟩ = false
theorem BoxW.new (U : World) (x y : Value) (t : TypeId) : BoxW (U.alloc (.cells #[x, y] t)) U.heap.size x y := by
  have hn := heap_alloc_new U (.cells #[x, y] t)
  refine ⟨by simp, ?_, ?_, ?_, ?_⟩
  · exact (cell_of_row (U.alloc (.cells #[x, y] t)) _ 0 _ t (0, 0) hn).trans rfl
  · exact (cell_of_row (U.alloc (.cells #[x, y] t)) _ 1 _ t (0, 0) hn).trans rfl
  · exact frozen_of_row (U.alloc (.cells #[x, y] t)) _ 0 _ _ hn
  · exact frozen_of_row (U.alloc (.cells #[x, y] t)) _ 1 _ _ hn
theorem BoxW.drew {w : World} {X : Nat} {x y : Value} (h : BoxW w X x y) (n : Nat) : BoxW (w.drewN n) X x y := ⟨h.lt, h.c0, h.c1, h.f0, h.f1⟩
theorem BoxW.below {w w' : World} {X B : Nat} {x y : Value} (h : BoxW w X x y) (hb : Below B w w') (hB : X < B) : BoxW w' X x y :=
  ⟨Nat.lt_of_lt_of_le h.lt hb.size, (hb.cell (p := ⟨X, 0, none⟩) hB).trans h.c0, (hb.cell (p := ⟨X, 1, none⟩) hB).trans h.c1, (hb.frozen (p := ⟨X, 0, none⟩) hB).trans h.f0, (hb.frozen (p := ⟨X, 1, none⟩) hB).trans h.f1⟩
theorem BoxW.set {w : World} {X : Nat} {x y : Value} (h : BoxW w X x y) (p q : Value) : BoxW ((w.setCell ⟨X, 0, none⟩ p).setCell ⟨X, 1, none⟩ q) X p q := by
  obtain ⟨h1, h2⟩ := box_set2 (p := p) (q := q) h.c0 h.c1
  refine ⟨by have := h.lt; simpa [World.setCell] using this, h1, h2, ?_, ?_⟩
  · simpa using h.f0
  · simpa using h.f1
end Go.Proofs.Ytjhljkhgjcckhaa

