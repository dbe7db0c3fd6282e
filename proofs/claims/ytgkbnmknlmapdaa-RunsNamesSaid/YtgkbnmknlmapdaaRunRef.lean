/-
  Layer 10 (runs): the document's own: how many are the same, the run at a place, the runs of lengths.
-/
import Derived.Test.YtgkbnmknlmapdaaRunMem
import Derived.Test.YtgkbnmknlmapdaaRunDef
import Derived.Deep.DeepCutAuto
import Derived.BigRegion
import Derived.Great.BuildSlice
namespace Go.Proofs.Ytgkbnmknlmapdaa
open Go.RowKit Go.ChangeShapes Go.WideShapes Go.ChangeAt Go.Joins
theorem decN0 {p : Prop} [Decidable p] (h : ¬ p) : decide p = false := by simp [h]
theorem decY0 {p : Prop} [Decidable p] (h : p) : decide p = true := by simp [h]
/-- A world that differs by draws alone. -/
def DrU (w u : World) : Prop := ∃ t, u = w.drewN t
theorem DrU.refl (w : World) : DrU w w := ⟨0, rfl⟩
theorem DrU.more {w u : World} (h : DrU w u) (n : Nat) : DrU w (u.drewN n) := by
  obtain ⟨t, rfl⟩ := h
  exact ⟨t + n, by rw [World.drewN_drewN]⟩
theorem DrU.rd {w u : World} (h : DrU w u) {B n : Nat} {A : Option Addr} {f : Nat → Nat} (hr : RdB w B A n f) : RdB u B A n f := by
  obtain ⟨t, rfl⟩ := h
  exact hr
theorem DrU.below {w u : World} (h : DrU w u) {g : Nat} {a : World} (hb : Below g a w) : Below g a u := by
  obtain ⟨t, rfl⟩ := h
  exact ⟨hb.os, hb.tape, hb.output, hb.size, hb.block⟩
set_option maxRecDepth 100000 in
set_option maxHeartbeats 2000000 in
theorem rsame10_any (w : World) (B : Nat) (A : Option Addr) (n c : Nat) (f : Nat → Nat) (a : Nat) (hr : RdB w B A n f) (ha : a < n) (hn : n ≤ 1000000) :
    Calls Try.prog 25 #[.slice A n c, .int .i64 (a : Int)] w fun e w' => e = .returned (.int .i64 ((ldsU f n a : Nat) : Int)) ∧ DrU w w' := by
  obtain ⟨L, hL⟩ : ∃ L, L = ldsU f n a := ⟨_, rfl⟩
  rw [← hL]
  have hL2 : L = 1 + leadN (f a) (dropU f n (a + 1)) := by rw [hL]; unfold ldsU; omega
  have HR := Lib.hid hr; have HL := Lib.hid hL2
  clear hr hL hL2
  go_enter Try.func25, Try.ntmps25
  go_wp2
  go_loopw [5] (fun kv wr => ∃ k : Nat, 1 ≤ k ∧ a + k ≤ n ∧ kv = .int .i64 (k : Int) ∧ Hid (L = k + leadN (f a) (dropU f n (a + k))) ∧ Hid (DrU w wr)) (fun kv _ => n - (intOf kv).toNat)
  case atStart => exact ⟨1, Nat.le_refl _, by omega, rfl, HL, Lib.hid (DrU.refl w)⟩
  case round =>
    obtain ⟨k, hk1, hkn, rfl, HK, HD⟩ := hrel
    have e2 : (a : Int) + (k : Int) = ((a + k : Nat) : Int) := by omega
    obtain ⟨Q, hQ⟩ : ∃ Q, Q = a + k := ⟨_, rfl⟩
    rw [← hQ] at e2
    by_cases hlt : Q < n
    · obtain ⟨b, o, rfl, _, hc⟩ := (HD.out.rd HR.out).2 (by omega)
      have c1 := hc a (by omega)
      have c2 := hc Q hlt
      have hQn : (Q : Int) < (n : Int) := by omega
      have hQd : decide ((Q : Int) < (n : Int)) = true := by simp; omega
      have hQd2 : decide (Q < n) = true := by simp; omega
      have han : (a : Int) < (n : Int) := by omega
      have hQ0 : (0 : Int) ≤ (Q : Int) := by omega
      have ha0 : (0 : Int) ≤ (a : Int) := by omega
      clear hc
      by_cases he : f Q = f a
      · have hee : ((f Q : Int) == (f a : Int)) = true := by simp [he]
        have hst := lead_go (f := f) (n := n) (a := a + k) (x := f a) (by omega) (by rw [← hQ]; exact he)
        have HST : Hid (L = (k + 1) + leadN (f a) (dropU f n (a + (k + 1)))) := Lib.hid (by have := HK.out; rw [hst] at this; rw [← Nat.add_assoc]; omega)
        have hfin : a + (k + 1) ≤ n := by omega
        obtain ⟨x, hx⟩ : ∃ x, x = f a := ⟨_, rfl⟩
        obtain ⟨y, hy⟩ : ∃ y, y = f Q := ⟨_, rfl⟩
        rw [← hx] at c1 hee
        rw [← hy] at c2 hee
        clear hst hQ he hx hy
        go_wp2
        go_quiet (fail)
        go_wp2
        go_roundw
        case rel => exact ⟨k + 1, by omega, hfin, by go_num, HST, Lib.hid (HD.out.more _)⟩
        case measure => simp [intOf]; omega
      · have hee : ((f Q : Int) == (f a : Int)) = false := by simp; omega
        have hst := lead_stop (f := f) (n := n) (a := a + k) (x := f a) (.inr (by rw [← hQ]; exact he))
        have HST : Hid (L = k) := Lib.hid (by have := HK.out; rw [hst] at this; omega)
        obtain ⟨x, hx⟩ : ∃ x, x = f a := ⟨_, rfl⟩
        obtain ⟨y, hy⟩ : ∃ y, y = f Q := ⟨_, rfl⟩
        rw [← hx] at c1 hee
        rw [← hy] at c2 hee
        clear hst hQ he hx hy
        go_wp2
        go_quiet (fail)
        go_wp2
        go_ret
        exact ⟨(by rw [HST.out]; rfl), HD.out.more _⟩
    · have hQd : decide ((Q : Int) < (n : Int)) = false := by simp; omega
      have hQd2 : decide (Q < n) = false := by simp; omega
      have hQ0 : (0 : Int) ≤ (Q : Int) := by omega
      have hst := lead_stop (f := f) (n := n) (a := a + k) (x := f a) (.inl (by omega))
      have HST : Hid (L = k) := Lib.hid (by have := HK.out; rw [hst] at this; omega)
      have hQb : Q ≤ 1000000 := by omega
      have hQw : IntKind.i64.wrap (Q : Int) = (Q : Int) := by rw [IntKind.wrap_i64]; omega
      clear hst hQ
      go_wp2
      go_quiet (fail)
      go_wp2
      go_ret
      exact ⟨(by rw [HST.out]; rfl), HD.out.more _⟩
theorem built_run (s x : Int) : Try.prog.built 25 [(0, .int .i64 s), (1, .int .i64 x)] = some #[.int .i64 s, .int .i64 x] := by kernel_rfl
theorem built_run1 (s : Int) : Try.prog.built 25 [(0, .int .i64 s)] = some #[.int .i64 s, .int .i64 0] := by kernel_rfl
theorem cell_run {fn : Func} {p u : Tmp} (h : fn.results = #[.cell p 25, .tmp u]) (tmps : Array Value) (w : World) (g : Nat) (cs : Array Value) (hs : cs.size = 2) (hp : tmps.getD p undef = .pointer (some ⟨g, 0, none⟩)) (ht : w.heap[g]? = some (.cells cs 25 (0, 0))) :
    (results fn tmps).run Try.prog w = .ok (.tuple #[.agg cs, tmps.getD u undef]) w := by
  have hp' : tmps[p]?.getD undef = .pointer (some ⟨g, 0, none⟩) := by simpa using hp
  have hl := run_loadVar_row (P := Try.prog) w g 25 25 cs (0, 0) _ ht Try.underlying25 rfl (by rw [hs]; exact szRun)
  simp [results, h, hp', asAddr, hl]
theorem below_rowU {B : Nat} {a w : World} (h : Below B a w) {g : Nat} (hp : B ≤ g) (cs : Array Value) : Below B a (w.setRow g cs) :=
  ⟨h.os, h.tape, h.output, by rw [size_setRow]; exact h.size, fun k hk => (setRow_other w g k cs (by omega)).trans (h.block k hk)⟩
theorem oneU (x y : Int) : (#[.int .i64 x, .int .i64 y] : Array Value).all (·.oneCell') = true := by simp [Value.oneCell']
set_option maxRecDepth 100000 in
set_option maxHeartbeats 4000000 in
theorem rfirst10_any (w : World) (A : Option Addr) (n c : Nat) (f : Nat → Nat) (a : Nat) (hr : RdB w w.heap.size A n f) (ha : a < n) (hn : n ≤ 1000000) :
    Calls Try.prog 24 #[.slice A n c, .int .i64 (a : Int)] w fun e w' => e = .returned (.tuple #[.agg #[.int .i64 (fstU f n a).1.1, .int .i64 (fstU f n a).1.2], .int .i64 ((fstU f n a).2 : Nat)]) ∧ Below w.heap.size w w' := by
  obtain ⟨R, hR⟩ : ∃ R, R = fstU f n a := ⟨_, rfl⟩
  rw [← hR]
  unfold fstU fstR at hR
  obtain ⟨L, hL⟩ : ∃ L, L = ldsU f n a := ⟨_, rfl⟩
  obtain ⟨W1, hW1⟩ : ∃ W1, W1 = w.alloc (.cells #[.int .i64 0, .int .i64 0] 25) := ⟨_, rfl⟩
  have hb1 : Below w.heap.size w W1 := by rw [hW1]; exact (Below.refl _ _).alloc (Nat.le_refl _) _
  have hs1 : W1.heap.size = w.heap.size + 1 := by rw [hW1]; simp
  have hrow : W1.heap[w.heap.size]? = some (.cells #[.int .i64 0, .int .i64 0] 25 (0, 0)) := by rw [hW1]; exact heap_alloc_new w _
  have hsa := rsame10_any W1 w.heap.size A n c f a (hr.below hb1 (Nat.le_refl _)) ha hn
  rw [← hL] at hsa hR
  have hLn : 1 ≤ L ∧ a + L ≤ n := by rw [hL]; exact lds_le ha
  obtain ⟨h, hh⟩ : ∃ h, h = w.heap.size := ⟨_, rfl⟩
  have hrb := hr.below hb1 (Nat.le_refl _)
  obtain ⟨b, o, rfl, hbh, hc⟩ := hrb.2 (by omega)
  have hf8 := hr.1 a
  have hca := hc a ha
  have hcp : 0 < a → W1.cell? ⟨b, o + (a - 1), none⟩ = some (.int .u8 (f (a - 1) : Int)) := fun h => hc (a - 1) (by omega)
  obtain ⟨x, hx⟩ : ∃ x, x = f a := ⟨_, rfl⟩
  rw [← hx] at hca hR hf8
  have HSA := Lib.hid hsa; have HB1 := Lib.hid hb1; have HS1 := Lib.hid hs1; have HROW := Lib.hid hrow; have HW1 := Lib.hid hW1; have HH := Lib.hid hh; have HRES := Lib.hid hR; have HCA := Lib.hid hca; have HCP := Lib.hid hcp
  clear hsa hb1 hs1 hrow hW1 hh hR hL hrb hc hca hcp hx hr
  have hlt0 : (a : Int) < (n : Int) := by omega
  have ha0 : (0 : Int) ≤ (a : Int) := by omega
  obtain ⟨hL1, hL2⟩ := hLn
  by_cases x0 : x = 0
  · have e0 : ((x : Int) == 0) = true := by simp [x0]
    have e0n : ((x : Int) != 0) = false := by simp [x0]
    by_cases l11 : 11 ≤ L
    · have d1 : decide ((11 : Int) ≤ (L : Int)) = true := by simp; omega
      have d1' : decide (11 ≤ L) = true := by simp; omega
      by_cases l138 : 138 < L
      · have d2 : (138 : Int) < (L : Int) := by omega
        have hres : R = ((18, 127), 138) := by rw [HRES.out, if_pos ⟨x0, l11⟩, show min L 138 = 138 by omega]; rfl
        subst hres
        clear x0
        go_enter Try.func24, Try.ntmps24
        go_wp2_with fail
        rw [← HW1.out, ← HH.out]
        refine HSA.out.mono ?_
        rintro e w2 ⟨rfl, hd⟩
        have HD := Lib.hid hd
        have x1 : w2.cell? ⟨b, o + a, none⟩ = some (.int .u8 (x : Int)) := by obtain ⟨t, rfl⟩ := hd; exact HCA.out
        have HY := Lib.hid (show w2.heap[h]? = some (.cells #[.int .i64 0, .int .i64 0] 25 (0, 0)) by obtain ⟨t, rfl⟩ := hd; rw [HH.out]; exact HROW.out)
        have HB2 := Lib.hid (show Below h w w2 by rw [HH.out]; exact hd.below HB1.out)
        clear hd
        go_wp2_with (first
          | (refine wpList_buildTo rfl 25 #[(0, .const (.int .i64 18)), (1, .tmp 22)] rfl (some 23) rfl #[.int .i64 18, .int .i64 127] ?_ ?_; focus (simpa [Act.eval] using built_run 18 127))
          | (refine wpList_store_rowTo rfl _ _ _ rfl rfl h #[.int .i64 18, .int .i64 127] rfl rfl 25 #[.int .i64 0, .int .i64 0] HY.out szRun rfl (oneU _ _) ?_))
        refine bodyPost_ret ((cell_run rfl _ _ h _ rfl rfl (setRow_heap _ _ _ _ _ _ HY.out)).trans rfl) rfl ⟨rfl, ?_⟩
        rw [← HH.out]
        exact below_rowU HB2.out (Nat.le_refl _) _
      · have d2 : ¬ (138 : Int) < (L : Int) := by omega
        obtain ⟨u, hu⟩ : ∃ u, u = L - 11 := ⟨_, rfl⟩
        have eu : (L : Int) - 11 = (u : Int) := by omega
        have hres : R = ((18, (u : Int)), L) := by rw [HRES.out, if_pos ⟨x0, l11⟩, show min L 138 = L by omega, ← hu]
        subst hres
        clear x0 hu
        go_enter Try.func24, Try.ntmps24
        go_wp2_with fail
        rw [← HW1.out, ← HH.out]
        refine HSA.out.mono ?_
        rintro e w2 ⟨rfl, hd⟩
        have HD := Lib.hid hd
        have x1 : w2.cell? ⟨b, o + a, none⟩ = some (.int .u8 (x : Int)) := by obtain ⟨t, rfl⟩ := hd; exact HCA.out
        have HY := Lib.hid (show w2.heap[h]? = some (.cells #[.int .i64 0, .int .i64 0] 25 (0, 0)) by obtain ⟨t, rfl⟩ := hd; rw [HH.out]; exact HROW.out)
        have HB2 := Lib.hid (show Below h w w2 by rw [HH.out]; exact hd.below HB1.out)
        clear hd
        go_wp2_with (first
          | (refine wpList_buildTo rfl 25 #[(0, .const (.int .i64 18)), (1, .tmp 22)] rfl (some 23) rfl #[.int .i64 18, .int .i64 (u : Int)] ?_ ?_; focus (simpa [Act.eval] using built_run 18 (u : Int)))
          | (refine wpList_store_rowTo rfl _ _ _ rfl rfl h #[.int .i64 18, .int .i64 (u : Int)] rfl rfl 25 #[.int .i64 0, .int .i64 0] HY.out szRun rfl (oneU _ _) ?_))
        refine bodyPost_ret ((cell_run rfl _ _ h _ rfl rfl (setRow_heap _ _ _ _ _ _ HY.out)).trans rfl) rfl ⟨rfl, ?_⟩
        rw [← HH.out]
        exact below_rowU HB2.out (Nat.le_refl _) _
    · have d1 : decide ((11 : Int) ≤ (L : Int)) = false := by simp; omega
      have d1' : decide (11 ≤ L) = false := by simp; omega
      by_cases l3 : 3 ≤ L
      · have d3 : decide ((3 : Int) ≤ (L : Int)) = true := by simp; omega
        have d3' : decide (3 ≤ L) = true := by simp; omega
        obtain ⟨u, hu⟩ : ∃ u, u = L - 3 := ⟨_, rfl⟩
        have eu : (L : Int) - 3 = (u : Int) := by omega
        have hres : R = ((17, (u : Int)), L) := by rw [HRES.out, if_neg (fun q => l11 q.2), if_pos ⟨x0, l3⟩, ← hu]
        subst hres
        clear x0 hu
        go_enter Try.func24, Try.ntmps24
        go_wp2_with fail
        rw [← HW1.out, ← HH.out]
        refine HSA.out.mono ?_
        rintro e w2 ⟨rfl, hd⟩
        have HD := Lib.hid hd
        have x1 : w2.cell? ⟨b, o + a, none⟩ = some (.int .u8 (x : Int)) := by obtain ⟨t, rfl⟩ := hd; exact HCA.out
        have HY := Lib.hid (show w2.heap[h]? = some (.cells #[.int .i64 0, .int .i64 0] 25 (0, 0)) by obtain ⟨t, rfl⟩ := hd; rw [HH.out]; exact HROW.out)
        have HB2 := Lib.hid (show Below h w w2 by rw [HH.out]; exact hd.below HB1.out)
        clear hd
        go_wp2_with (first
          | (refine wpList_buildTo rfl 25 #[(0, .const (.int .i64 17)), (1, .tmp 35)] rfl (some 36) rfl #[.int .i64 17, .int .i64 (u : Int)] ?_ ?_; focus (simpa [Act.eval] using built_run 17 (u : Int)))
          | (refine wpList_store_rowTo rfl _ _ _ rfl rfl h #[.int .i64 17, .int .i64 (u : Int)] rfl rfl 25 #[.int .i64 0, .int .i64 0] HY.out szRun rfl (oneU _ _) ?_))
        refine bodyPost_ret ((cell_run rfl _ _ h _ rfl rfl (setRow_heap _ _ _ _ _ _ HY.out)).trans rfl) rfl ⟨rfl, ?_⟩
        rw [← HH.out]
        exact below_rowU HB2.out (Nat.le_refl _) _
      · have d3 : decide ((3 : Int) ≤ (L : Int)) = false := by simp; omega
        have d3' : decide (3 ≤ L) = false := by simp; omega
        have hres : R = (((x : Int), 0), 1) := by rw [HRES.out, if_neg (fun q => l11 q.2), if_neg (fun q => l3 q.2), if_neg (fun q => q.1 x0)]
        subst hres
        clear x0
        go_enter Try.func24, Try.ntmps24
        go_wp2_with fail
        rw [← HW1.out, ← HH.out]
        refine HSA.out.mono ?_
        rintro e w2 ⟨rfl, hd⟩
        have HD := Lib.hid hd
        have x1 : w2.cell? ⟨b, o + a, none⟩ = some (.int .u8 (x : Int)) := by obtain ⟨t, rfl⟩ := hd; exact HCA.out
        have HY := Lib.hid (show w2.heap[h]? = some (.cells #[.int .i64 0, .int .i64 0] 25 (0, 0)) by obtain ⟨t, rfl⟩ := hd; rw [HH.out]; exact HROW.out)
        have HB2 := Lib.hid (show Below h w w2 by rw [HH.out]; exact hd.below HB1.out)
        have x2 : w2.drew.cell? ⟨b, o + a, none⟩ = some (.int .u8 (x : Int)) := x1
        clear hd
        go_wp2
        go_region
        all_goals (
          have y1 : w2.drew.cell? ⟨b, o + a, none⟩ = some (.int .u8 (x : Int)) := x1
          go_wp2_with (first
            | (refine wpList_buildTo rfl 25 #[(0, .tmp 73)] rfl (some 74) rfl #[.int .i64 (x : Int), .int .i64 0] ?_ ?_; focus (simpa [Act.eval] using built_run1 (x : Int)))
            | (refine wpList_store_rowTo rfl _ _ _ rfl rfl h #[.int .i64 (x : Int), .int .i64 0] rfl rfl 25 #[.int .i64 0, .int .i64 0] (show w2.drew.heap[h]? = _ from HY.out) szRun rfl (oneU _ _) ?_))
          refine bodyPost_ret ((cell_run rfl _ _ h _ rfl rfl (setRow_heap _ _ _ _ _ _ (show w2.drew.heap[h]? = _ from HY.out))).trans rfl) rfl ⟨rfl, ?_⟩
          rw [← HH.out]
          exact below_rowU (Below.drew HB2.out) (Nat.le_refl _) _)
  · have e0 : ((x : Int) == 0) = false := by simp; omega
    have e0n : ((x : Int) != 0) = true := by simp; omega
    have r1 : R = if x ≠ 0 ∧ prvU f a = some x ∧ 3 ≤ L then (((16 : Int), ((min L 6 - 3 : Nat) : Int)), min L 6) else (((x : Int), 0), 1) := by rw [HRES.out, if_neg (fun q => x0 q.1), if_neg (fun q => x0 q.1)]
    have HR1 := Lib.hid r1
    clear r1 HRES
    by_cases a1 : a = 0
    · have dz : decide (0 < (a : Int)) = false := by simp; omega
      have dz' : decide (0 < a) = false := by simp; omega
      have hres : R = (((x : Int), 0), 1) := by rw [HR1.out, if_neg]; rintro ⟨_, q, _⟩; unfold prvU at q; rw [if_pos a1] at q; cases q
      subst hres
      clear x0 a1
      go_enter Try.func24, Try.ntmps24
      go_wp2_with fail
      rw [← HW1.out, ← HH.out]
      refine HSA.out.mono ?_
      rintro e w2 ⟨rfl, hd⟩
      have HD := Lib.hid hd
      have x1 : w2.cell? ⟨b, o + a, none⟩ = some (.int .u8 (x : Int)) := by obtain ⟨t, rfl⟩ := hd; exact HCA.out
      have HY := Lib.hid (show w2.heap[h]? = some (.cells #[.int .i64 0, .int .i64 0] 25 (0, 0)) by obtain ⟨t, rfl⟩ := hd; rw [HH.out]; exact HROW.out)
      have HB2 := Lib.hid (show Below h w w2 by rw [HH.out]; exact hd.below HB1.out)
      have x2 : w2.drew.cell? ⟨b, o + a, none⟩ = some (.int .u8 (x : Int)) := x1
      clear hd
      go_wp2
      go_region
      all_goals (
        have y1 : w2.drew.cell? ⟨b, o + a, none⟩ = some (.int .u8 (x : Int)) := x1
        go_wp2_with (first
          | (refine wpList_buildTo rfl 25 #[(0, .tmp 73)] rfl (some 74) rfl #[.int .i64 (x : Int), .int .i64 0] ?_ ?_; focus (simpa [Act.eval] using built_run1 (x : Int)))
          | (refine wpList_store_rowTo rfl _ _ _ rfl rfl h #[.int .i64 (x : Int), .int .i64 0] rfl rfl 25 #[.int .i64 0, .int .i64 0] (show w2.drew.heap[h]? = _ from HY.out) szRun rfl (oneU _ _) ?_))
        refine bodyPost_ret ((cell_run rfl _ _ h _ rfl rfl (setRow_heap _ _ _ _ _ _ (show w2.drew.heap[h]? = _ from HY.out))).trans rfl) rfl ⟨rfl, ?_⟩
        rw [← HH.out]
        exact below_rowU (Below.drew HB2.out) (Nat.le_refl _) _)
    · have dz : decide (0 < (a : Int)) = true := by simp; omega
      have dz' : decide (0 < a) = true := by simp; omega
      obtain ⟨p, hp⟩ : ∃ p, p = a - 1 := ⟨_, rfl⟩
      have ep : (a : Int) - 1 = (p : Int) := by omega
      have hpn : (p : Int) < (n : Int) := by omega
      have hp0 : (0 : Int) ≤ (p : Int) := by omega
      have hprv : prvU f a = some (f p) := by unfold prvU; rw [if_neg a1, hp]
      have hcp := HCP.out (by omega)
      rw [← hp] at hcp
      obtain ⟨y, hy⟩ : ∃ y, y = f p := ⟨_, rfl⟩
      rw [← hy] at hprv hcp
      have HCP2 := Lib.hid hcp; have HPRV := Lib.hid hprv
      clear hcp hprv HCP hy hp a1
      by_cases hxy : y = x
      · have eyx : ((y : Int) == (x : Int)) = true := by simp [hxy]
        by_cases l3 : 3 ≤ L
        · have d3 : decide ((3 : Int) ≤ (L : Int)) = true := by simp; omega
          have d3' : decide (3 ≤ L) = true := by simp; omega
          have r1 := HR1.out
          rw [if_pos ⟨x0, by rw [HPRV.out, hxy], l3⟩] at r1
          have HR2 := Lib.hid r1
          clear r1
          by_cases l6 : 6 < L
          · have d6 : (6 : Int) < (L : Int) := by omega
            have hres : R = ((16, 3), 6) := by rw [HR2.out, show min L 6 = 6 by omega]; rfl
            subst hres
            clear x0 hxy
            go_enter Try.func24, Try.ntmps24
            go_wp2_with fail
            rw [← HW1.out, ← HH.out]
            refine HSA.out.mono ?_
            rintro e w2 ⟨rfl, hd⟩
            have HD := Lib.hid hd
            have x1 : w2.cell? ⟨b, o + a, none⟩ = some (.int .u8 (x : Int)) := by obtain ⟨t, rfl⟩ := hd; exact HCA.out
            have HY := Lib.hid (show w2.heap[h]? = some (.cells #[.int .i64 0, .int .i64 0] 25 (0, 0)) by obtain ⟨t, rfl⟩ := hd; rw [HH.out]; exact HROW.out)
            have HB2 := Lib.hid (show Below h w w2 by rw [HH.out]; exact hd.below HB1.out)
            have x2 : w2.drew.cell? ⟨b, o + a, none⟩ = some (.int .u8 (x : Int)) := x1
            have x3 : w2.cell? ⟨b, o + p, none⟩ = some (.int .u8 (y : Int)) := by obtain ⟨t, rfl⟩ := hd; exact HCP2.out
            have x4 : w2.drew.cell? ⟨b, o + p, none⟩ = some (.int .u8 (y : Int)) := x3
            clear hd
            go_wp2
            go_region
            all_goals (
              go_wp2_with (first
                | (refine wpList_buildTo rfl 25 #[(0, .const (.int .i64 16)), (1, .tmp 66)] rfl (some 67) rfl #[.int .i64 16, .int .i64 3] ?_ ?_; focus (simpa [Act.eval] using built_run 16 3))
                | (refine wpList_store_rowTo rfl _ _ _ rfl rfl h #[.int .i64 16, .int .i64 3] rfl rfl 25 #[.int .i64 0, .int .i64 0] (show w2.drew.heap[h]? = _ from HY.out) szRun rfl (oneU _ _) ?_))
              refine bodyPost_ret ((cell_run rfl _ _ h _ rfl rfl (setRow_heap _ _ _ _ _ _ (show w2.drew.heap[h]? = _ from HY.out))).trans rfl) rfl ⟨rfl, ?_⟩
              rw [← HH.out]
              exact below_rowU (Below.drew HB2.out) (Nat.le_refl _) _)
          · have d6 : ¬ (6 : Int) < (L : Int) := by omega
            obtain ⟨u, hu⟩ : ∃ u, u = L - 3 := ⟨_, rfl⟩
            have eu : (L : Int) - 3 = (u : Int) := by omega
            have hres : R = ((16, (u : Int)), L) := by rw [HR2.out, show min L 6 = L by omega, ← hu]
            subst hres
            clear x0 hxy hu
            go_enter Try.func24, Try.ntmps24
            go_wp2_with fail
            rw [← HW1.out, ← HH.out]
            refine HSA.out.mono ?_
            rintro e w2 ⟨rfl, hd⟩
            have HD := Lib.hid hd
            have x1 : w2.cell? ⟨b, o + a, none⟩ = some (.int .u8 (x : Int)) := by obtain ⟨t, rfl⟩ := hd; exact HCA.out
            have HY := Lib.hid (show w2.heap[h]? = some (.cells #[.int .i64 0, .int .i64 0] 25 (0, 0)) by obtain ⟨t, rfl⟩ := hd; rw [HH.out]; exact HROW.out)
            have HB2 := Lib.hid (show Below h w w2 by rw [HH.out]; exact hd.below HB1.out)
            have x2 : w2.drew.cell? ⟨b, o + a, none⟩ = some (.int .u8 (x : Int)) := x1
            have x3 : w2.cell? ⟨b, o + p, none⟩ = some (.int .u8 (y : Int)) := by obtain ⟨t, rfl⟩ := hd; exact HCP2.out
            have x4 : w2.drew.cell? ⟨b, o + p, none⟩ = some (.int .u8 (y : Int)) := x3
            clear hd
            go_wp2
            go_region
            all_goals (
              go_wp2_with (first
                | (refine wpList_buildTo rfl 25 #[(0, .const (.int .i64 16)), (1, .tmp 66)] rfl (some 67) rfl #[.int .i64 16, .int .i64 (u : Int)] ?_ ?_; focus (simpa [Act.eval] using built_run 16 (u : Int)))
                | (refine wpList_store_rowTo rfl _ _ _ rfl rfl h #[.int .i64 16, .int .i64 (u : Int)] rfl rfl 25 #[.int .i64 0, .int .i64 0] (show w2.drew.heap[h]? = _ from HY.out) szRun rfl (oneU _ _) ?_))
              refine bodyPost_ret ((cell_run rfl _ _ h _ rfl rfl (setRow_heap _ _ _ _ _ _ (show w2.drew.heap[h]? = _ from HY.out))).trans rfl) rfl ⟨rfl, ?_⟩
              rw [← HH.out]
              exact below_rowU (Below.drew HB2.out) (Nat.le_refl _) _)
        · have d3 : decide ((3 : Int) ≤ (L : Int)) = false := by simp; omega
          have d3' : decide (3 ≤ L) = false := by simp; omega
          have hres : R = (((x : Int), 0), 1) := by rw [HR1.out, if_neg (fun q => l3 q.2.2)]
          subst hres
          clear x0 hxy
          go_enter Try.func24, Try.ntmps24
          go_wp2_with fail
          rw [← HW1.out, ← HH.out]
          refine HSA.out.mono ?_
          rintro e w2 ⟨rfl, hd⟩
          have HD := Lib.hid hd
          have x1 : w2.cell? ⟨b, o + a, none⟩ = some (.int .u8 (x : Int)) := by obtain ⟨t, rfl⟩ := hd; exact HCA.out
          have HY := Lib.hid (show w2.heap[h]? = some (.cells #[.int .i64 0, .int .i64 0] 25 (0, 0)) by obtain ⟨t, rfl⟩ := hd; rw [HH.out]; exact HROW.out)
          have HB2 := Lib.hid (show Below h w w2 by rw [HH.out]; exact hd.below HB1.out)
          have x2 : w2.drew.cell? ⟨b, o + a, none⟩ = some (.int .u8 (x : Int)) := x1
          have x3 : w2.cell? ⟨b, o + p, none⟩ = some (.int .u8 (y : Int)) := by obtain ⟨t, rfl⟩ := hd; exact HCP2.out
          have x4 : w2.drew.cell? ⟨b, o + p, none⟩ = some (.int .u8 (y : Int)) := x3
          clear hd
          go_wp2
          go_region
          all_goals (
            have y1 : w2.drew.cell? ⟨b, o + a, none⟩ = some (.int .u8 (x : Int)) := x1
            go_wp2_with (first
              | (refine wpList_buildTo rfl 25 #[(0, .tmp 73)] rfl (some 74) rfl #[.int .i64 (x : Int), .int .i64 0] ?_ ?_; focus (simpa [Act.eval] using built_run1 (x : Int)))
              | (refine wpList_store_rowTo rfl _ _ _ rfl rfl h #[.int .i64 (x : Int), .int .i64 0] rfl rfl 25 #[.int .i64 0, .int .i64 0] (show w2.drew.heap[h]? = _ from HY.out) szRun rfl (oneU _ _) ?_))
            refine bodyPost_ret ((cell_run rfl _ _ h _ rfl rfl (setRow_heap _ _ _ _ _ _ (show w2.drew.heap[h]? = _ from HY.out))).trans rfl) rfl ⟨rfl, ?_⟩
            rw [← HH.out]
            exact below_rowU (Below.drew HB2.out) (Nat.le_refl _) _)
      · have eyx : ((y : Int) == (x : Int)) = false := by simp; omega
        have hres : R = (((x : Int), 0), 1) := by rw [HR1.out, if_neg]; rintro ⟨_, q, _⟩; rw [HPRV.out] at q; injection q with q; exact hxy q
        subst hres
        clear x0 hxy
        go_enter Try.func24, Try.ntmps24
        go_wp2_with fail
        rw [← HW1.out, ← HH.out]
        refine HSA.out.mono ?_
        rintro e w2 ⟨rfl, hd⟩
        have HD := Lib.hid hd
        have x1 : w2.cell? ⟨b, o + a, none⟩ = some (.int .u8 (x : Int)) := by obtain ⟨t, rfl⟩ := hd; exact HCA.out
        have HY := Lib.hid (show w2.heap[h]? = some (.cells #[.int .i64 0, .int .i64 0] 25 (0, 0)) by obtain ⟨t, rfl⟩ := hd; rw [HH.out]; exact HROW.out)
        have HB2 := Lib.hid (show Below h w w2 by rw [HH.out]; exact hd.below HB1.out)
        have x2 : w2.drew.cell? ⟨b, o + a, none⟩ = some (.int .u8 (x : Int)) := x1
        have x3 : w2.cell? ⟨b, o + p, none⟩ = some (.int .u8 (y : Int)) := by obtain ⟨t, rfl⟩ := hd; exact HCP2.out
        have x4 : w2.drew.cell? ⟨b, o + p, none⟩ = some (.int .u8 (y : Int)) := x3
        clear hd
        go_wp2
        go_region
        all_goals (
          have y1 : w2.drew.cell? ⟨b, o + a, none⟩ = some (.int .u8 (x : Int)) := x1
          go_wp2_with (first
            | (refine wpList_buildTo rfl 25 #[(0, .tmp 73)] rfl (some 74) rfl #[.int .i64 (x : Int), .int .i64 0] ?_ ?_; focus (simpa [Act.eval] using built_run1 (x : Int)))
            | (refine wpList_store_rowTo rfl _ _ _ rfl rfl h #[.int .i64 (x : Int), .int .i64 0] rfl rfl 25 #[.int .i64 0, .int .i64 0] (show w2.drew.heap[h]? = _ from HY.out) szRun rfl (oneU _ _) ?_))
          refine bodyPost_ret ((cell_run rfl _ _ h _ rfl rfl (setRow_heap _ _ _ _ _ _ (show w2.drew.heap[h]? = _ from HY.out))).trans rfl) rfl ⟨rfl, ?_⟩
          rw [← HH.out]
          exact below_rowU (Below.drew HB2.out) (Nat.le_refl _) _)
end Go.Proofs.Ytgkbnmknlmapdaa
