/-
  Layer 5 (tree): what the program's Same tells of two trees.
-/
import Derived.Test.YtedjapamimhglaaTreeMem
namespace Go.Proofs.Ytedjapamimhglaa
open Go.RowKit
set_option maxRecDepth 100000 in
set_option maxHeartbeats 2000000 in
theorem seq_any (w : World) (u v : Value) (s t : List Int) (hu : RdS w w.heap.size u s) (hv : RdS w w.heap.size v t) (hs : s.length ≤ 1000000000) (ht : t.length ≤ 1000000000) :
    Calls Try.prog 32 #[u, v] w fun e w' => e = .returned (.bool (decide (s = t))) ∧ Below w.heap.size w w' := by
  obtain ⟨A, ca, rfl, hra, _⟩ := hu
  obtain ⟨B, cb, rfl, hrb, _⟩ := hv
  have HRA := Lib.hid hra; have HRB := Lib.hid hrb
  clear hra hrb
  obtain ⟨n1, hn1⟩ : ∃ n, n = s.length := ⟨_, rfl⟩
  obtain ⟨n2, hn2⟩ : ∃ n, n = t.length := ⟨_, rfl⟩
  rw [← hn1] at hs ⊢
  rw [← hn2] at ht ⊢
  obtain ⟨R, hR⟩ : ∃ R, R = decide (s = t) := ⟨_, rfl⟩
  rw [← hR]
  have HN1 := Lib.hid hn1; have HN2 := Lib.hid hn2; have HR := Lib.hid hR
  clear hn1 hn2 hR
  by_cases hl : n1 = n2
  · subst hl
    have hnn : ((n1 : Int) != (n1 : Int)) = false := by simp
    have hnn2 : (n1 != n1) = false := by simp
    go_enter Try.func32, Try.ntmps32
    go_wp2
    go_loopw [13] (fun i wr => ∃ k : Nat, k ≤ n1 ∧ i = .int .i64 k ∧ Below w.heap.size w wr ∧ ∀ j, j < k → s.getD j 0 = t.getD j 0) (fun i _ => n1 - (intOf i).toNat)
    case atStart => exact ⟨0, Nat.zero_le _, rfl, Below.refl _ _, fun j hj => absurd hj (by omega)⟩
    case round =>
      obtain ⟨k, hk, rfl, hb, hall⟩ := hrel
      by_cases hlt : k < n1
      · obtain ⟨b1, o1, rfl, _, hc1⟩ := (HRA.out.below hb (Nat.le_refl _)).at (k := k) (by rw [← HN1.out]; exact hlt)
        obtain ⟨b2, o2, rfl, _, hc2⟩ := (HRB.out.below hb (Nat.le_refl _)).at (k := k) (by rw [← HN2.out]; exact hlt)
        have e1 := hc1 k (by rw [← HN1.out]; exact hlt)
        have e2 := hc2 k (by rw [← HN2.out]; exact hlt)
        obtain ⟨x, hx⟩ : ∃ x, x = s.getD k 0 := ⟨_, rfl⟩
        obtain ⟨y, hy⟩ : ∃ y, y = t.getD k 0 := ⟨_, rfl⟩
        rw [← hx] at e1
        rw [← hy] at e2
        have HX := Lib.hid hx; have HY := Lib.hid hy; have HBW := Lib.hid hb; have HALL := Lib.hid hall
        clear hx hy hb hall hc1 hc2
        by_cases hxy : x = y
        · subst hxy
          have hxx : (x != x) = false := by simp
          go_wp2
          go_quiet (fail)
          go_wp2
          go_roundw
          case rel =>
            refine ⟨k + 1, by omega, by go_num, below_drawN HBW.out _, fun j hj => ?_⟩
            rcases Nat.eq_or_lt_of_le (Nat.le_of_lt_succ hj) with e | e
            · subst e; rw [← HX.out, ← HY.out]
            · exact HALL.out j e
          case measure => simp [intOf]; omega
        · have hxx : (x != y) = true := by simpa using hxy
          obtain rfl : R = false := HR.out.trans (decide_eq_false fun h => hxy (by rw [HX.out, HY.out, h]))
          clear HR hxy
          go_wp2
          go_quiet (fail)
          go_wp2
          go_ret
          exact ⟨rfl, below_drawN HBW.out _⟩
      · obtain rfl : k = n1 := by omega
        obtain rfl : R = true := HR.out.trans (decide_eq_true (by
          apply List.ext_getElem (by rw [← HN1.out, ← HN2.out])
          intro j h1 h2
          have := hall j (by rw [HN1.out]; exact h1)
          rw [List.getD_eq_getElem?_getD, List.getD_eq_getElem?_getD, List.getElem?_eq_getElem h1, List.getElem?_eq_getElem h2] at this
          exact this))
        have HBW := Lib.hid hb
        clear HR hb hall hlt hk
        go_wp2
        go_ret
        exact ⟨rfl, HBW.out⟩
  · have hnn : ((n1 : Int) != (n2 : Int)) = true := by simp; omega
    have hnn2 : (n1 != n2) = true := by simpa using hl
    obtain rfl : R = false := HR.out.trans (decide_eq_false fun h => hl (by rw [HN1.out, HN2.out, h]))
    clear HR hl
    go_enter Try.func32, Try.ntmps32
    go_wp2
    go_ret
    exact ⟨rfl, Below.refl _ _⟩
theorem run_eql_cnt (w : World) (c d : Nat → Int) : (binOp .eql 22 (.agg (cntV c).toArray) (.agg (cntV d).toArray)).run Try.prog w = .ok (.bool (sameC c d)) w := by
  obtain ⟨i, hi⟩ := Option.isSome_iff_exists.1 (show (Try.prog.info? 3).isSome = true by kernel_rfl)
  have hce : Try.prog.cellsOf 3 = 1 := by kernel_rfl
  have h := run_equalIn_array (P := Try.prog) w 9999 (cntV c).toArray (cntV d).toArray Try.underlying22 hi
  rw [hce, run_eqItems_nums w 9998 Try.underlying3 (cntV c).toArray (cntV d).toArray c d (List.range 16) (fun i hi => by
    have := List.mem_range.1 hi
    simp [cntV_get, this])] at h
  have e : (binOp .eql 22 (.agg (cntV c).toArray) (.agg (cntV d).toArray)).run Try.prog w = ((Op.equal 22 (.agg (cntV c).toArray) (.agg (cntV d).toArray)).run Try.prog w).andThen fun b w' => .ok (.bool b) w' := by
    unfold binOp
    simp
  rw [e]
  unfold Op.equal Op.maxDepth
  rw [h]
  have : (∀ i ∈ List.range 16, c i = d i) ↔ sameC c d = true := by
    rw [sameC_iff]; exact ⟨fun h m hm => h m (List.mem_range.2 hm), fun h m hm => h m (List.mem_range.1 hm)⟩
  simp only [Result.andThen_ok, this]
  cases sameC c d <;> rfl
theorem wpList_eql_at {P : Program} {ops : Array Oper} {rest : List Oper} {o : Oper} {a : Act} {w : World} {Q : Exit → Act → World → Prop} (hw : Region.wanted o (yielded ops a.tmps) = true) (ty : TypeId) (x y : Operand) (ho : o.op = .binOp .eql ty x y ty)
    (u v : Value) (b : Bool) (hx : a.eval x = u) (hy : a.eval y = v) (hg : (eqGuard .eql ty x y u v).run P w = .ok () w) (hrun : (binOp .eql ty u v).run P w = .ok (.bool b) w)
    (h : wpList P ops Q rest (a.put o.dst (.bool b)) w) : wpList P ops Q (o :: rest) a w :=
  wpList_on hw fun K hK => by
    unfold Oper.wp execOp
    simp only [ho, hx, hy]
    simp [hrun, hg, Sem.run_bind]
    exact hK _ _ h
set_option maxRecDepth 100000 in
set_option maxHeartbeats 2000000 in
theorem tsame_any (w : World) (c d : Nat → Int) (u v : Value) (s t : List Int) (hu : RdS w w.heap.size u s) (hv : RdS w w.heap.size v t) (hs : s.length ≤ 1000000) (ht : t.length ≤ 1000000) :
    Calls Try.prog 19 #[.agg (trA c u), .agg (trA d v)] w fun e w' => e = .returned (.bool (sameT c d s t)) ∧ Below w.heap.size w w' := by
  have hg : ∀ (W : World) (x y : Operand) (u v : Array Value), (eqGuard .eql 22 x y (.agg u) (.agg v)).run Try.prog W = .ok () W := fun W x y u v => by
    have h : Try.prog.eqGuardType Try.prog.depth 22 = false := by kernel_rfl
    unfold eqGuard
    simp [Sem.run_bind, h]
  have HG := Lib.hid hg
  have hb := ((Below.refl w.heap.size w).alloc (Nat.le_refl _) (.cells (trA c u) 25)).alloc (by simp) (.cells (trA d v) 25)
  have ht1 : TreA ((w.alloc (.cells (trA c u) 25)).alloc (.cells (trA d v) 25)) w.heap.size c u := heap_alloc2_old w _ _
  have ht2 : TreA ((w.alloc (.cells (trA c u) 25)).alloc (.cells (trA d v) 25)) (w.heap.size + 1) d v := heap_alloc2_new w _ _
  have hq := seq_any _ u v s t ((hu.below hb (Nat.le_refl _)).more hb.size) ((hv.below hb (Nat.le_refl _)).more hb.size) (by omega) (by omega)
  have k1 := ht1.syms
  have k2 := ht2.syms
  have HT1 := Lib.hid ht1; have HT2 := Lib.hid ht2; have HB := Lib.hid hb; have HQ := Lib.hid hq
  clear hg hb ht1 ht2 hq
  cases hc : sameC c d
  · have hr : sameT c d s t = false := by unfold sameT; rw [hc]; rfl
    rw [hr]
    have hne := Lib.hid (show ∀ W : World, (binOp .eql 22 (.agg (cntV c).toArray) (.agg (cntV d).toArray)).run Try.prog W = .ok (.bool false) W from fun W => by rw [run_eql_cnt, hc])
    clear hc hr
    go_enter Try.func19, Try.ntmps19
    go_wp2_with (first
      | (refine wpList_load_mid rfl _ _ rfl w.heap.size 0 rfl (cntV c) _ HT1.out.range Try.underlying22 rfl (by rw [cntV_length]; exact szCnt) ?_)
      | (refine wpList_load_mid rfl _ _ rfl (w.heap.size + 1) 0 rfl (cntV d) _ HT2.out.range Try.underlying22 rfl (by rw [cntV_length]; exact szCnt) ?_)
      | (refine wpList_eql_at (by rfl) _ _ _ rfl _ _ _ rfl rfl (HG.out _ _ _ _ _) (hne.out _) ?_))
    go_ret
    exact ⟨rfl, HB.out⟩
  · have hr : sameT c d s t = decide (s = t) := by unfold sameT; rw [hc]; rfl
    rw [hr]
    have hne := Lib.hid (show ∀ W : World, (binOp .eql 22 (.agg (cntV c).toArray) (.agg (cntV d).toArray)).run Try.prog W = .ok (.bool true) W from fun W => by rw [run_eql_cnt, hc])
    clear hc hr
    go_enter Try.func19, Try.ntmps19
    go_wp2_with (first
      | (refine wpList_load_mid rfl _ _ rfl w.heap.size 0 rfl (cntV c) _ HT1.out.range Try.underlying22 rfl (by rw [cntV_length]; exact szCnt) ?_)
      | (refine wpList_load_mid rfl _ _ rfl (w.heap.size + 1) 0 rfl (cntV d) _ HT2.out.range Try.underlying22 rfl (by rw [cntV_length]; exact szCnt) ?_)
      | (refine wpList_eql_at (by rfl) _ _ _ rfl _ _ _ rfl rfl (HG.out _ _ _ _ _) (hne.out _) ?_)
      | (go_at_call 32; refine HQ.out.mono ?_; rintro e w' ⟨rfl, hb'⟩))
    go_ret
    exact ⟨rfl, HB.out.trans (hb'.mono HB.out.size)⟩
end Go.Proofs.Ytedjapamimhglaa
