/-
  Layer 3 (canon): what check answers, and Check.
-/
import Derived.Test.YtedjapamimhglaaCanonCnt
namespace Go.Proofs.Ytedjapamimhglaa
open Go.RowKit
theorem wpList_on {P : Program} {ops : Array Oper} {rest : List Oper} {o : Oper} {a : Act} {w : World} {Q : Exit → Act → World → Prop} (hw : Region.wanted o (yielded ops a.tmps) = true)
    (h : ∀ K : Act → World → Prop, (∀ a w, wpList P ops Q rest a w → K a w) → o.wp P a w K Q) : wpList P ops Q (o :: rest) a w :=
  wpList_step fun K hK => by rw [if_pos hw]; exact h K hK
theorem wpList_load_row_on {P : Program} {ops : Array Oper} {rest : List Oper} {o : Oper} {a : Act} {w : World} {Q : Exit → Act → World → Prop} (hw : Region.wanted o (yielded ops a.tmps) = true) (ty : TypeId) (x : Operand) (ho : o.op = .load ty x)
    (g : Nat) (hx : a.eval x = .pointer (some ⟨g, 0, none⟩)) (t : TypeId) (cs : Array Value) (fr : Nat × Nat) (d : TypeDesc) (hg : w.heap[g]? = some (.cells cs t fr))
    (hu : P.underlying ty = some d) (hd : (match d with | .struct _ | .array _ _ => true | _ => false) = true) (hi : (P.info? ty).map (·.size) = some cs.size)
    (h : wpList P ops Q rest (a.put o.dst (.agg cs)) w) : wpList P ops Q (o :: rest) a w :=
  wpList_on hw fun _ hK => wp_load_row ty x ho g hx t cs fr d hg hu hd hi (hK _ _ h)
theorem wpList_build_on {P : Program} {ops : Array Oper} {rest : List Oper} {o : Oper} {a : Act} {w : World} {Q : Exit → Act → World → Prop} (hw : Region.wanted o (yielded ops a.tmps) = true) (ty : TypeId) (parts : Array (Nat × Operand)) (ho : o.op = .build ty parts)
    (v : Value) (hrun : (Instr.build ty (parts.map fun (i, x) => (i, a.eval x))).run P w = .ok v w)
    (h : wpList P ops Q rest (a.put o.dst v) w) : wpList P ops Q (o :: rest) a w :=
  wpList_on hw fun K hK => by
    unfold Oper.wp execOp
    simp only [ho]
    simp [hrun]
    exact hK _ _ h
theorem wpList_neq_on {P : Program} {ops : Array Oper} {rest : List Oper} {o : Oper} {a : Act} {w : World} {Q : Exit → Act → World → Prop} (hw : Region.wanted o (yielded ops a.tmps) = true) (ty : TypeId) (x y : Operand) (ho : o.op = .binOp .neq ty x y ty)
    (u v : Value) (b : Bool) (hx : a.eval x = u) (hy : a.eval y = v) (hg : (eqGuard .neq ty x y u v).run P w = .ok () w) (hrun : (binOp .neq ty u v).run P w = .ok (.bool b) w)
    (h : wpList P ops Q rest (a.put o.dst (.bool b)) w) : wpList P ops Q (o :: rest) a w :=
  wpList_on hw fun K hK => by
    unfold Oper.wp execOp
    simp only [ho, hx, hy]
    simp [hrun, hg, Sem.run_bind]
    exact hK _ _ h
theorem guard_tal (w : World) (x y : Operand) (u v : Array Value) : (eqGuard .neq 79 x y (.agg u) (.agg v)).run Try.prog w = .ok () w := by
  have h : Try.prog.eqGuardType Try.prog.depth 79 = false := by kernel_rfl
  unfold eqGuard
  simp [Sem.run_bind, h]
def sameB (t g : Nat → Nat) : Bool := (List.range 16).all fun m => t m == g m
theorem sameB_iff (t g : Nat → Nat) : sameB t g = true ↔ ∀ m, m < 16 → t m = g m := by simp [sameB]
def chkT (l : Int) (z o : Bool) : Int := if l < 0 then 30 else if 0 < l ∧ z = false ∧ o = false then 31 else 0
theorem run_neq_nums {P : Program} (w : World) {t e : TypeId} {n : Nat} {q : IntKind} (ht : P.underlying t = some (.array n e)) (he : P.underlying e = some (.int q)) (hce : P.cellsOf e = 1) (hi : (P.info? e).isSome = true)
    (xs ys : Array Value) (f g : Nat → Int) (hx : ∀ i, i < n → xs[i]? = some (.int q (f i))) (hy : ∀ i, i < n → ys[i]? = some (.int q (g i))) :
    (binOp .neq t (.agg xs) (.agg ys)).run P w = .ok (.bool (!decide (∀ i, i < n → f i = g i))) w := by
  obtain ⟨i, hi⟩ := Option.isSome_iff_exists.1 hi
  have h := run_equalIn_array (P := P) w 9999 xs ys ht hi
  rw [hce, run_eqItems_nums w 9998 he xs ys f g (List.range n) (fun i hi => by have := List.mem_range.1 hi; exact ⟨hx i this, hy i this⟩)] at h
  have e : (binOp .neq t (.agg xs) (.agg ys)).run P w = ((Op.equal t (.agg xs) (.agg ys)).run P w).andThen fun b w' => .ok (.bool (!b)) w' := by
    unfold binOp
    simp
  rw [e]
  unfold Op.equal Op.maxDepth
  rw [h]
  simp
theorem run_neq_tal (w : World) (t g : Nat → Nat) : (binOp .neq 79 (.agg (talA t)) (.agg (talA g))).run Try.prog w = .ok (.bool (!sameB t g)) w := by
  rw [run_neq_nums (P := Try.prog) w (n := 16) (q := .i64) Try.underlying79 Try.underlying3 (by kernel_rfl) (by kernel_rfl) (talA t) (talA g) (fun i => (t i : Int)) (fun i => (g i : Int)) (fun i hi => by rw [talA_get, if_pos hi]) (fun i hi => by rw [talA_get, if_pos hi])]
  have : (∀ i, i < 16 → (t i : Int) = (g i : Int)) ↔ sameB t g = true := ⟨fun h => (sameB_iff t g).2 fun m hm => by have := h m hm; omega, fun h m hm => by have := (sameB_iff t g).1 h m hm; omega⟩
  simp only [this]
  cases sameB t g <;> rfl
set_option maxRecDepth 100000 in
set_option maxHeartbeats 1000000 in
theorem chk_less (w : World) (t : Nat → Nat) (ht : ∀ m, t m ≤ 1000) (h : leftI t 15 < 0) :
    Calls Try.prog 44 #[.agg (talA t)] w fun e w' => e = .returned (.int .i64 30) ∧ Below w.heap.size w w' := by
  have HT := Lib.hid ht
  clear ht
  obtain ⟨l, hl⟩ : ∃ l, l = leftI t 15 := ⟨_, rfl⟩
  have HL := Lib.hid hl
  rw [← hl] at h
  clear hl
  go_enter Try.func44, Try.ntmps44
  have h1 : Tal (w.alloc (.cells (talA t) 79)) w.heap.size t := heap_alloc_new w _
  have H1 := Lib.hid h1
  have HB := Lib.hid ((Below.refl w.heap.size w).alloc (Nat.le_refl _) (.cells (talA t) 79))
  clear h1
  go_wp2_with (first
    | (refine wpList_load_row rfl _ _ rfl w.heap.size rfl _ (talA t) (0, 0) _ H1.out Try.underlying79 rfl (by rw [talA_size]; exact szTal) ?_)
    | (go_at_call 53; refine (left_any _ t HT.out).mono ?_; rintro e w' ⟨rfl, hb⟩; rw [← HL.out]; have HB2 := Lib.hid (HB.out.trans (hb.mono (by simp))); clear hb))
  go_ret
  exact ⟨rfl, HB2.out⟩
set_option maxRecDepth 100000 in
set_option maxHeartbeats 1000000 in
theorem chk_none (w : World) (t : Nat → Nat) (ht : ∀ m, t m ≤ 1000) (h : leftI t 15 = 0) :
    Calls Try.prog 44 #[.agg (talA t)] w fun e w' => e = .returned (.int .i64 0) ∧ Below w.heap.size w w' := by
  have HT := Lib.hid ht
  clear ht
  have HL := Lib.hid h
  clear h
  go_enter Try.func44, Try.ntmps44
  have h1 : Tal (w.alloc (.cells (talA t) 79)) w.heap.size t := heap_alloc_new w _
  have H1 := Lib.hid h1
  have HB := Lib.hid ((Below.refl w.heap.size w).alloc (Nat.le_refl _) (.cells (talA t) 79))
  clear h1
  go_wp2_with (first
    | (refine wpList_load_row rfl _ _ rfl w.heap.size rfl _ (talA t) (0, 0) _ H1.out Try.underlying79 rfl (by rw [talA_size]; exact szTal) ?_)
    | (go_at_call 53; refine (left_any _ t HT.out).mono ?_; rintro e w' ⟨rfl, hb⟩; rw [HL.out]; have HB2 := Lib.hid (HB.out.trans (hb.mono (by simp))); clear hb))
  go_ret
  exact ⟨rfl, HB2.out⟩
def moreE (z o : Bool) : Int := if z = false ∧ o = false then 31 else 0
set_option maxRecDepth 100000 in
set_option maxHeartbeats 1000000 in
theorem chk_more (w : World) (t : Nat → Nat) (ht : ∀ m, t m ≤ 1000) (h : 0 < leftI t 15) :
    Calls Try.prog 44 #[.agg (talA t)] w fun e w' => e = .returned (.int .i64 (moreE (sameB t zeroN) (sameB t oneT))) ∧ Below w.heap.size w w' := by
  have HT := Lib.hid ht
  have hbd := leftI_in ht (Nat.le_refl 15)
  obtain ⟨hbd1, hbd2⟩ := hbd
  clear ht
  obtain ⟨l, hl⟩ : ∃ l, l = leftI t 15 := ⟨_, rfl⟩
  have HL := Lib.hid hl
  rw [← hl] at h hbd1 hbd2
  clear hl
  have Q0 := Lib.hid fun u : World => run_neq_tal u t zeroN
  have Q1 := Lib.hid fun u : World => run_neq_tal u t oneT
  have hd : decide (l < 0) = false := by simp; omega
  cases hz : sameB t zeroN
  · rw [hz] at Q0
    cases ho : sameB t oneT
    all_goals
      rw [ho] at Q1
      clear hz ho
      go_enter Try.func44, Try.ntmps44
      have h1 : Tal (w.alloc (.cells (talA t) 79)) w.heap.size t := heap_alloc_new w _
      have H1 := Lib.hid h1
      have HB := Lib.hid ((Below.refl w.heap.size w).alloc (Nat.le_refl _) (.cells (talA t) 79))
      clear h1
      go_wp2_with (refine wpList_load_row rfl _ _ rfl w.heap.size rfl _ (talA t) (0, 0) _ H1.out Try.underlying79 rfl (by rw [talA_size]; exact szTal) ?_)
      refine (left_any _ t HT.out).mono ?_
      rintro e w' ⟨rfl, hb⟩
      rw [← HL.out]
      have HB2 := Lib.hid (HB.out.trans (hb.mono (by simp)))
      have HT2 := Lib.hid (H1.out.below hb (by simp))
      clear hb
      go_wp2_with (first
        | (refine wpList_load_row_on (by rfl) _ _ rfl w.heap.size rfl _ (talA t) (0, 0) _ HT2.out Try.underlying79 rfl (by rw [talA_size]; exact szTal) ?_)
        | (refine wpList_neq_on (by rfl) _ _ _ rfl (.agg (talA t)) (.agg (talA zeroN)) _ rfl rfl (guard_tal _ _ _ _ _) (Q0.out _) ?_)
        | (refine wpList_neq_on (by rfl) _ _ _ rfl (.agg (talA t)) (.agg (talA oneT)) _ rfl rfl (guard_tal _ _ _ _ _) (Q1.out _) ?_))
      go_ret
      exact ⟨rfl, HB2.out⟩
  · rw [hz] at Q0
    clear hz Q1
    have he : moreE true (sameB t oneT) = 0 := by unfold moreE; rw [if_neg (by simp)]
    rw [he]
    clear he
    go_enter Try.func44, Try.ntmps44
    have h1 : Tal (w.alloc (.cells (talA t) 79)) w.heap.size t := heap_alloc_new w _
    have H1 := Lib.hid h1
    have HB := Lib.hid ((Below.refl w.heap.size w).alloc (Nat.le_refl _) (.cells (talA t) 79))
    clear h1
    go_wp2_with (refine wpList_load_row rfl _ _ rfl w.heap.size rfl _ (talA t) (0, 0) _ H1.out Try.underlying79 rfl (by rw [talA_size]; exact szTal) ?_)
    refine (left_any _ t HT.out).mono ?_
    rintro e w' ⟨rfl, hb⟩
    rw [← HL.out]
    have HB2 := Lib.hid (HB.out.trans (hb.mono (by simp)))
    have HT2 := Lib.hid (H1.out.below hb (by simp))
    clear hb
    go_wp2_with (first
      | (refine wpList_load_row_on (by rfl) _ _ rfl w.heap.size rfl _ (talA t) (0, 0) _ HT2.out Try.underlying79 rfl (by rw [talA_size]; exact szTal) ?_)
      | (refine wpList_neq_on (by rfl) _ _ _ rfl (.agg (talA t)) (.agg (talA zeroN)) _ rfl rfl (guard_tal _ _ _ _ _) (Q0.out _) ?_))
    go_ret
    exact ⟨rfl, HB2.out⟩
/-- What check answers. -/
theorem chk_any (w : World) (f : Nat → Nat) (n : Nat) (hn : n ≤ 1000) (h15 : ∀ j, j < n → f j ≤ 15) :
    Calls Try.prog 44 #[.agg (talA fun m => tcN f m n)] w fun e w' => e = .returned (.int .i64 (endE (allN f n) (usedN f n))) ∧ Below w.heap.size w w' := by
  have ht : ∀ m, tcN f m n ≤ 1000 := fun m => Nat.le_trans (cntN_le f m n) hn
  have hl := left_all h15
  unfold endE
  by_cases h1 : 32768 < allN f n
  · rw [if_pos h1]; exact chk_less w _ ht (by omega)
  · rw [if_neg h1]
    by_cases h2 : allN f n = 32768
    · rw [if_pos (.inl h2)]; exact chk_none w _ ht (by omega)
    · have := chk_more w _ ht (by omega)
      have e : moreE (sameB (fun m => tcN f m n) zeroN) (sameB (fun m => tcN f m n) oneT) = if allN f n = 32768 ∨ usedN f n = 0 ∨ (usedN f n = 1 ∧ allN f n = 16384) then 0 else 31 := by
        have e0 : sameB (fun m => tcN f m n) zeroN = true ↔ usedN f n = 0 := (sameB_iff _ _).trans (none_iff h15)
        have e1 : sameB (fun m => tcN f m n) oneT = true ↔ usedN f n = 1 ∧ allN f n = 16384 := (sameB_iff _ _).trans (one_iff h15)
        unfold moreE
        simp only [← e0, ← e1]
        cases sameB (fun m => tcN f m n) zeroN <;> cases sameB (fun m => tcN f m n) oneT <;> simp [h2]
      rw [e] at this
      exact this
theorem kcheck_arg (w : World) (A : Option Addr) (n c : Nat) (most : Int) (h : most < 1 ∨ 15 < most) :
    Calls Try.prog 26 #[.slice A n c, .int .i64 most] w fun e w' => e = .returned (.int .i64 2) ∧ w = w' := by
  by_cases h1 : most < 1
  · have hd : decide (most < 1) = true := by simpa using h1
    clear h
    go_enter Try.func26, Try.ntmps26
    go_wp2
    go_ret
    exact ⟨rfl, rfl⟩
  · have h2 : 15 < most := by omega
    have hd : decide (most < 1) = false := by simpa using h1
    clear h
    go_enter Try.func26, Try.ntmps26
    go_wp2
    go_ret
    exact ⟨rfl, rfl⟩
theorem kcheck_many (w : World) (A : Option Addr) (n c : Nat) (most : Int) (h1 : 1 ≤ most) (h2 : most ≤ 15) (h : 320 < n) :
    Calls Try.prog 26 #[.slice A n c, .int .i64 most] w fun e w' => e = .returned (.int .i64 4) ∧ w = w' := by
  have hd : decide (most < 1) = false := by simp; omega
  have hd2 : decide (15 < most) = false := by simp; omega
  go_enter Try.func26, Try.ntmps26
  go_wp2
  go_ret
  exact ⟨rfl, rfl⟩
set_option maxRecDepth 100000 in
set_option maxHeartbeats 2000000 in
theorem kcheck_rest (w : World) (A : Option Addr) (n c : Nat) (f : Nat → Nat) (most : Int) (hr : RdB w w.heap.size A n f) (h1 : 1 ≤ most) (h2 : most ≤ 15) (h : n ≤ 320) :
    Calls Try.prog 26 #[.slice A n c, .int .i64 most] w fun e w' => e = .returned (.int .i64 (if bigB f n most = true then 2 else endE (allN f n) (usedN f n))) ∧ Below w.heap.size w w' := by
  have HR := Lib.hid hr
  clear hr
  have hd : decide (most < 1) = false := by simp; omega
  have hd2 : decide (15 < most) = false := by simp; omega
  have hd3 : decide ((320 : Int) < (n : Int)) = false := by simp; omega
  obtain ⟨E, hE⟩ : ∃ E, E = (if bigB f n most = true then 2 else endE (allN f n) (usedN f n)) := ⟨_, rfl⟩
  rw [← hE]
  have HE := Lib.hid hE
  clear hE
  go_enter Try.func26, Try.ntmps26
  go_wp2
  go_loop [18] (fun i => ∃ k : Nat, k ≤ n ∧ i = .int .i64 k ∧ ∀ j, j < k → (f j : Int) ≤ most) (fun i => n - (intOf i).toNat)
  case atStart => exact ⟨0, Nat.zero_le _, rfl, fun j hj => absurd hj (by omega)⟩
  case round =>
    obtain ⟨k, hk, rfl, hall⟩ := hrel
    have HALL := Lib.hid hall
    clear hall
    have hf := HR.out.1 k
    by_cases hlt : k < n
    · obtain ⟨b, o, rfl, _, hc⟩ := HR.out.2 (by omega)
      have hcell := hc k hlt
      clear hc
      by_cases hb : most < (f k : Int)
      · have HB := Lib.hid (bigB_yes hlt hb)
        go_wp2
        go_ret
        exact ⟨ret_int (by rw [HE.out, if_pos HB.out]), Below.refl _ _⟩
      · go_wp2
        refine ⟨⟨k + 1, hlt, by go_num, fun j hj => ?_⟩, by simp [intOf]; omega⟩
        rcases Nat.eq_or_lt_of_le (Nat.le_of_lt_succ hj) with e | e
        · subst e; omega
        · exact HALL.out j e
    · obtain rfl : k = n := by omega
      clear hk hlt
      have h15 : ∀ j, j < k → f j ≤ 15 := fun j hj => by have := HALL.out j hj; omega
      have H15 := Lib.hid h15
      have HE2 := Lib.hid (HE.out.trans (by rw [if_neg (by rw [bigB_mk HALL.out]; decide)] : _ = endE (allN f k) (usedN f k)))
      clear h15
      go_wp2_with fail
      refine (count_any w A k c f HR.out (by omega) H15.out).mono ?_
      rintro e w1 ⟨rfl, hb⟩
      have HB := Lib.hid hb
      clear hb
      go_wp2_with fail
      refine (chk_any w1 f k (by omega) H15.out).mono ?_
      rintro e w2 ⟨rfl, hb⟩
      rw [← HE2.out]
      have HB2 := Lib.hid (HB.out.trans (hb.mono HB.out.size))
      clear hb
      go_wp2
      go_ret
      exact ⟨rfl, HB2.out⟩
end Go.Proofs.Ytedjapamimhglaa
