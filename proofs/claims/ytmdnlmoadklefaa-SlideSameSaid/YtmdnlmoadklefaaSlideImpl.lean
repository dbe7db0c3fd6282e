/-
  Layer 6 (slide): what slide.New, Check, Push and Copy answer, for every argument.
-/
import Derived.Test.YtmdnlmoadklefaaSlideLst
namespace Go.Proofs.Ytmdnlmoadklefaa
open Go.RowKit
/-- What is wrong with a window of size S that has n bytes. -/
def winE (S : Int) (n : Nat) : Int := if 1 ≤ S ∧ S ≤ 32768 ∧ (n : Int) ≤ S then 0 else 8
def newE (S : Int) : Int := if 1 ≤ S ∧ S ≤ 32768 then 0 else 2
def newS (S : Int) : Int := if 1 ≤ S ∧ S ≤ 32768 then S else 0
def pushE (S : Int) (n m : Nat) : Int := if winE S n = 0 then (if 131072 < m then 4 else 0) else 8
def copyE (S : Int) (n : Nat) (d k : Int) : Int := if winE S n = 0 then (if k < 0 ∨ 258 < k ∨ d < 1 then 2 else if (n : Int) < d then 60 else 0) else 8
theorem winE_cases (S : Int) (n : Nat) : winE S n = 0 ∧ 1 ≤ S ∧ S ≤ 32768 ∧ (n : Int) ≤ S ∨ winE S n = 8 := by
  unfold winE; split
  · exact .inl ⟨rfl, by assumption⟩
  · exact .inr rfl
/-- The slice lies in no block below B. -/
def NewB (B : Nat) (A : Option Addr) : Prop := ∀ b, A.map (·.block) = some b → B ≤ b
theorem NewB.none_ (B : Nat) : NewB B none := fun _ h => by cases h
theorem NewB.mono {B B' : Nat} {A : Option Addr} (h : NewB B A) (hB : B' ≤ B) : NewB B' A := fun b hb => Nat.le_trans hB (h b hb)
/-- What comes back of Push. -/
def PushOut (S : Int) (n : Nat) (f : Nat → Nat) (m : Nat) (g : Nat → Nat) (B : Nat) (e : Ending) (w' : World) : Prop :=
  ∃ S' A' l' c' F', e = .returned (.tuple #[.agg #[.int .i64 S', .slice A' l' c'], .int .i64 (pushE S n m)]) ∧ ByR w' w'.heap.size A' l' c' F' ∧ NewB B A' ∧ if pushE S n m = 0 then S' = S ∧ l' = inN S.toNat n m ∧ F' = inF S.toNat n f m g else S' = 0 ∧ l' = 0
/-- What comes back of Copy. -/
def CopyOut (S : Int) (n : Nat) (f : Nat → Nat) (d k : Int) (B : Nat) (e : Ending) (w' : World) : Prop :=
  ∃ S' A' l' c' F' B' k' b' G', e = .returned (.tuple #[.agg #[.int .i64 S', .slice A' l' c'], .slice B' k' b', .int .i64 (copyE S n d k)]) ∧ ByR w' w'.heap.size A' l' c' F' ∧ ByR w' w'.heap.size B' k' b' G' ∧ NewB B A' ∧ NewB B B' ∧
    if copyE S n d k = 0 then S' = S ∧ l' = inN S.toNat n k.toNat ∧ F' = inF S.toNat n f k.toNat (copF n f d.toNat) ∧ k' = k.toNat ∧ G' = copF n f d.toNat else S' = 0 ∧ l' = 0 ∧ k' = 0
theorem zero_lt256 : ∀ j : Nat, (fun _ => 0 : Nat → Nat) j < 256 := fun _ => by show 0 < 256; omega
theorem below_set2 {B X : Nat} {w v : World} (h : Below B w v) (hX : B ≤ X) (p q : Value) : Below B w ((v.setCell ⟨X, 0, none⟩ p).setCell ⟨X, 1, none⟩ q) := (h.setCell (p := ⟨X, 0, none⟩) hX p).setCell (p := ⟨X, 1, none⟩) hX q
theorem ByR.set2 {w : World} {B n c X : Nat} {A : Option Addr} {f : Nat → Nat} (h : ByR w B A n c f) (p q : Value) (hne : ∀ b, A.map (·.block) = some b → b ≠ X) : ByR ((w.setCell ⟨X, 0, none⟩ p).setCell ⟨X, 1, none⟩ q) B A n c f := (h.other ⟨X, 0, none⟩ p hne).other ⟨X, 1, none⟩ q hne
/-- A call's two blocks of two cells, the boxed window and the result's, behind what only goes on. -/
theorem win_blocks {w W1 w2 : World} {x y : Value} {t : TypeId} (hW : W1 = (w.alloc (.cells #[x, y] t)).alloc (.cells #[.int .i64 0, .slice none 0 0] t)) (hb : Below W1.heap.size W1 w2) :
    w2.cell? ⟨w.heap.size, 0, none⟩ = some x ∧ w2.cell? ⟨w.heap.size, 1, none⟩ = some y ∧ w2.cell? ⟨w.heap.size + 1, 0, none⟩ = some (.int .i64 0) ∧ w2.cell? ⟨w.heap.size + 1, 1, none⟩ = some (.slice none 0 0) ∧
    w2.frozen? ⟨w.heap.size + 1, 0, none⟩ = false ∧ w2.frozen? ⟨w.heap.size + 1, 1, none⟩ = false ∧ Below w.heap.size w w2 ∧ w.heap.size + 1 < w2.heap.size ∧ W1.heap.size = w.heap.size + 2 := by
  have hsz : W1.heap.size = w.heap.size + 2 := by rw [hW]; simp
  have p1 : W1.heap[w.heap.size]? = some (.cells #[x, y] t (0, 0)) := by
    rw [hW, heap_alloc_old _ _ (by simp)]; exact heap_alloc_new w _
  have p2 : W1.heap[w.heap.size + 1]? = some (.cells #[.int .i64 0, .slice none 0 0] t (0, 0)) := by
    rw [hW]; have := heap_alloc_new (w.alloc (.cells #[x, y] t)) (.cells #[.int .i64 0, .slice none 0 0] t); simpa using this
  have hb0 : Below w.heap.size w W1 := by rw [hW]; exact ((Below.refl w.heap.size w).alloc (Nat.le_refl _) _).alloc (by simp) _
  have q1 := (hb.block w.heap.size (by omega)).trans p1
  have q2 := (hb.block (w.heap.size + 1) (by omega)).trans p2
  exact ⟨(cell_of_row w2 _ 0 _ _ (0, 0) q1).trans rfl, (cell_of_row w2 _ 1 _ _ (0, 0) q1).trans rfl, (cell_of_row w2 _ 0 _ _ (0, 0) q2).trans rfl, (cell_of_row w2 _ 1 _ _ (0, 0) q2).trans rfl,
    frozen_of_row w2 _ 0 _ _ q2, frozen_of_row w2 _ 1 _ _ q2, hb0.trans (hb.mono (by omega)), by have := hb.size; omega, hsz⟩
theorem set2_cells {w : World} {X : Nat} {x y p q : Value} (h0 : w.cell? ⟨X, 0, none⟩ = some x) (h1 : w.cell? ⟨X, 1, none⟩ = some y) :
    ((w.setCell ⟨X, 0, none⟩ p).setCell ⟨X, 1, none⟩ q).cell? ⟨X, 0, none⟩ = some p ∧ ((w.setCell ⟨X, 0, none⟩ p).setCell ⟨X, 1, none⟩ q).cell? ⟨X, 1, none⟩ = some q :=
  ⟨(World.cell?_setCell_other _ _ _ _ (by simp)).trans (World.cell?_setCell_same _ _ _ h0), World.cell?_setCell_same _ _ _ ((World.cell?_setCell_other _ _ _ _ (by simp)).trans h1)⟩
set_option maxRecDepth 100000 in
theorem snew_any (w : World) (S : Int) (h1 : -9223372036854775808 ≤ S) (h2 : S ≤ 9223372036854775807) :
    Calls Try.prog 9 #[.int .i64 S] w fun e w' => e = .returned (.tuple #[.agg #[.int .i64 (newS S), .slice none 0 0], .int .i64 (newE S)]) ∧ Below w.heap.size w w' := by
  by_cases h3 : S < 1
  · have e1 : newS S = 0 := by unfold newS; rw [if_neg (by omega)]
    have e2 : newE S = 2 := by unfold newE; rw [if_neg (by omega)]
    rw [e1, e2]
    clear e1 e2
    go_enter Try.func9, Try.ntmps9
    go_wp2
    refine bodyPost_ret (v := .tuple #[.agg #[.int .i64 0, .slice none 0 0], .int .i64 2]) (by simp [results, Try.results9, go_sem]) rfl ⟨rfl, ?_⟩
    exact (Below.refl w.heap.size w).alloc (Nat.le_refl _) _
  · by_cases h4 : 32768 < S
    · have e1 : newS S = 0 := by unfold newS; rw [if_neg (by omega)]
      have e2 : newE S = 2 := by unfold newE; rw [if_neg (by omega)]
      rw [e1, e2]
      clear e1 e2
      go_enter Try.func9, Try.ntmps9
      go_wp2
      refine bodyPost_ret (v := .tuple #[.agg #[.int .i64 0, .slice none 0 0], .int .i64 2]) (by simp [results, Try.results9, go_sem]) rfl ⟨rfl, ?_⟩
      exact (Below.refl w.heap.size w).alloc (Nat.le_refl _) _
    · have e1 : newS S = S := by unfold newS; rw [if_pos (by omega)]
      have e2 : newE S = 0 := by unfold newE; rw [if_pos (by omega)]
      rw [e1, e2]
      clear e1 e2
      go_enter Try.func9, Try.ntmps9
      go_wp2
      refine bodyPost_ret (v := .tuple #[.agg #[.int .i64 S, .slice none 0 0], .int .i64 0]) (by simp [results, Try.results9, go_sem]) rfl ⟨rfl, ?_⟩
      exact (Below.refl w.heap.size w).alloc (Nat.le_refl _) _
set_option maxRecDepth 100000 in
theorem schk_any (w : World) (S : Int) (A : Option Addr) (n c : Nat) (h1 : -9223372036854775808 ≤ S) (h2 : S ≤ 9223372036854775807) :
    Calls Try.prog 11 #[.agg #[.int .i64 S, .slice A n c]] w fun e w' => e = .returned (.int .i64 (winE S n)) ∧ Below w.heap.size w w' := by
  have HB := Lib.hid ((Below.refl w.heap.size w).alloc (Nat.le_refl _) (.cells #[.int .i64 S, .slice A n c] 24))
  by_cases h3 : S < 1
  · have e1 : winE S n = 8 := by unfold winE; rw [if_neg (by omega)]
    rw [e1]; clear e1
    go_enter Try.func11, Try.ntmps11
    go_wp2
    go_ret
    exact ⟨rfl, HB.out⟩
  · by_cases h4 : 32768 < S
    · have e1 : winE S n = 8 := by unfold winE; rw [if_neg (by omega)]
      rw [e1]; clear e1
      go_enter Try.func11, Try.ntmps11
      go_wp2
      go_ret
      exact ⟨rfl, HB.out⟩
    · by_cases h5 : S < (n : Int)
      · have e1 : winE S n = 8 := by unfold winE; rw [if_neg (by omega)]
        rw [e1]; clear e1
        go_enter Try.func11, Try.ntmps11
        go_wp2
        go_ret
        exact ⟨rfl, HB.out⟩
      · have e1 : winE S n = 0 := by unfold winE; rw [if_pos (by omega)]
        rw [e1]; clear e1
        go_enter Try.func11, Try.ntmps11
        go_wp2
        go_ret
        exact ⟨rfl, HB.out⟩
theorem pushE_eq {S : Int} {n m : Nat} {x : Int} (h : winE S n = x) : pushE S n m = if x = 0 then (if 131072 < m then 4 else 0) else 8 := by unfold pushE; rw [h]
set_option maxRecDepth 100000 in
set_option maxHeartbeats 2000000 in
theorem spush_any (w : World) (S : Int) (A : Option Addr) (n c : Nat) (f : Nat → Nat) (hr : ByR w w.heap.size A n c f) (h1 : -9223372036854775808 ≤ S) (h2 : S ≤ 9223372036854775807) (A2 : Option Addr) (m c2 : Nat) (g : Nat → Nat) (hg : ByR w w.heap.size A2 m c2 g) :
    Calls Try.prog 12 #[.agg #[.int .i64 S, .slice A n c], .slice A2 m c2] w fun e w' => PushOut S n f m g w.heap.size e w' ∧ Below w.heap.size w w' := by
  obtain ⟨W1, hW1⟩ : ∃ W1, W1 = (w.alloc (.cells #[.int .i64 S, .slice A n c] 24)).alloc (.cells #[.int .i64 0, .slice none 0 0] 24) := ⟨_, rfl⟩
  obtain ⟨a1, a2, a3, a4, a5, a6, hb1, hsz, hs2⟩ := win_blocks hW1 (Below.refl W1.heap.size W1)
  have hck := schk_any W1 S A n c h1 h2
  have HR := Lib.hid ((hr.below hb1 (Nat.le_refl _)).more hb1.size); have HG := Lib.hid ((hg.below hb1 (Nat.le_refl _)).more hb1.size)
  have HW1 := Lib.hid hW1; have HCK := Lib.hid hck
  clear hr hg hW1 hb1 hs2 hck a3 a4 a5 a6
  go_enter Try.func12, Try.ntmps12
  go_wp2_with fail
  rw [← HW1.out]
  go_wp2_with fail
  refine HCK.out.mono ?_
  rintro e w2 ⟨rfl, hb2⟩
  have HR2 := Lib.hid ((HR.out.below hb2 (Nat.le_refl _)).more hb2.size); have HG2 := Lib.hid ((HG.out.below hb2 (Nat.le_refl _)).more hb2.size)
  obtain ⟨a1, a2, a3, a4, a5, a6, hb1, hsz2, hs2⟩ := win_blocks HW1.out hb2
  have HB1 := Lib.hid hb1
  clear hb2 hb1 hs2 HR HG HCK
  rcases winE_cases S n with ⟨he, hS1, hS2, hnS⟩ | he
  · have hpe := pushE_eq (m := m) he
    rw [if_pos rfl] at hpe
    rw [he]
    obtain ⟨s, rfl⟩ := Int.eq_ofNat_of_zero_le (show 0 ≤ S by omega)
    by_cases hm : 131072 < m
    · rw [if_pos hm] at hpe
      have HPE := Lib.hid hpe
      have hd : (131072 : Int) < (m : Int) := by omega
      clear he hpe
      obtain ⟨e1, e2⟩ := set2_cells (p := .int .i64 0) (q := .slice none 0 0) a3 a4
      go_wp2
      refine bodyPost_ret (v := .tuple #[.agg #[.int .i64 0, .slice none 0 0], .int .i64 4]) (by simp [results, Try.results12, go_sem, e1, e2]) rfl ⟨?_, below_set2 HB1.out (Nat.le_succ _) _ _⟩
      exact ⟨0, none, 0, 0, fun _ => 0, by rw [HPE.out], ByR.nil _ _ _ zero_lt256, NewB.none_ _, by rw [HPE.out, if_neg (by decide)]; exact ⟨rfl, rfl⟩⟩
    · rw [if_neg hm] at hpe
      have HPE := Lib.hid hpe
      have hd : ¬ (131072 : Int) < (m : Int) := by omega
      have hin := into_any w2 s (by omega) (by omega) A n c f HR2.out (by omega) A2 m c2 g HG2.out (by omega) (inN s n m) rfl
      obtain ⟨l, hl⟩ : ∃ l, l = inN s n m := ⟨_, rfl⟩
      rw [← hl] at hin
      have HIN := Lib.hid hin; have HL := Lib.hid hl
      clear he hpe hin hl
      go_wp2_with fail
      refine HIN.out.mono ?_
      rintro e w3 ⟨A3, rfl, h3, hb3, hge⟩
      have d3 := (hb3.cell (p := ⟨w.heap.size + 1, 0, none⟩) hsz2).trans a3
      have d4 := (hb3.cell (p := ⟨w.heap.size + 1, 1, none⟩) hsz2).trans a4
      have d5 := (hb3.frozen (p := ⟨w.heap.size + 1, 0, none⟩) hsz2).trans a5
      have d6 := (hb3.frozen (p := ⟨w.heap.size + 1, 1, none⟩) hsz2).trans a6
      have HGE := Lib.hid hge; have H3 := Lib.hid h3; have HB3 := Lib.hid (HB1.out.trans (hb3.mono (by omega)))
      clear hge h3 hb3 a1 a2 a3 a4 a5 a6
      obtain ⟨e1, e2⟩ := set2_cells (p := .int .i64 (s : Int)) (q := .slice A3 l l) d3 d4
      go_wp2
      refine bodyPost_ret (v := .tuple #[.agg #[.int .i64 (s : Int), .slice A3 l l], .int .i64 0]) (by simp [results, Try.results12, go_sem, e1, e2]) rfl ⟨?_, below_set2 HB3.out (Nat.le_succ _) _ _⟩
      refine ⟨(s : Int), A3, l, l, inF s n f m g, by rw [HPE.out], (H3.out.set2 _ _ fun b hb => by have := HGE.out b hb; omega).more (by simp), (fun b hb => by have := HGE.out b hb; omega), ?_⟩
      rw [HPE.out, if_pos rfl]
      exact ⟨rfl, HL.out, rfl⟩
  · have hpe := pushE_eq (m := m) he
    rw [if_neg (by decide)] at hpe
    rw [he]
    have HPE := Lib.hid hpe
    clear he hpe
    obtain ⟨e1, e2⟩ := set2_cells (p := .int .i64 0) (q := .slice none 0 0) a3 a4
    go_wp2
    refine bodyPost_ret (v := .tuple #[.agg #[.int .i64 0, .slice none 0 0], .int .i64 8]) (by simp [results, Try.results12, go_sem, e1, e2]) rfl ⟨?_, below_set2 HB1.out (Nat.le_succ _) _ _⟩
    exact ⟨0, none, 0, 0, fun _ => 0, by rw [HPE.out], ByR.nil _ _ _ zero_lt256, NewB.none_ _, by rw [HPE.out, if_neg (by decide)]; exact ⟨rfl, rfl⟩⟩
theorem copyE_bad {S : Int} {n : Nat} {d k : Int} (h : winE S n = 8) : copyE S n d k = 8 := by unfold copyE; rw [h]; rfl
theorem copyE_arg {S : Int} {n : Nat} {d k : Int} (h : winE S n = 0) (h2 : k < 0 ∨ 258 < k ∨ d < 1) : copyE S n d k = 2 := by unfold copyE; rw [h, if_pos rfl, if_pos h2]
theorem copyE_dist {S : Int} {n : Nat} {d k : Int} (h : winE S n = 0) (h2 : ¬ (k < 0 ∨ 258 < k ∨ d < 1)) (h3 : (n : Int) < d) : copyE S n d k = 60 := by unfold copyE; rw [h, if_pos rfl, if_neg h2, if_pos h3]
theorem copyE_ok {S : Int} {n : Nat} {d k : Int} (h : winE S n = 0) (h2 : ¬ (k < 0 ∨ 258 < k ∨ d < 1)) (h3 : ¬ (n : Int) < d) : copyE S n d k = 0 := by unfold copyE; rw [h, if_pos rfl, if_neg h2, if_neg h3]
theorem copyOut_no {S : Int} {n : Nat} {f : Nat → Nat} {d k x : Int} (h : copyE S n d k = x) (hx : x ≠ 0) (w' : World) (B : Nat) : CopyOut S n f d k B (.returned (.tuple #[.agg #[.int .i64 0, .slice none 0 0], .slice none 0 0, .int .i64 x])) w' :=
  ⟨0, none, 0, 0, fun _ => 0, none, 0, 0, fun _ => 0, by rw [h], ByR.nil _ _ _ zero_lt256, ByR.nil _ _ _ zero_lt256, NewB.none_ _, NewB.none_ _, by rw [h, if_neg hx]; exact ⟨rfl, rfl, rfl⟩⟩
set_option maxRecDepth 100000 in
set_option maxHeartbeats 4000000 in
theorem scopy_any (w : World) (S : Int) (A : Option Addr) (n c : Nat) (f : Nat → Nat) (hr : ByR w w.heap.size A n c f) (h1 : -9223372036854775808 ≤ S) (h2 : S ≤ 9223372036854775807) (d k : Int) (hd1 : -9223372036854775808 ≤ d) (hd2 : d ≤ 9223372036854775807) (hk1 : -9223372036854775808 ≤ k) (hk2 : k ≤ 9223372036854775807) :
    Calls Try.prog 8 #[.agg #[.int .i64 S, .slice A n c], .int .i64 d, .int .i64 k] w fun e w' => CopyOut S n f d k w.heap.size e w' ∧ Below w.heap.size w w' := by
  obtain ⟨W1, hW1⟩ : ∃ W1, W1 = (w.alloc (.cells #[.int .i64 S, .slice A n c] 24)).alloc (.cells #[.int .i64 0, .slice none 0 0] 24) := ⟨_, rfl⟩
  obtain ⟨a1, a2, a3, a4, a5, a6, hb1, hsz, hs2⟩ := win_blocks hW1 (Below.refl W1.heap.size W1)
  have hck := schk_any W1 S A n c h1 h2
  have HR := Lib.hid ((hr.below hb1 (Nat.le_refl _)).more hb1.size)
  have HW1 := Lib.hid hW1; have HCK := Lib.hid hck
  clear hr hW1 hb1 hs2 hck a3 a4 a5 a6
  go_enter Try.func8, Try.ntmps8
  go_wp2_with fail
  rw [← HW1.out]
  go_wp2_with fail
  refine HCK.out.mono ?_
  rintro e w2 ⟨rfl, hb2⟩
  have HR2 := Lib.hid ((HR.out.below hb2 (Nat.le_refl _)).more hb2.size)
  obtain ⟨a1, a2, a3, a4, a5, a6, hb1, hsz2, hs2⟩ := win_blocks HW1.out hb2
  have HB1 := Lib.hid hb1
  clear hb2 hb1 hs2 HR HCK
  obtain ⟨e1, e2⟩ := set2_cells (p := .int .i64 0) (q := .slice none 0 0) a3 a4
  rcases winE_cases S n with ⟨he, hS1, hS2, hnS⟩ | he
  · rw [he]
    by_cases hb : k < 0 ∨ 258 < k ∨ d < 1
    · have HPE := Lib.hid (copyE_arg he hb)
      clear he
      have key : k < 0 ∨ ((¬ k < 0 ∧ 258 < k) ∨ (¬ k < 0 ∧ ¬ 258 < k ∧ d < 1)) := by omega
      rcases key with hx | ⟨hx, hy⟩ | ⟨hx, hy, hz⟩
      all_goals (
        clear hb
        go_wp2
        refine bodyPost_ret (v := .tuple #[.agg #[.int .i64 0, .slice none 0 0], .slice none 0 0, .int .i64 2]) (by simp [results, Try.results8, go_sem, e1, e2]) rfl ⟨copyOut_no HPE.out (by decide) _ _, below_set2 HB1.out (Nat.le_succ _) _ _⟩)
    · by_cases hn : (n : Int) < d
      · have HPE := Lib.hid (copyE_dist he hb hn)
        have hx : ¬ k < 0 := by omega
        have hy : ¬ 258 < k := by omega
        have hz : ¬ d < 1 := by omega
        clear he hb
        go_wp2
        refine bodyPost_ret (v := .tuple #[.agg #[.int .i64 0, .slice none 0 0], .slice none 0 0, .int .i64 60]) (by simp [results, Try.results8, go_sem, e1, e2]) rfl ⟨copyOut_no HPE.out (by decide) _ _, below_set2 HB1.out (Nat.le_succ _) _ _⟩
      · have HPE := Lib.hid (copyE_ok he hb hn)
        have hx : ¬ k < 0 := by omega
        have hy : ¬ 258 < k := by omega
        have hz : ¬ d < 1 := by omega
        obtain ⟨s, rfl⟩ := Int.eq_ofNat_of_zero_le (show 0 ≤ S by omega)
        obtain ⟨q, rfl⟩ := Int.eq_ofNat_of_zero_le (show 0 ≤ k by omega)
        obtain ⟨D, rfl⟩ := Int.eq_ofNat_of_zero_le (show 0 ≤ d by omega)
        have hla := last_any w2 A n c f HR2.out D (by omega)
        have hD1 : 1 ≤ D := by omega
        have hDn : D ≤ n := by omega
        rw [show n - (n - D) = D by omega] at hla
        have HLA := Lib.hid hla
        clear he hb hla e1 e2
        go_wp2_with fail
        refine HLA.out.mono ?_
        rintro e w' ⟨A3, c3, rfl, rfl, h3⟩
        have hcp := copied_any w2 A3 D c3 _ h3 (by omega) (by omega) q (by omega)
        have hfe : (fun i => (fun j => f (j + (n - D))) (i % D)) = copF n f D := by
          funext i; show f (i % D + (n - D)) = f (n - D + i % D); rw [Nat.add_comm]
        rw [hfe] at hcp
        have HCP := Lib.hid hcp
        clear h3 hcp hfe HLA
        go_wp2_with fail
        refine HCP.out.mono ?_
        rintro e w3 ⟨A4, c4, rfl, h4, hb4, hge4⟩
        have hr3 := (HR2.out.below hb4 (Nat.le_refl _)).more hb4.size
        have hin := into_any w3 s (by omega) (by omega) A n c f hr3 (by omega) A4 q c4 (copF n f D) h4 (by omega) (inN s n q) rfl
        obtain ⟨l, hl⟩ : ∃ l, l = inN s n q := ⟨_, rfl⟩
        rw [← hl] at hin
        have b1 := (hb4.cell (p := ⟨w.heap.size, 0, none⟩) (show w.heap.size < w2.heap.size by omega)).trans a1
        have b2 := (hb4.cell (p := ⟨w.heap.size, 1, none⟩) (show w.heap.size < w2.heap.size by omega)).trans a2
        have b3 := (hb4.cell (p := ⟨w.heap.size + 1, 0, none⟩) hsz2).trans a3
        have b4 := (hb4.cell (p := ⟨w.heap.size + 1, 1, none⟩) hsz2).trans a4
        have b5 := (hb4.frozen (p := ⟨w.heap.size + 1, 0, none⟩) hsz2).trans a5
        have b6 := (hb4.frozen (p := ⟨w.heap.size + 1, 1, none⟩) hsz2).trans a6
        have hsz3 : w.heap.size + 1 < w3.heap.size := by have := hb4.size; omega
        have HIN := Lib.hid hin; have HL := Lib.hid hl; have H4 := Lib.hid h4; have HB4 := Lib.hid (HB1.out.trans (hb4.mono (by omega)))
        have HGE4 := Lib.hid (fun b hb => by have := hge4 b hb; show w.heap.size + 1 < b; omega : ∀ b, A4.map (·.block) = some b → w.heap.size + 1 < b)
        clear h4 hb4 hge4 hr3 hin hl a1 a2 a3 a4 a5 a6 HR2 HCP
        go_wp2_with fail
        refine HIN.out.mono ?_
        rintro e w4 ⟨A5, rfl, h5, hb5, hge⟩
        have d3 := (hb5.cell (p := ⟨w.heap.size + 1, 0, none⟩) hsz3).trans b3
        have d4 := (hb5.cell (p := ⟨w.heap.size + 1, 1, none⟩) hsz3).trans b4
        have d5 := (hb5.frozen (p := ⟨w.heap.size + 1, 0, none⟩) hsz3).trans b5
        have d6 := (hb5.frozen (p := ⟨w.heap.size + 1, 1, none⟩) hsz3).trans b6
        have HGE := Lib.hid hge; have H5 := Lib.hid h5; have HB5 := Lib.hid (HB4.out.trans (hb5.mono (by omega)))
        have HX4 := Lib.hid ((H4.out.below hb5 (Nat.le_refl _)).more hb5.size)
        clear hge h5 hb5 b1 b2 b3 b4 b5 b6
        obtain ⟨e1, e2⟩ := set2_cells (p := .int .i64 (s : Int)) (q := .slice A5 l l) d3 d4
        go_wp2
        refine bodyPost_ret (v := .tuple #[.agg #[.int .i64 (s : Int), .slice A5 l l], .slice A4 q c4, .int .i64 0]) (by simp [results, Try.results8, go_sem, e1, e2]) rfl ⟨?_, below_set2 HB5.out (Nat.le_succ _) _ _⟩
        refine ⟨(s : Int), A5, l, l, inF s n f q (copF n f D), A4, q, c4, copF n f D, by rw [HPE.out], (H5.out.set2 _ _ fun b hb => by have := HGE.out b hb; omega).more (by simp), (HX4.out.set2 _ _ fun b hb => by have := HGE4.out b hb; omega).more (by simp), (fun b hb => by have := HGE.out b hb; omega), (fun b hb => by have := HGE4.out b hb; omega), ?_⟩
        rw [HPE.out, if_pos rfl]
        exact ⟨rfl, HL.out, rfl, rfl, rfl⟩
  · have HPE := Lib.hid (copyE_bad (d := d) (k := k) he)
    rw [he]
    clear he
    go_wp2
    refine bodyPost_ret (v := .tuple #[.agg #[.int .i64 0, .slice none 0 0], .slice none 0 0, .int .i64 8]) (by simp [results, Try.results8, go_sem, e1, e2]) rfl ⟨copyOut_no HPE.out (by decide) _ _, below_set2 HB1.out (Nat.le_succ _) _ _⟩
end Go.Proofs.Ytmdnlmoadklefaa
