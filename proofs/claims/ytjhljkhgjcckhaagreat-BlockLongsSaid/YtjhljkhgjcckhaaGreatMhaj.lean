/-
  Words for every layer: an append, and where the row lies then; a byte more behind a row of the call's own.
-/
import Derived.Lib.SliceRun
import Derived.Great.BuildSlice
import Derived.Laws.Tables
import Derived.Test.YtjhljkhgjcckhaaGreatMhac
import Derived.Test.YtjhljkhgjcckhaaGreatMhad
import Derived.Test.YtjhljkhgjcckhaaGreatMhaf
import Derived.Test.YtjhljkhgjcckhaaGreatMhai
namespace Go.Proofs.YtjhljkhgjcckhaaGreat
open Go.RowKit Go.ChangeShapes Go.WideShapes Go.ChangeAt Go.Joins
/-- Is a token a copy? -/
def cpyT (t : Tok) : Bool := t.n != 0 || t.d != 0
set_option maxRecDepth 100000 in
set_option maxHeartbeats 1000000 in
theorem copies8_any (w : World) (t : Tok) : Calls Tryz.prog 57 #[.agg #[.int .u8 (t.x : Int), .int .i64 t.d, .int .i64 t.n]] w fun e w' => e = .returned (.bool (cpyT t)) ∧ Below w.heap.size w w' := by
  obtain ⟨x, d, n⟩ := t
  have HB := Lib.hid ((Below.refl w.heap.size w).alloc (Nat.le_refl _) (.cells #[.int .u8 (x : Int), .int .i64 d, .int .i64 n] 110))
  by_cases h0 : n = 0
  · subst h0
    have e : cpyT ⟨x, d, 0⟩ = (d != 0) := by simp [cpyT]
    rw [e]
    clear e
    go_enter Tryz.func57, Tryz.ntmps57
    go_wp2
    go_ret
    exact ⟨rfl, HB.out⟩
  · have e0 : (n != 0) = true := by simp [h0]
    have e : cpyT ⟨x, d, n⟩ = true := by simp [cpyT, h0]
    rw [e]
    clear e
    go_enter Tryz.func57, Tryz.ntmps57
    go_wp2
    go_ret
    exact ⟨rfl, HB.out⟩
set_option maxRecDepth 100000 in
set_option maxHeartbeats 2000000 in
theorem tok8_any (w : World) (t : Tok) (_ : TokIn t) : Calls Tryz.prog 39 #[.agg #[.int .u8 (t.x : Int), .int .i64 t.d, .int .i64 t.n]] w fun e w' => e = .returned (.int .i64 (tokE t)) ∧ Below w.heap.size w w' := by
  obtain ⟨x, d, n⟩ := t
  obtain ⟨W1, hW1⟩ : ∃ W1, W1 = w.alloc (.cells #[.int .u8 (x : Int), .int .i64 d, .int .i64 n] 72) := ⟨_, rfl⟩
  have HW1 := Lib.hid hW1
  have hb1 : Below w.heap.size w W1 := by rw [hW1]; exact (Below.refl _ _).alloc (Nat.le_refl _) _
  have hs1 : W1.heap.size = w.heap.size + 1 := by rw [hW1]; simp
  have hrow : W1.heap[w.heap.size]? = some (.cells #[.int .u8 (x : Int), .int .i64 d, .int .i64 n] 72 (0, 0)) := by rw [hW1]; exact heap_alloc_new w _
  have HB1 := Lib.hid hb1; have HS1 := Lib.hid hs1; have HROW := Lib.hid hrow
  have HM := Lib.hid (copies8_any W1 ⟨x, d, n⟩)
  clear hW1 hb1 hs1 hrow
  obtain ⟨E, hE⟩ : ∃ E, E = tokE ⟨x, d, n⟩ := ⟨_, rfl⟩
  rw [← hE]
  obtain ⟨b, hb⟩ : ∃ b, b = cpyT ⟨x, d, n⟩ := ⟨_, rfl⟩
  rw [← hb] at HM
  have HE := Lib.hid hE; have HBB := Lib.hid hb
  clear hE hb
  go_enter Tryz.func39, Tryz.ntmps39
  go_wp2_with fail
  rw [← HW1.out]
  refine HM.out.mono ?_
  rintro e w2 ⟨rfl, hb2⟩
  have HB2 := Lib.hid (HB1.out.trans (hb2.mono HB1.out.size))
  have hr2 : w2.heap[w.heap.size]? = some (.cells #[.int .u8 (x : Int), .int .i64 d, .int .i64 n] 72 (0, 0)) := (hb2.block _ (by have := HS1.out; omega)).trans HROW.out
  have x0 : w2.cell? ⟨w.heap.size, 0, none⟩ = some (.int .u8 (x : Int)) := (cell_of_row w2 _ 0 _ _ (0, 0) hr2).trans rfl
  have x1 : w2.cell? ⟨w.heap.size, 1, none⟩ = some (.int .i64 d) := (cell_of_row w2 _ 1 _ _ (0, 0) hr2).trans rfl
  have x2 : w2.cell? ⟨w.heap.size, 2, none⟩ = some (.int .i64 n) := (cell_of_row w2 _ 2 _ _ (0, 0) hr2).trans rfl
  clear hb2 hr2
  cases b with
  | false =>
    have hz : n = 0 ∧ d = 0 := by have h := HBB.out.symm; simp [cpyT] at h; exact h
    obtain rfl : E = 0 := by rw [HE.out]; unfold tokE; rw [if_pos]; simp [mayT, hz.1, hz.2]
    go_wp2
    go_ret
    exact ⟨rfl, HB2.out⟩
  | true =>
    have hz : ¬ (n = 0 ∧ d = 0) := by have h := HBB.out.symm; simp [cpyT] at h; omega
    have key : ∀ P : Prop, (mayT ⟨x, d, n⟩ = true ↔ P) → (¬ P → E = 8) ∧ (P → E = 0) := fun P hP => ⟨fun h => by rw [HE.out]; unfold tokE; rw [if_neg (fun g => h (hP.1 g))], fun h => by rw [HE.out]; unfold tokE; rw [if_pos (hP.2 h)]⟩
    have hk := key (¬ n < 3 ∧ ¬ 258 < n ∧ ¬ d < 1 ∧ ¬ 32768 < d ∧ x = 0) (by unfold mayT; simp only [decide_eq_true_eq]; omega)
    clear key
    by_cases y0 : n < 3
    · have d0 : decide (n < 3) = true := by simp; omega
      obtain rfl : E = 8 := hk.1 (by omega)
      clear hk
      go_wp2
      go_ret
      exact ⟨rfl, HB2.out⟩
    have d0 : decide (n < 3) = false := by simp; omega
    by_cases y1 : 258 < n
    · have d1 : decide (258 < n) = true := by simp; omega
      obtain rfl : E = 8 := hk.1 (by omega)
      clear hk
      go_wp2
      go_ret
      exact ⟨rfl, HB2.out⟩
    have d1 : decide (258 < n) = false := by simp; omega
    by_cases y2 : d < 1
    · have d2 : decide (d < 1) = true := by simp; omega
      obtain rfl : E = 8 := hk.1 (by omega)
      clear hk
      go_wp2
      go_ret
      exact ⟨rfl, HB2.out⟩
    have d2 : decide (d < 1) = false := by simp; omega
    by_cases y3 : 32768 < d
    · have d3 : decide (32768 < d) = true := by simp; omega
      obtain rfl : E = 8 := hk.1 (by omega)
      clear hk
      go_wp2
      go_ret
      exact ⟨rfl, HB2.out⟩
    have d3 : decide (32768 < d) = false := by simp; omega
    by_cases y4 : x = 0
    · subst y4
      have d4 : (((0 : Nat) : Int) != 0) = false := by decide
      obtain rfl : E = 0 := hk.2 (by omega)
      clear hk
      go_wp2
      go_ret
      exact ⟨rfl, HB2.out⟩
    · have d4 : ((x : Int) != 0) = true := by simp; omega
      obtain rfl : E = 8 := hk.1 (by omega)
      clear hk
      go_wp2
      go_ret
      exact ⟨rfl, HB2.out⟩
set_option maxRecDepth 100000 in
set_option maxHeartbeats 1000000 in
theorem clone8_any (w : World) (A : Option Addr) (n c : Nat) (f : Nat → Nat) (hr : ByR w w.heap.size A n c f) (hn : n ≤ 2000000) :
    Calls Tryz.prog 40 #[.slice A n c] w fun e w' => ∃ A' c', e = .returned (.slice A' n c') ∧ w'.ownsRow w.heap.size 5 1 (.slice A' n c') n (bytesL n f) ∧ Below w.heap.size w w' := by
  rcases A with _ | ad
  · obtain rfl := hr.2.1 rfl
    have h0 : n = 0 := by have := hr.2.2.1; omega
    subst h0
    clear hr
    have q22 : ∀ (w : World) (a : Option Addr) (n c n' c' : Nat), (binOp .eql 22 (.slice a n c) (.slice none n' c')).run Tryz.prog w = .ok (.bool a.isNone) w := fun w a n c n' c' => Lib.run_eql_slice_nil w _ _ a n c n' c' Tryz.underlying22
    go_enter Tryz.func40, Tryz.ntmps40
    go_wp2
    go_ret
    exact ⟨none, 0, rfl, World.ownsRow_nil _ _ _ _, Below.refl _ _⟩
  · have q22 : ∀ (w : World) (a : Option Addr) (n c n' c' : Nat), (binOp .eql 22 (.slice a n c) (.slice none n' c')).run Tryz.prog w = .ok (.bool a.isNone) w := fun w a n c n' c' => Lib.run_eql_slice_nil w _ _ a n c n' c' Tryz.underlying22
    have hb1 : Below w.heap.size w (w.alloc (.cells #[] 5)) := (Below.refl _ _).alloc (Nat.le_refl _) _
    have hown : (w.alloc (.cells #[] 5)).ownsRow w.heap.size 5 1 (.slice (some ⟨w.heap.size, 0, none⟩) 0 0) 0 (bytesL 0 f) := World.ownsRow_made w #[] 0 (Nat.le_refl _) (Nat.zero_le _) rfl
    obtain ⟨A', c', w', h1, h2, h3⟩ := run_more _ w.heap.size (w.alloc (.cells #[] 5)).heap.size _ 0 f hown (some ad) n c f ((hr.1.below hb1 (Nat.le_refl _)).more hb1.size) (by omega) 22 (fun h => by cases h) hb1.size
    rw [Nat.zero_add] at h1 h2
    have e : cat f 0 f = f := by funext j; unfold cat; rw [if_neg (by omega)]; rfl
    rw [e] at h2
    have HRUN := Lib.hid h1; have HOWN := Lib.hid h2; have HB := Lib.hid (hb1.trans h3)
    clear h1 h2 h3 hown hb1 hr e
    go_enter Tryz.func40, Tryz.ntmps40
    go_wp2_with (at_builtin; refine wpList_append_run rfl (.tmp 5) (.tmp 6) 22 rfl (.slice (some ⟨w.heap.size, 0, none⟩) 0 0) (.slice (some ad) n c) (.slice A' n c') w' rfl rfl HRUN.out ?_)
    go_ret
    exact ⟨A', c', rfl, HOWN.out, HB.out⟩
theorem own_type {w : World} {base sz n h : Nat} {e t : TypeId} {v : Value} {xs : List Value} {cs : Array Value} (ho : w.ownsRow base e sz v n xs) (hh : w.heap[h]? = some (.cells cs t (0, 0))) (hne : (e == t) = false) : v.ownBlock ≠ some h := fun hk => by
  rcases ho.2 with ⟨rfl, _⟩ | ⟨g, cap, cur, rfl, _, hg, _⟩
  · simp [Value.ownBlock] at hk
  · simp [Value.ownBlock] at hk
    subst hk
    rw [hg] at hh
    injection hh with hh
    injection hh with _ h2 _
    rw [h2] at hne; simp at hne
theorem below_row8 {B : Nat} {a w : World} (h : Below B a w) {g : Nat} (hp : B ≤ g) (cs : Array Value) : Below B a (w.setRow g cs) :=
  ⟨h.os, h.tape, h.output, by rw [size_setRow]; exact h.size, fun k hk => (setRow_other w g k cs (by omega)).trans (h.block k hk)⟩
theorem tokA_one (t : Tok) : (tokC t).toArray.all (·.oneCell') = true := by simp [tokC, Value.oneCell']
theorem szTokA (t : Tok) : (Tryz.prog.info? 72).map (·.size) = some (tokC t).toArray.size := szTok
end Go.Proofs.YtjhljkhgjcckhaaGreat

namespace Go.Proofs.YtjhljkhgjcckhaaGreat
open Go.RowKit
set_option maxRecDepth 100000 in
/-- The same, and where the row lies then. -/
theorem run_app_s {T E : TypeId} {z : Value} {sz by_ : Nat} (hT : Tryz.prog.underlying T = some (.slice E)) (hI : (Tryz.prog.info? E).map (fun i => (i.zero, i.size, i.bytes)) = some (some z, sz, by_)) (hz : z.cells.size = sz) (hsz : 0 < sz)
    (w : World) (base B : Nat) (v0 : Value) (n : Nat) (xs : List Value) (hown : w.ownsRow base E sz v0 n xs) (A : Option Addr) (m c : Nat) (ys : List Value) (hr : SrcL w B sz A m ys) (h1 : ∀ u ∈ ys, u.oneCell' = true)
    (hnm : n + m ≤ maxLen) (hby : (n + m) * by_ ≤ 140737488355328) (ty : TypeId) (hA : A = none → c = 0) (hbase : base ≤ w.heap.size) :
    ∃ A' c' w', (Builtin.append_ #[T, T] ty #[v0, .slice A m c]).run Tryz.prog w = .ok (.slice A' (n + m) c') w' ∧ w'.ownsRow base E sz (.slice A' (n + m) c') (n + m) (xs ++ ys) ∧ w.grownBy w' v0.ownBlock ∧ ((Value.slice A' (n + m) c').ownBlock = v0.ownBlock ∨ (Value.slice A' (n + m) c').ownBlock = some w.heap.size) := by
  obtain ⟨i0, hi, hz0, hz1, hz2⟩ := info_parts hI
  have key : ∃ v' w', (Builtin.append_ #[T, T] ty #[v0, .slice A m c]).run Tryz.prog w = .ok v' w' ∧ w'.ownsRow base E sz v' (n + m) (xs ++ ys) ∧ w.grownBy w' v0.ownBlock ∧ (v'.ownBlock = v0.ownBlock ∨ v'.ownBlock = some w.heap.size) := by
    rcases A with _ | ad
    · have h0 : m = 0 := by
        rcases Nat.eq_zero_or_pos m with h | h
        · exact h
        · obtain ⟨b, o, h, _⟩ := hr.2 h; cases h
      subst h0
      obtain rfl := hA rfl
      have hy : ys = [] := List.length_eq_zero_iff.1 (by have := hr.1; omega)
      subst hy
      refine ⟨v0, w, run_append_owned_none (P := Tryz.prog) (w := w) base T ty E i0 sz hT hi v0 n _ hown, ?_, World.grownBy.refl _ _, .inl rfl⟩
      simpa using hown
    · have hcells : ∀ j u, ys[j]? = some u → w.cell? (ad.add j) = some u := by
        intro j u hu
        have hm : 0 < m := by
          rcases Nat.eq_zero_or_pos m with h | h
          · have hy : ys = [] := List.length_eq_zero_iff.1 (by have := hr.1; rw [h] at this; omega)
            rw [hy] at hu; cases hu
          · exact h
        obtain ⟨b, o, h, _, hc⟩ := hr.2 hm
        injection h with h
        subst h
        have e : (⟨b, o, none⟩ : Addr).add j = ⟨b, o + j, none⟩ := by unfold Addr.add; split <;> simp_all
        rw [e]; exact hc j u hu
      obtain ⟨v', w', h1, h2, h3, _, h5⟩ := run_append_own_at (P := Tryz.prog) w base T ty E i0 z sz by_ hT hi hz0 hz1 hz2 hz hsz v0 n xs hown ad m c ys hr.1 hcells h1 hnm hby hbase
      exact ⟨v', w', h1, h2, h3, h5⟩
  obtain ⟨v', w', h1, h2, h3, h5⟩ := key
  have hv : ∃ A' c', v' = .slice A' (n + m) c' := by
    rcases h2.2 with ⟨rfl, h⟩ | ⟨g, cap, cur, rfl, _⟩
    · exact ⟨none, 0, by rw [h]⟩
    · exact ⟨_, _, rfl⟩
  obtain ⟨A', c', rfl⟩ := hv
  exact ⟨A', c', w', h1, h2, h3, h5⟩
theorem run_oneB_s (w : World) (base : Nat) (A : Option Addr) (n c : Nat) (F : Nat → Nat) (hown : w.ownsRow base 5 1 (.slice A n c) n (bytesL n F)) (x : Nat) (hx : x = F n) (hn : n ≤ 1000000000) (hbase : base ≤ w.heap.size) :
    ∃ A' c' w', (Builtin.append_ #[22, 22] 22 #[.slice A n c, .slice (some ⟨w.heap.size, 0, none⟩) 1 1]).run Tryz.prog (w.alloc (.cells #[.int .u8 (x : Int)] 5)) = .ok (.slice A' (n + 1) c') w' ∧
      w'.ownsRow base 5 1 (.slice A' (n + 1) c') (n + 1) (bytesL (n + 1) F) ∧ Below base w w' ∧ (∀ k, k < w.heap.size → (Value.slice A n c).ownBlock ≠ some k → w'.heap[k]? = w.heap[k]?) ∧ (∀ j, (Value.slice A' (n + 1) c').ownBlock = some j → (Value.slice A n c).ownBlock = some j ∨ w.heap.size ≤ j) := by
  subst hx
  have hb1 : Below base w (w.alloc (.cells #[.int .u8 (F n : Int)] 5)) := (Below.refl base w).alloc hbase _
  have ho1 := hown.alloc (.cells #[.int .u8 (F n : Int)] 5)
  obtain ⟨A', c', w', h2, o2, b2, h5⟩ := run_app_s (z := .int .u8 0) (by_ := 1) Tryz.underlying22 infoU8 rfl (by decide) (w.alloc (.cells #[.int .u8 (F n : Int)] 5)) base _ (.slice A n c) n _ ho1 _ 1 1 _
    (SrcL.new w 1 1 #[.int .u8 (F n : Int)] 5 rfl) (fun u hu => by simp at hu; subst hu; rfl) (by unfold maxLen; omega) (by omega) 22 (fun h => by cases h) (Nat.le_trans hbase hb1.size)
  refine ⟨A', c', w', h2, ?_, hb1.trans ((Below.refl base _).grown b2 (Nat.le_trans hbase hb1.size) (own_geS ho1)), fun k hk hne => ?_, fun j hj => ?_⟩
  · have e : bytesL n F ++ (#[Value.int .u8 (F n : Int)] : Array Value).toList = bytesL (n + 1) F := by
      unfold bytesL; rw [List.range_succ, List.map_append]; rfl
    rw [e] at o2
    exact o2
  · refine (b2.block k (by simp; omega) (fun e => hne e.symm)).trans ?_
    exact (Below.refl w.heap.size w).alloc (Nat.le_refl _) (.cells #[.int .u8 (F n : Int)] 5) |>.block k hk
  · rcases h5 with h5 | h5
    · exact .inl (h5 ▸ hj)
    · rw [h5] at hj
      injection hj with hj
      simp at hj
      exact .inr (by omega)
set_option maxRecDepth 100000 in
/-- The bytes of another row behind a row of the call's own. -/
theorem run_catB_s (w : World) (base : Nat) (A : Option Addr) (n c : Nat) (F : Nat → Nat) (hown : w.ownsRow base 5 1 (.slice A n c) n (bytesL n F)) (A2 : Option Addr) (m c2 : Nat) (r G : Nat → Nat) (hr : ByR w w.heap.size A2 m c2 r) (hG : ∀ j, j < n → G j = F j) (hG2 : ∀ j, j < m → G (n + j) = r j) (hn : n + m ≤ 1000000000) (hbase : base ≤ w.heap.size) :
    ∃ A' c' w', (Builtin.append_ #[22, 22] 22 #[.slice A n c, .slice A2 m c2]).run Tryz.prog w = .ok (.slice A' (n + m) c') w' ∧
      w'.ownsRow base 5 1 (.slice A' (n + m) c') (n + m) (bytesL (n + m) G) ∧ Below base w w' ∧ (∀ k, k < w.heap.size → (Value.slice A n c).ownBlock ≠ some k → w'.heap[k]? = w.heap[k]?) ∧ (∀ j, (Value.slice A' (n + m) c').ownBlock = some j → (Value.slice A n c).ownBlock = some j ∨ w.heap.size ≤ j) := by
  have hsrc : SrcL w w.heap.size 1 A2 m (bytesL m r) := by
    refine ⟨by simp [bytesL], fun h0 => ?_⟩
    obtain ⟨b, o, h1, h2, h3⟩ := hr.1.2 h0
    refine ⟨b, o, h1, h2, fun j u hu => ?_⟩
    have hj : j < m := by
      rcases Nat.lt_or_ge j m with g | g
      · exact g
      · rw [List.getElem?_eq_none (by simpa [bytesL] using g)] at hu; cases hu
    rw [h3 j hj, ← hu]
    simp [bytesL, hj]
  obtain ⟨A', c', w', h2, o2, b2, h5⟩ := run_app_s (z := .int .u8 0) (by_ := 1) Tryz.underlying22 infoU8 rfl (by decide) w base _ (.slice A n c) n _ hown A2 m c2 _
    hsrc (fun u hu => by simp [bytesL] at hu; obtain ⟨_, _, rfl⟩ := hu; rfl) (by unfold maxLen; omega) (by omega) 22 hr.2.1 hbase
  refine ⟨A', c', w', h2, ?_, (Below.refl base _).grown b2 hbase (own_geS hown), fun k hk hne => b2.block k hk (fun e => hne e.symm), fun j hj => ?_⟩
  · have e : bytesL n F ++ bytesL m r = bytesL (n + m) G := by
      unfold bytesL
      rw [List.range_add, List.map_append, List.map_map]
      congr 1
      · refine List.map_congr_left fun j hj => ?_
        rw [hG j (List.mem_range.1 hj)]
      · refine List.map_congr_left fun j hj => ?_
        simp only [Function.comp]
        rw [hG2 j (List.mem_range.1 hj)]
    rw [e] at o2
    exact o2
  · rcases h5 with h5 | h5
    · exact .inl (h5 ▸ hj)
    · rw [h5] at hj
      injection hj with hj
      exact .inr (by omega)
end Go.Proofs.YtjhljkhgjcckhaaGreat

