/-
  Layer 8 (token): what the program's Cut answers, for every bytes, place and style.
-/
import Derived.Test.YtihfcjehpmiolaaTokIm2
import Derived.Test.YtihfcjehpmiolaaTokIm4
namespace Go.Proofs.Ytihfcjehpmiolaa
open Go.RowKit Go.ChangeShapes Go.WideShapes Go.ChangeAt Go.Joins
attribute [local go_sem] Oper.semAt_some
attribute [local simp] wide_fn
/-- One more token behind a row of the call's own; what is no row of it stays. -/
theorem run_oneT_g (w : World) (base : Nat) (A : Option Addr) (n c : Nat) (l : List Tok) (hown : w.ownsRow base 27 3 (.slice A n c) n (toksL l)) (t : Tok) (hn : n ≤ 1000000) (hbase : base ≤ w.heap.size) :
    ∃ A' c' w', (Builtin.append_ #[28, 28] 28 #[.slice A n c, .slice (some ⟨w.heap.size, 0, none⟩) 1 1]).run Try.prog (w.alloc (.cells #[.int .u8 (t.x : Int), .int .i64 t.d, .int .i64 t.n] 27)) = .ok (.slice A' (n + 1) c') w' ∧
      w'.ownsRow base 27 3 (.slice A' (n + 1) c') (n + 1) (toksL (l ++ [t])) ∧ Below base w w' ∧ KeepsOthers w w' ∧ (∀ k, k < w.heap.size → (Value.slice A n c).ownBlock ≠ some k → w'.heap[k]? = w.heap[k]?) := by
  have hb1 : Below base w (w.alloc (.cells #[.int .u8 (t.x : Int), .int .i64 t.d, .int .i64 t.n] 27)) := (Below.refl base w).alloc hbase _
  have ho1 := hown.alloc (.cells #[.int .u8 (t.x : Int), .int .i64 t.d, .int .i64 t.n] 27)
  obtain ⟨A', c', w', h2, o2, b2⟩ := run_app_g (by_ := 24) Try.underlying28 infoTok rfl (by decide) (w.alloc (.cells #[.int .u8 (t.x : Int), .int .i64 t.d, .int .i64 t.n] 27)) base _ (.slice A n c) n _ ho1 _ 1 1 _
    (SrcL.new w 3 1 #[.int .u8 (t.x : Int), .int .i64 t.d, .int .i64 t.n] 27 rfl) (fun u hu => by simp at hu; rcases hu with rfl | rfl | rfl <;> rfl) (by unfold maxLen; omega) (by omega) 28 (fun h => by cases h) (Nat.le_trans hbase hb1.size)
  refine ⟨A', c', w', h2, ?_, hb1.trans ((Below.refl base _).grown b2 (Nat.le_trans hbase hb1.size) (own_geS ho1)), (KeepsOthers.alloc w _).trans (KeepsOthers.of_grownBy b2 (own_cells ho1)), fun k hk hne => ?_⟩
  · rw [toksL_app]; exact o2
  · refine (b2.block k (by simp; omega) (fun e => hne e.symm)).trans ?_
    exact (Below.refl w.heap.size w).alloc (Nat.le_refl _) (.cells #[.int .u8 (t.x : Int), .int .i64 t.d, .int .i64 t.n] 27) |>.block k hk
/-- What stays in a round: all that was there, and the iterator's own three variables. -/
def SCut (B b k : Nat) : Prop := k < B ∨ (b + 1 ≤ k ∧ k < b + 4)
/-- Between two rounds. -/
def CutI (w u : World) (b : Nat) (T : List Tok) (j : Nat) (W : World) : Prop :=
  Below w.heap.size w W ∧ KpB (SCut w.heap.size b) u W ∧ u.heap.size ≤ W.heap.size ∧
  ∃ (A : Option Addr) (c : Nat), Boxed W b 28 (.slice A j c) ∧ W.ownsRow (b + 4) 27 3 (.slice A j c) j (toksL (T.take j))
theorem CutI.own (w u : World) (b : Nat) (T : List Tok) (hb : w.heap.size ≤ b) (hu : u.heap.size = b + 4) : OwnFrom u.heap.size (CutI w u b T) := by
  rintro j W W' row ⟨h1, h2, h3, A, c, h5, h6⟩ hgr hr
  have hk : ∀ k, k < u.heap.size → W'.heap[k]? = W.heap[k]? := fun k hk => hgr.block k (by omega) (fun e => by have := (hr k e.symm).1; omega)
  refine ⟨h1.grown hgr ?_ (fun r e => ?_), fun k hS => (hk k ?_).trans (h2 k hS), Nat.le_trans h3 hgr.size, A, c, (hk _ (by omega)).trans h5, own_grown h6 hgr (fun r e => (hr r e).2)⟩
  · omega
  · have := (hr r e).1; omega
  · rcases hS with hS | hS <;> omega
/-- The frame of a round. -/
def cutF (A : Option Addr) (n c a z ch : Nat) (m : Int) (lz : Bool) (g b x : Nat) (t : Tok) : Act :=
  { tmps := #[.slice A n c, .int .i64 (a : Int), .agg #[.int .i64 (z : Int), .int .i64 (ch : Int), .int .i64 m, .bool lz], undef, undef, .pointer (some ⟨g, 0, none⟩), .slice none 0 0, .int .i64 0, .int .i64 0, .pointer (some ⟨b, 0, none⟩), .pointer (some ⟨x, 0, none⟩),
    .agg #[.int .i64 (z : Int), .int .i64 (ch : Int), .int .i64 m, .bool lz], .int .i64 0, .int .i64 0, .bool false, undef, .slice A n c, .int .i64 (n : Int), .bool false, .int .i64 (a : Int), .bool false, .bool false, .int .i64 (a : Int), .slice A n c, .int .i64 (n : Int), .bool false, .bool false, .slice A n c, .int .i64 (a : Int),
    .agg #[.int .i64 (z : Int), .int .i64 (ch : Int), .int .i64 m, .bool lz], .func (.func 29) #[] #[.pointer (some ⟨b + 2, 0, none⟩), .pointer (some ⟨b + 1, 0, none⟩), .pointer (some ⟨b + 3, 0, none⟩)], .agg #[.int .u8 (t.x : Int), .int .i64 t.d, .int .i64 t.n], undef, undef, undef, undef, undef], defers := [] }
/-- Within a round: its variable lies there. -/
def CutB (w u : World) (b : Nat) (V : List Tok) (fr : Nat → Tok → Act) (j : Nat) (a₁ : Act) (W : World) : Prop :=
  ∃ x : Nat, a₁ = fr x (V.getD j tok0) ∧ u.heap.size ≤ x ∧ W.heap[x]? = some (.cells #[.int .u8 ((V.getD j tok0).x : Int), .int .i64 (V.getD j tok0).d, .int .i64 (V.getD j tok0).n] 49 (0, 0)) ∧ CutI w u b V j W
theorem grown_cells {W W' : World} {row : Option Nat} {x : Nat} {cs : Array Value} {t : TypeId} {fr : Nat × Nat} (h : W.heap[x]? = some (.cells cs t fr)) (hg : W.grownBy W' row) (hr : ∀ r, row = some r → ∃ o : Obj, W.heap[r]? = some o ∧ o.isCells = false) : W'.heap[x]? = some (.cells cs t fr) := by
  refine (hg.block x (Array.getElem?_eq_some_iff.1 h).1 fun he => ?_).trans h
  obtain ⟨o, ho, hc⟩ := hr x he.symm
  rw [ho] at h
  cases h; cases hc
theorem CutB.own (w u : World) (b : Nat) (V : List Tok) (fr : Nat → Tok → Act) (hb : w.heap.size ≤ b) (hu : u.heap.size = b + 4) (a₁ : Act) : OwnFrom u.heap.size (fun j => CutB w u b V fr j a₁) := by
  rintro j W W' row ⟨x, h1, h2, h3, h4⟩ hgr hr
  exact ⟨x, h1, h2, grown_cells h3 hgr (fun r e => (hr r e).2), CutI.own w u b V hb hu j W W' row h4 hgr hr⟩
theorem kpt_put {S : Nat → Prop} {N : Nat} (hS : ∀ k, S k → k < N) (W : World) (l : Nat) (o o' : Obj) (hl : N ≤ l) (h : W.heap[l]? = some o) (hc : o.isCells = false) : KpT S W (W.putObj l o') := by
  refine ⟨fun k hk => World.putObj_heap_other (by have := hS k hk; omega), fun k cs hk => ?_, by simp [World.putObj]⟩
  refine (World.putObj_heap_other (fun e => ?_)).trans hk
  subst e
  rw [h] at hk
  cases hk; cases hc
set_option maxRecDepth 100000 in
set_option maxHeartbeats 4000000 in
theorem cut8_any (w : World) (A : Option Addr) (n c : Nat) (f : Nat → Nat) (a s h m : Int) (lz : Bool) (hr : ByR w w.heap.size A n c f) (_ : -9223372036854775808 ≤ a) (_ : a ≤ 9223372036854775807) :
    Calls Try.prog 10 #[.slice A n c, .int .i64 a, .agg #[.int .i64 s, .int .i64 h, .int .i64 m, .bool lz]] w fun e w' => ∃ A' n' c', e = .returned (.tuple #[.slice A' n' c', .int .i64 (cutE n a s h m)]) ∧ TkR w' w'.heap.size A' n' c' (cutV f n a s h m lz) ∧ Below w.heap.size w w' := by
  obtain ⟨E, hE⟩ : ∃ E, E = cutE n a s h m := ⟨_, rfl⟩
  obtain ⟨V, hV⟩ : ∃ V, V = cutV f n a s h m lz := ⟨_, rfl⟩
  rw [← hE, ← hV]
  unfold cutV at hV
  rw [← hE] at hV
  obtain ⟨W1, hW1⟩ : ∃ W1, W1 = w.alloc (.cells #[.int .i64 s, .int .i64 h, .int .i64 m, .bool lz] 32) := ⟨_, rfl⟩
  have hb1 : Below w.heap.size w W1 := by rw [hW1]; exact (Below.refl _ _).alloc (Nat.le_refl _) _
  have hs1 : W1.heap.size = w.heap.size + 1 := by rw [hW1]; simp
  have hbx : W1.heap[w.heap.size]? = some (.cells #[.int .i64 s, .int .i64 h, .int .i64 m, .bool lz] 32 (0, 0)) := by rw [hW1]; exact heap_alloc_new w _
  obtain ⟨g, hg⟩ : ∃ g, g = w.heap.size := ⟨_, rfl⟩
  rw [← hg] at hbx hs1
  have hst := sty8_any W1 s h m lz
  obtain ⟨e1, he1⟩ : ∃ e1, e1 = styE s h m := ⟨_, rfl⟩
  rw [← he1] at hst
  have HR := Lib.hid hr; have HE := Lib.hid hE; have HV := Lib.hid hV; have HB1 := Lib.hid hb1; have HS1 := Lib.hid hs1; have HBX := Lib.hid hbx; have HG := Lib.hid hg; have HST := Lib.hid hst; have HE1 := Lib.hid he1; have HW1 := Lib.hid hW1
  clear hr hE hV hb1 hs1 hbx hg hst he1 hW1
  by_cases hE0 : E = 0
  · have hin : mayS s h m = true ∧ n ≤ 131072 ∧ 0 ≤ a ∧ a ≤ (n : Int) := by
      have := HE.out
      rw [hE0] at this
      unfold cutE at this
      by_cases q1 : mayS s h m = true
      · rw [if_neg (by rw [q1]; decide)] at this
        by_cases q2 : 131072 < n
        · rw [if_pos q2] at this; omega
        · rw [if_neg q2] at this
          by_cases q3 : 0 ≤ a ∧ a ≤ (n : Int)
          · exact ⟨q1, by omega, q3.1, q3.2⟩
          · rw [if_neg q3] at this; omega
      · rw [if_pos (by simpa using q1)] at this; omega
    subst hE0
    obtain ⟨hms, hn, ha0, han⟩ := hin
    obtain ⟨m1, m2, m3, m4, m5, m6⟩ := mayS_is hms
    obtain rfl : e1 = 0 := by rw [HE1.out]; unfold styE; rw [if_pos hms]
    obtain ⟨a, rfl⟩ := Int.eq_ofNat_of_zero_le ha0
    obtain ⟨z, rfl⟩ := Int.eq_ofNat_of_zero_le (show 0 ≤ s by omega)
    obtain ⟨ch, rfl⟩ := Int.eq_ofNat_of_zero_le (show 0 ≤ h by omega)
    have hV2 : V = cutA f n z ch lz a := by rw [HV.out, if_pos rfl, Int.toNat_natCast, Int.toNat_natCast, Int.toNat_natCast]
    have HV2 := Lib.hid hV2
    clear hV2 HE HV HE1 hms
    have d1 : decide (131072 < (n : Int)) = false := by simp; omega
    have d2 : decide ((a : Int) < 0) = false := by simp
    have d3 : decide ((n : Int) < (a : Int)) = false := by simp; omega
    have d4 : decide (n < a) = false := by simp; omega
    refine (callsIn_wide (n := 5)).1 ?_
    refine callsIn_of_wp_marks Try.func10 rfl trivial ?_ rfl
    simp only [Try.ntmps10, List.size_toArray, List.length_cons, List.length_nil, Nat.reduceAdd, Nat.reduceSub, Array.replicate_succ, Array.replicate_zero, List.push_toArray, List.append_toArray, List.nil_append, List.cons_append]
    gi_wp2_with fail
    rw [← HW1.out, ← HG.out]
    refine (callsIn_wide.2 HST.out).mono ?_
    rintro e w2 ⟨rfl, hb2⟩
    have hr2 := (hb2.block g (by have := HS1.out; omega)).trans HBX.out
    have HB2 := Lib.hid (HB1.out.trans (hb2.mono HB1.out.size)); have HR2 := Lib.hid hr2
    obtain ⟨b, hb⟩ : ∃ b, b = w2.heap.size := ⟨_, rfl⟩
    have hgb : g < b := by have := hb2.size; have := HS1.out; omega
    have hr3 : (w2.alloc (.cells #[.slice none 0 0] 28)).heap[g]? = some (.cells #[.int .i64 (z : Int), .int .i64 (ch : Int), .int .i64 m, .bool lz] 32 (0, 0)) := (Below.heap_alloc _ _ _ (by omega)).trans hr2
    have HR3 := Lib.hid hr3
    clear hb2 hr2 hr3
    gi_wp2_with (first
      | (refine wpListIn_load_row rfl _ _ rfl g rfl _ #[.int .i64 (z : Int), .int .i64 (ch : Int), .int .i64 m, .bool lz] (0, 0) _ HR3.out Try.underlying32 rfl szStyle ?_)
      | (gi_at_call 23; refine (tokens_in _ _ _ _ _ _ _ _ _ _).mono ?_; rintro e w' ⟨rfl, rfl⟩))
    obtain ⟨u, hu⟩ : ∃ u, u = (((w2.alloc (.cells #[.slice none 0 0] 28)).alloc (.cells #[.slice A n c] 22)).alloc (.cells #[.int .i64 (a : Int)] 3)).alloc (.cells #[.int .i64 (z : Int), .int .i64 (ch : Int), .int .i64 m, .bool lz] 32) := ⟨_, rfl⟩
    have hus : u.heap.size = b + 4 := by rw [hu, hb]; simp
    have hwu : Below b w2 u := by
      rw [hu, hb]; exact ((((Below.refl w2.heap.size w2).alloc (Nat.le_refl _) _).alloc (by simp) _).alloc (by simp; omega) _).alloc (by simp; omega) _
    have hub : Below w.heap.size w u := HB2.out.trans (hwu.mono (by have := HG.out; omega))
    have bx0 : Boxed u b 28 (.slice none 0 0) := by
      rw [hu, hb]; exact (((Boxed.new w2 _ _).alloc _).alloc _).alloc _
    have bx1 : Boxed u (b + 1) 22 (.slice A n c) := by
      have := ((Boxed.new (w2.alloc (.cells #[.slice none 0 0] 28)) 22 (.slice A n c)).alloc (.cells #[.int .i64 (a : Int)] 3)).alloc (.cells #[.int .i64 (z : Int), .int .i64 (ch : Int), .int .i64 m, .bool lz] 32)
      rw [World.size_alloc, ← hb] at this
      rw [hu]; exact this
    have bx2 : Boxed u (b + 2) 3 (.int .i64 (a : Int)) := by
      have := (Boxed.new ((w2.alloc (.cells #[.slice none 0 0] 28)).alloc (.cells #[.slice A n c] 22)) 3 (.int .i64 (a : Int))).alloc (.cells #[.int .i64 (z : Int), .int .i64 (ch : Int), .int .i64 m, .bool lz] 32)
      rw [World.size_alloc, World.size_alloc, ← hb] at this
      rw [hu]; exact this
    have bx3 : u.heap[b + 3]? = some (.cells #[.int .i64 (z : Int), .int .i64 (ch : Int), .int .i64 m, .bool lz] 32 (0, 0)) := by
      have := heap_alloc_new (((w2.alloc (.cells #[.slice none 0 0] 28)).alloc (.cells #[.slice A n c] 22)).alloc (.cells #[.int .i64 (a : Int)] 3)) (.cells #[.int .i64 (z : Int), .int .i64 (ch : Int), .int .i64 m, .bool lz] 32)
      rw [World.size_alloc, World.size_alloc, World.size_alloc, ← hb] at this
      rw [hu]; exact this
    have HU := Lib.hid hu; have HB := Lib.hid hb; have HUS := Lib.hid hus; have HUB := Lib.hid hub; have BX0 := Lib.hid bx0; have BX1 := Lib.hid bx1; have BX2 := Lib.hid bx2; have BX3 := Lib.hid bx3
    clear hu hus hwu hub bx0 bx1 bx2 bx3 HR3 HR2 hb
    rw [← HU.out]
    simp only [Nat.add_assoc, Nat.reduceAdd]
    rw [← HB.out]
    refine wpIn_range_made (L := V.length) rfl (by omega) (gf := 29) (lb := #[.pointer (some ⟨b + 2, 0, none⟩), .pointer (some ⟨b + 1, 0, none⟩), .pointer (some ⟨b + 3, 0, none⟩)]) rfl trivial (enters_of Try.func29 (by kernel_rfl) rfl)
      (toks1_made _ (by omega) (b + 1) (b + 2) (b + 3) w.heap.size (b + 4) A n c a z ch m lz f (SCut w.heap.size b) ⟨.inr (by omega), .inr (by omega), .inr (by omega)⟩ (fun k hk => .inl hk) (fun k hk => by rcases hk with hk | hk <;> have := HG.out <;> omega) (by omega) hn (by omega) (by omega) (by omega) V HV2.out u (by rw [HUS.out]; exact Nat.le_refl _) BX1.out.cell BX2.out.cell BX3.out (HR.out.below HUB.out (Nat.le_refl _)) HUB.out.size)
      (fun h k => h.tr k) ?keep (fun _ => rfl)
      (CutI w u b V) (CutI.own w u b V (by have := HG.out; omega) HUS.out) ?start
      (CutB w u b V (cutF A n c a z ch m lz g b)) (fun a₁ => CutB.own w u b V _ (by have := HG.out; omega) HUS.out a₁) ?assign ?body ?done
    case keep =>
      intro W l o o' hl ho hc _
      exact kpt_put (N := u.heap.size) (fun k hk => by rw [HUS.out]; rcases hk with hk | hk <;> have := HG.out <;> omega) W l o o' hl ho hc
    case start => exact ⟨HUB.out, KpB.refl _ _, Nat.le_refl _, none, 0, BX0.out, World.ownsRow_nil _ _ _ _⟩
    case assign =>
      intro l j W K hI hj hK
      have hb : Below W.heap.size W (W.alloc (.cells #[.int .u8 ((V.getD j tok0).x : Int), .int .i64 (V.getD j tok0).d, .int .i64 (V.getD j tok0).n] 49)) := (Below.refl _ _).alloc (Nat.le_refl _) _
      have hn : (W.alloc (.cells #[.int .u8 ((V.getD j tok0).x : Int), .int .i64 (V.getD j tok0).d, .int .i64 (V.getD j tok0).n] 49)).heap[W.heap.size]? = some (.cells #[.int .u8 ((V.getD j tok0).x : Int), .int .i64 (V.getD j tok0).d, .int .i64 (V.getD j tok0).n] 49 (0, 0)) := heap_alloc_new W _
      have hown := (CutI.own w u b V (by have := HG.out; omega) HUS.out).alloc (.cells #[.int .u8 ((V.getD j tok0).x : Int), .int .i64 (V.getD j tok0).d, .int .i64 (V.getD j tok0).n] 49) hI
      have hko : KeepsOthers W (W.alloc (.cells #[.int .u8 ((V.getD j tok0).x : Int), .int .i64 (V.getD j tok0).d, .int .i64 (V.getD j tok0).n] 49)) := KeepsOthers.alloc W _
      have hkt : KpT (SCut w.heap.size b) W (W.alloc (.cells #[.int .u8 ((V.getD j tok0).x : Int), .int .i64 (V.getD j tok0).d, .int .i64 (V.getD j tok0).n] 49)) :=
        ⟨kpb_below hb hI.2.2.1 (fun k hk => by rw [HUS.out]; rcases hk with hk | hk <;> have := HG.out <;> omega), fun k cs hk => (hb.block k (Array.getElem?_eq_some_iff.1 hk).1).trans hk, hb.size⟩
      have hux := hI.2.2.1
      obtain ⟨t, ht⟩ : ∃ t, t = V.getD j tok0 := ⟨_, rfl⟩
      have hgoal := hK (cutF A n c a z ch m lz g b W.heap.size (V.getD j tok0)) _ hko hkt ⟨W.heap.size, rfl, hux, hn, hown⟩
      simp only [encT, tokV]
      rw [← ht] at hgoal ⊢
      obtain ⟨tx, td, tn⟩ := t
      have HGOAL := Lib.hid hgoal
      clear hgoal hK hko hkt hown hn hb hI ht hux
      gi_wp2
      exact HGOAL.out
    case body =>
      rintro l j a₁ W ⟨x, rfl, hx, hrow, h1, h2, h3, A1, c1, h5, h6⟩ hj
      have htk : V.take (j + 1) = V.take j ++ [V.getD j tok0] := by
        rw [List.take_succ_eq_append_getElem hj, List.getD_eq_getElem?_getD, List.getElem?_eq_getElem hj]; rfl
      have hVl : V.length ≤ n - a := by rw [HV2.out]; exact (cut_reach lz (by omega) _ _ (by omega)).1
      obtain ⟨t, ht⟩ : ∃ t, t = V.getD j tok0 := ⟨_, rfl⟩
      rw [← ht] at hrow htk ⊢
      obtain ⟨A', c', w3, hrun, hown3, hb3, hko3, hkk⟩ := run_oneT_g W (b + 4) A1 j c1 _ h6 t (by omega) (by rw [← HUS.out]; exact h3)
      obtain ⟨tx, td, tn⟩ := t
      have htype := own_type h6 hrow (by kernel_rfl)
      have hxs := (Array.getElem?_eq_some_iff.1 hrow).1
      have hsz3 : u.heap.size ≤ w3.heap.size := by have := hb3.size; omega
      have hfr : ∀ k, k < b + 4 → w3.heap[k]? = W.heap[k]? := fun k hk => hb3.block k hk
      have hbx := (hfr b (by omega)).trans h5
      have cl := h5.cell
      have cl3 := Boxed.cell hbx
      have fz3 := Boxed.frozen hbx
      have hgb2 : g < b := hgb
      have HROW := Lib.hid hrow; have HRUN := Lib.hid hrun; have HOWN := Lib.hid hown3; have HB3 := Lib.hid hb3; have HKO := Lib.hid hko3; have HKK := Lib.hid hkk; have H1 := Lib.hid h1; have H2 := Lib.hid h2; have HTK := Lib.hid htk; have HBX := Lib.hid hbx; have H6 := Lib.hid h6; have HUS3 := Lib.hid hsz3
      have HTY := Lib.hid htype; have HX := Lib.hid hx; have HXS := Lib.hid hxs
      clear hrow hrun hown3 hb3 hko3 hkk h1 h2 htk hbx h6 hfr htype ht hVl hsz3 hx hxs
      unfold cutF
      gi_wp2_with (first
        | (refine wpListIn_load_row rfl _ _ rfl x rfl _ #[.int .u8 (tx : Int), .int .i64 td, .int .i64 tn] (0, 0) _ HROW.out Try.underlying49 rfl (sztokA _ _ _) ?_)
        | (gi_at_builtin; refine wpListIn_append_run rfl (.tmp 32) (.tmp 34) 28 rfl (.slice A1 j c1) (.slice (some ⟨W.heap.size, 0, none⟩) 1 1) (.slice A' (j + 1) c') w3 rfl rfl HRUN.out ?_))
      have hset := Boxed.set (.slice A' (j + 1) c') HBX.out
      obtain ⟨Y, hY⟩ : ∃ Y, Y = w3.setCell ⟨b, 0, none⟩ (.slice A' (j + 1) c') := ⟨_, rfl⟩
      have hYs : Y.heap.size = w3.heap.size := by rw [hY]; simp [World.setCell]
      have hYo : ∀ k, k ≠ b → Y.heap[k]? = w3.heap[k]? := fun k hk => by rw [hY]; exact Below.heap_setCell w3 _ _ k (by show k ≠ b; exact hk)
      have hYk : KeepsOthers w3 Y := by rw [hY]; exact KeepsOthers.setCell _ _ _
      have hYb : Below w.heap.size w Y := by rw [hY]; exact (H1.out.trans (HB3.out.mono (by have := HG.out; omega))).setCell (p := ⟨b, 0, none⟩) (by show w.heap.size ≤ b; have := HG.out; omega) _
      have hYown := ownsRow_setCell_below HOWN.out (a := ⟨b, 0, none⟩) (by show b < _; omega) (.slice A' (j + 1) c')
      rw [← hY] at hset hYown ⊢
      have hkp : KpB (SCut w.heap.size b) W Y := fun k hS => (hYo k (by have := HG.out; rcases hS with hS | hS <;> omega)).trans (HB3.out.block k (by have := HG.out; rcases hS with hS | hS <;> omega))
      refine ⟨HKO.out.trans hYk, ⟨hkp, fun k cs hk => ?_, by rw [hYs]; exact HB3.out.size⟩, hYb, fun k hS => (hkp k hS).trans (H2.out k hS), by rw [hYs]; exact HUS3.out, A', c', hset, ?_⟩
      · have hkb : k ≠ b := fun e => by
          subst e
          have := cl
          have h9 := HB3.out.block k (by omega)
          rw [HBX.out] at h9
          rw [hk] at h9
          injection h9 with h9
          injection h9 with _ h9 _
          exact absurd h9 (by decide)
        exact (hYo k hkb).trans ((HKK.out k (Array.getElem?_eq_some_iff.1 hk).1 (own_type H6.out hk (by kernel_rfl))).trans hk)
      · rw [HTK.out]; exact hYown
    case done =>
      rintro D W hD ⟨h1, h2, h3, A1, c1, h5, h6⟩ hK
      rw [List.take_length] at h6
      have cl := h5.cell
      have H1 := Lib.hid h1; have H6 := Lib.hid h6; have HK := Lib.hid hK
      clear h1 h2 h3 h5 h6 hK
      gi_wp2
      refine ⟨by simp, .inl ⟨_, _, rfl, run_takeDeferred HK.out, ?_⟩⟩
      refine ⟨_, (by simp [results, Try.results10, go_sem]), A1, V.length, c1, rfl, ?_, ?_⟩
      · have ho := own_grown H6.out (grownBy_putObj' W D (.deferred none)) (fun r e => by cases e; exact ⟨_, HK.out, rfl⟩)
        exact TkR.of_own ho
      · exact H1.out.grown (grownBy_putObj' W D _) H1.out.size (fun r e => by cases e; rw [HUS.out] at hD; have := HG.out; omega)
  · have hV2 : V = [] := by rw [HV.out, if_neg hE0]
    subst hV2
    have hE := HE.out
    have he1 := HE1.out
    clear HV HBX
    unfold cutE at hE
    unfold styE at he1
    by_cases q1 : mayS s h m = false
    · rw [if_pos q1] at hE
      rw [if_neg (by rw [q1]; decide)] at he1
      subst hE; subst he1
      clear hE0 HE HE1
      go_enter Try.func10, Try.ntmps10
      go_wp2_with fail
      rw [← HW1.out, ← HG.out]
      refine HST.out.mono ?_
      rintro e w2 ⟨rfl, hb2⟩
      have HB2 := Lib.hid (HB1.out.trans (hb2.mono HB1.out.size))
      clear hb2
      go_wp2
      go_ret2
      exact ⟨none, 0, 0, rfl, TkR.nil _ _, HB2.out⟩
    rw [if_neg q1] at hE
    rw [if_pos (by simpa using q1)] at he1
    subst he1
    by_cases q2 : 131072 < n
    · rw [if_pos q2] at hE
      subst hE
      have d1 : decide (131072 < (n : Int)) = true := by simp; omega
      clear hE0 HE HE1
      go_enter Try.func10, Try.ntmps10
      go_wp2_with fail
      rw [← HW1.out, ← HG.out]
      refine HST.out.mono ?_
      rintro e w2 ⟨rfl, hb2⟩
      have HB2 := Lib.hid (HB1.out.trans (hb2.mono HB1.out.size))
      clear hb2
      go_wp2
      go_ret2
      exact ⟨none, 0, 0, rfl, TkR.nil _ _, HB2.out⟩
    rw [if_neg q2] at hE
    have d1 : decide (131072 < (n : Int)) = false := by simp; omega
    by_cases q3 : a < 0
    · rw [if_neg (by omega)] at hE
      subst hE
      have d2 : decide (a < 0) = true := by simp; omega
      clear hE0 HE HE1
      go_enter Try.func10, Try.ntmps10
      go_wp2_with fail
      rw [← HW1.out, ← HG.out]
      refine HST.out.mono ?_
      rintro e w2 ⟨rfl, hb2⟩
      have HB2 := Lib.hid (HB1.out.trans (hb2.mono HB1.out.size))
      clear hb2
      go_wp2
      go_ret2
      exact ⟨none, 0, 0, rfl, TkR.nil _ _, HB2.out⟩
    have d2 : decide (a < 0) = false := by simp; omega
    by_cases q4 : (n : Int) < a
    · rw [if_neg (by omega)] at hE
      subst hE
      have d3 : decide ((n : Int) < a) = true := by simp; omega
      clear hE0 HE HE1
      go_enter Try.func10, Try.ntmps10
      go_wp2_with fail
      rw [← HW1.out, ← HG.out]
      refine HST.out.mono ?_
      rintro e w2 ⟨rfl, hb2⟩
      have HB2 := Lib.hid (HB1.out.trans (hb2.mono HB1.out.size))
      clear hb2
      go_wp2
      go_ret2
      exact ⟨none, 0, 0, rfl, TkR.nil _ _, HB2.out⟩
    · rw [if_pos (by omega)] at hE
      exact absurd hE hE0
end Go.Proofs.Ytihfcjehpmiolaa
