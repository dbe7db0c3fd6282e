/-
  Layer 8 (token): the program's best match and first token at a place.
-/
import Derived.Test.YtihfcjehpmiolaaTokIm1
import Derived.Test.YtihfcjehpmiolaaAfter
namespace Go.Proofs.Ytihfcjehpmiolaa
open Go.RowKit Go.ChangeShapes Go.WideShapes Go.ChangeAt Go.Joins
theorem built_here (d k : Int) : Try.prog.built 49 [(1, .int .i64 d), (2, .int .i64 k)] = some #[.int .u8 0, .int .i64 d, .int .i64 k] := by kernel_rfl
theorem built_lit (x : Int) : Try.prog.built 49 [(0, .int .u8 x)] = some #[.int .u8 x, .int .i64 0, .int .i64 0] := by kernel_rfl
theorem sztok : (Try.prog.info? 49).map (·.size) = some 3 := by kernel_rfl
theorem sztokA (a b c : Value) : (Try.prog.info? 49).map (·.size) = some (#[a, b, c] : Array Value).size := sztok
theorem one3 (x : Int) (d k : Int) : (#[.int .u8 x, .int .i64 d, .int .i64 k] : Array Value).all (·.oneCell') = true := by simp [Value.oneCell']
theorem cell_tok {fn : Func} {p : Tmp} (h : fn.results = #[.cell p 49]) (tmps : Array Value) (w : World) (g : Nat) (cs : Array Value) (hs : cs.size = 3) (hp : tmps.getD p undef = .pointer (some ⟨g, 0, none⟩)) (ht : w.heap[g]? = some (.cells cs 49 (0, 0))) :
    (results fn tmps).run Try.prog w = .ok (.agg cs) w := by
  have hp' : tmps[p]?.getD undef = .pointer (some ⟨g, 0, none⟩) := by simpa using hp
  have hl := run_loadVar_row (P := Try.prog) w g 49 49 cs (0, 0) _ ht Try.underlying49 rfl (by rw [hs]; exact sztok)
  simp [results, h, hp', asAddr, hl]
set_option maxRecDepth 100000 in
set_option maxHeartbeats 2000000 in
theorem best8_any (w : World) (A : Option Addr) (n c : Nat) (f : Nat → Nat) (a z ch : Nat) (m : Int) (lz : Bool) (hr : ByR w w.heap.size A n c f) (ha : a ≤ n) (hn : n ≤ 131072) (hz1 : 1 ≤ z) (hz : z ≤ 32768) (hch : ch ≤ 256) :
    Calls Try.prog 33 #[.slice A n c, .int .i64 (a : Int), .agg #[.int .i64 (z : Int), .int .i64 (ch : Int), .int .i64 m, .bool lz]] w fun e w' =>
      e = .returned (.agg #[.int .u8 0, .int .i64 ((bstN f n a z a ch 0 0).1 : Nat), .int .i64 ((bstN f n a z a ch 0 0).2 : Nat)]) ∧ Below w.heap.size w w' := by
  obtain ⟨T, hT⟩ : ∃ T, T = bstN f n a z a ch 0 0 := ⟨_, rfl⟩
  have eT : finT f n a z ch = T := by
    unfold finT; rw [if_pos ⟨by omega, by omega, by omega, by omega, by omega, by omega, by omega⟩, Int.toNat_natCast, Int.toNat_natCast, Int.toNat_natCast, hT]
  rw [← hT]
  obtain ⟨d, k⟩ := T
  clear hT
  obtain ⟨h, hh⟩ : ∃ h, h = w.heap.size := ⟨_, rfl⟩
  obtain ⟨W1, hW1⟩ : ∃ W1, W1 = (w.alloc (.cells #[.int .i64 (z : Int), .int .i64 (ch : Int), .int .i64 m, .bool lz] 32)).alloc (.cells #[.int .u8 0, .int .i64 0, .int .i64 0] 49) := ⟨_, rfl⟩
  have hb1 : Below h w W1 := by rw [hW1, hh]; exact ((Below.refl _ _).alloc (Nat.le_refl _) _).alloc (by simp) _
  have hs1 : W1.heap.size = h + 2 := by rw [hW1, hh]; simp
  have hbx : W1.heap[h]? = some (.cells #[.int .i64 (z : Int), .int .i64 (ch : Int), .int .i64 m, .bool lz] 32 (0, 0)) := by
    rw [hW1, hh]; exact (Below.heap_alloc _ _ _ (by simp)).trans (heap_alloc_new w _)
  have hby : W1.heap[h + 1]? = some (.cells #[.int .u8 0, .int .i64 0, .int .i64 0] 49 (0, 0)) := by
    have := heap_alloc_new (w.alloc (.cells #[.int .i64 (z : Int), .int .i64 (ch : Int), .int .i64 m, .bool lz] 32)) (.cells #[.int .u8 0, .int .i64 0, .int .i64 0] 49)
    rw [World.size_alloc, ← hW1, ← hh] at this; exact this
  have x0 : W1.cell? ⟨h, 0, none⟩ = some (.int .i64 (z : Int)) := (cell_of_row W1 _ 0 _ _ (0, 0) hbx).trans rfl
  have x1 : W1.cell? ⟨h, 1, none⟩ = some (.int .i64 (ch : Int)) := (cell_of_row W1 _ 1 _ _ (0, 0) hbx).trans rfl
  have hf := find7_any W1 A n c f a z ch ((hr.below (hh ▸ hb1) (by omega)).more (by omega))
  rw [eT] at hf
  obtain ⟨E, hE⟩ : ∃ E, E = finE f n a z ch := ⟨_, rfl⟩
  rw [← hE] at hf
  have HF := Lib.hid hf; have HB1 := Lib.hid hb1; have HS1 := Lib.hid hs1; have HBY := Lib.hid hby; have HW1 := Lib.hid hW1; have HH := Lib.hid hh
  clear hf hb1 hs1 hby hbx hW1 hE eT hr hh
  go_enter Try.func33, Try.ntmps33
  go_wp2_with fail
  rw [← HW1.out, ← HH.out]
  refine HF.out.mono ?_
  rintro e w2 ⟨rfl, hb2⟩
  have hy2 := (hb2.block (h + 1) (by have := HS1.out; omega)).trans HBY.out
  have HB2 := Lib.hid (HB1.out.trans (hb2.mono (by have := HS1.out; omega)))
  have HY2 := Lib.hid hy2
  clear hb2 hy2 x0 x1
  go_wp2_with (first
    | (refine wpList_buildTo rfl 49 #[(1, .tmp 21), (2, .tmp 22)] rfl (some 23) rfl #[.int .u8 0, .int .i64 (d : Int), .int .i64 (k : Int)] ?_ ?_; focus (simpa [Act.eval] using built_here (d : Int) (k : Int)))
    | (refine wpList_store_rowTo rfl _ _ _ rfl rfl (h + 1) #[.int .u8 0, .int .i64 (d : Int), .int .i64 (k : Int)] rfl rfl 49 #[.int .u8 0, .int .i64 0, .int .i64 0] HY2.out (sztokA _ _ _) rfl (one3 _ _ _) ?_))
  refine bodyPost_ret (cell_tok rfl _ _ (h + 1) _ rfl rfl (setRow_heap _ _ _ _ _ _ HY2.out)) rfl ⟨rfl, ?_⟩
  rw [← HH.out]
  exact below_row8 HB2.out (by omega) _
/-- The token of the bytes at a place. -/
def fstT (f : Nat → Nat) (n z ch : Nat) (lz : Bool) (a : Nat) : Tok :=
  if (bstN f n a z a ch 0 0).2 = 0 ∨ (bstN f n a z a ch 0 0).2 < latN f n z ch lz a then ⟨f a, 0, 0⟩ else ⟨0, ((bstN f n a z a ch 0 0).1 : Nat), ((bstN f n a z a ch 0 0).2 : Nat)⟩
theorem run_field2 (x d n : Int) (w : World) : (Instr.field 49 (.agg #[.int .u8 x, .int .i64 d, .int .i64 n]) 2).run Try.prog w = .ok (.int .i64 n) w := by
  have hi : (Try.prog.info? 3).map (·.size) = some 1 := by kernel_rfl
  unfold Instr.field
  simp [go_sem, asAgg]
/-- A field of a value, in a region that draws and only reads. -/
theorem quiet_field {P : Program} {C : World → Prop} {K : Act → Prop} {a : Act} {o : Oper} (ty : TypeId) (x : Operand) (i : Nat) (ho : o.op = .field ty x i) (v u : Value) (hx : a.eval x = v)
    (hrun : ∀ w, (Instr.field ty v i).run P w = .ok u w) (hk : K (a.put o.dst u)) : o.quiet P a C K :=
  ⟨_, fun w hw => by
    unfold Oper.quietAt execOp
    simp only [ho, hx, Sem.run_bind, hrun, Result.andThen_ok]
    exact ⟨rfl, rfl⟩, hk⟩
theorem sztokC (a b c : Value) : (Try.prog.info? 49).map (·.size) = some ([a, b, c] : List Value).length := sztok
theorem szStyleC' (a b c d : Value) : (Try.prog.info? 32).map (·.size) = some ([a, b, c, d] : List Value).length := szStyle
set_option maxRecDepth 100000 in
set_option maxHeartbeats 4000000 in
theorem first8_any (w : World) (A : Option Addr) (n c : Nat) (f : Nat → Nat) (a z ch : Nat) (m : Int) (lz : Bool) (hr : ByR w w.heap.size A n c f) (ha : a < n) (hn : n ≤ 131072) (hz1 : 1 ≤ z) (hz : z ≤ 32768) (hch : ch ≤ 256) :
    Calls Try.prog 30 #[.slice A n c, .int .i64 (a : Int), .agg #[.int .i64 (z : Int), .int .i64 (ch : Int), .int .i64 m, .bool lz]] w fun e w' =>
      e = .returned (.agg #[.int .u8 ((fstT f n z ch lz a).x : Int), .int .i64 (fstT f n z ch lz a).d, .int .i64 (fstT f n z ch lz a).n]) ∧ Below w.heap.size w w' := by
  obtain ⟨R, hR⟩ : ∃ R, R = fstT f n z ch lz a := ⟨_, rfl⟩
  rw [← hR]
  unfold fstT at hR
  obtain ⟨T, hT⟩ : ∃ T, T = bstN f n a z a ch 0 0 := ⟨_, rfl⟩
  rw [← hT] at hR
  obtain ⟨a1, ha1⟩ : ∃ a1, a1 = a + 1 := ⟨_, rfl⟩
  obtain ⟨T2, hT2⟩ : ∃ T2, T2 = bstN f n a1 z a1 ch 0 0 := ⟨_, rfl⟩
  have hlat : latN f n z ch lz a = if lz = true then T2.2 else 0 := by
    unfold latN
    rw [← ha1]
    cases lz with
    | false => rfl
    | true =>
      rw [if_pos rfl]
      by_cases h : a1 < n
      · rw [if_pos ⟨rfl, h⟩, hT2]
      · rw [if_neg (fun q => h q.2), hT2]
        obtain rfl : a1 = n := by omega
        by_cases h2 : (bstN f a1 a1 z a1 ch 0 0).2 = 0
        · exact h2.symm
        · obtain ⟨b1, b2, b3, b4, b5, b6⟩ := bst_is h2
          have := (b6 0 (by omega)).1
          omega
  rw [hlat] at hR
  have hz0 : T.2 = 0 → T.1 = 0 := fun h0 => by
    rw [hT] at h0 ⊢
    rcases bstN_found (f := f) (L := n) (a := a) (size := z) a ch 0 0 (Nat.le_refl _) (.inl ⟨rfl, rfl⟩) with ⟨h1, h2⟩ | ⟨_, _, _, h3, _⟩
    · exact h1
    · omega
  have hbe := best8_any
  have hB1 : ∀ V, ByR V V.heap.size A n c f → Calls Try.prog 33 #[.slice A n c, .int .i64 (a : Int), .agg #[.int .i64 (z : Int), .int .i64 (ch : Int), .int .i64 m, .bool lz]] V fun e w' =>
      e = .returned (.agg #[.int .u8 0, .int .i64 (T.1 : Nat), .int .i64 (T.2 : Nat)]) ∧ Below V.heap.size V w' := fun V hV => by
    rw [hT]; exact best8_any V A n c f a z ch m lz hV (by omega) hn hz1 hz hch
  have hB2 : ∀ V, ByR V V.heap.size A n c f → Calls Try.prog 33 #[.slice A n c, .int .i64 (a1 : Int), .agg #[.int .i64 (z : Int), .int .i64 (ch : Int), .int .i64 m, .bool lz]] V fun e w' =>
      e = .returned (.agg #[.int .u8 0, .int .i64 (T2.1 : Nat), .int .i64 (T2.2 : Nat)]) ∧ Below V.heap.size V w' := fun V hV => by
    rw [hT2]; exact best8_any V A n c f a1 z ch m lz hV (by omega) hn hz1 hz hch
  obtain ⟨d, k⟩ := T
  obtain ⟨d2, k2⟩ := T2
  clear hT hT2 hlat hbe
  dsimp only at hR hz0 hB1 hB2
  obtain ⟨h, hh⟩ : ∃ h, h = w.heap.size := ⟨_, rfl⟩
  obtain ⟨W1, hW1⟩ : ∃ W1, W1 = (w.alloc (.cells #[.int .i64 (z : Int), .int .i64 (ch : Int), .int .i64 m, .bool lz] 32)).alloc (.cells #[.int .u8 0, .int .i64 0, .int .i64 0] 49) := ⟨_, rfl⟩
  have hb1 : Below h w W1 := by rw [hW1, hh]; exact ((Below.refl _ _).alloc (Nat.le_refl _) _).alloc (by simp) _
  have hs1 : W1.heap.size = h + 2 := by rw [hW1, hh]; simp
  have hbx : W1.heap[h]? = some (.cells #[.int .i64 (z : Int), .int .i64 (ch : Int), .int .i64 m, .bool lz] 32 (0, 0)) := by
    rw [hW1, hh]; exact (Below.heap_alloc _ _ _ (by simp)).trans (heap_alloc_new w _)
  have hby : W1.heap[h + 1]? = some (.cells #[.int .u8 0, .int .i64 0, .int .i64 0] 49 (0, 0)) := by
    have := heap_alloc_new (w.alloc (.cells #[.int .i64 (z : Int), .int .i64 (ch : Int), .int .i64 m, .bool lz] 32)) (.cells #[.int .u8 0, .int .i64 0, .int .i64 0] 49)
    rw [World.size_alloc, ← hW1, ← hh] at this; exact this
  have hf := hB1 W1 ((hr.below (hh ▸ hb1) (by omega)).more (by omega))
  rw [← hh] at hr
  have HR := Lib.hid hr.1; have HRR := Lib.hid hr; have HRES := Lib.hid hR; have HC2 := Lib.hid hB2; have HZ0 := Lib.hid hz0
  have HF := Lib.hid hf; have HB1 := Lib.hid hb1; have HS1 := Lib.hid hs1; have HBX := Lib.hid hbx; have HBY := Lib.hid hby; have HW1 := Lib.hid hW1; have HH := Lib.hid hh
  have hwr : IntKind.i64.wrap ((a : Int) + 1) = (a1 : Int) := by rw [ha1, IntKind.wrap_i64]; omega
  have HWR := Lib.hid hwr
  clear hf hb1 hs1 hby hbx hW1 hr hh hR hB1 hB2 hz0 ha1 hwr
  go_enter Try.func30, Try.ntmps30
  go_wp2_with (refine wpList_load_row rfl _ _ rfl h rfl _ #[.int .i64 (z : Int), .int .i64 (ch : Int), .int .i64 m, .bool lz] (0, 0) _ HBX.out Try.underlying32 rfl szStyle ?_)
  rw [← HW1.out, ← HH.out]
  refine HF.out.mono ?_
  rintro e w2 ⟨rfl, hb2⟩
  obtain ⟨g, hg⟩ : ∃ g, g = w2.heap.size := ⟨_, rfl⟩
  obtain ⟨W3, hW3⟩ : ∃ W3, W3 = mkV w2 #[.int .u8 0, .int .i64 0, .int .i64 0] #[.int .u8 0, .int .i64 (d : Int), .int .i64 (k : Int)] 49 := ⟨_, rfl⟩
  have hb3 : Below w2.heap.size w2 W3 := by rw [hW3]; exact mkV_below _ _ _ _
  have hs3 : W3.heap.size = g + 1 := by rw [hW3, hg, mkV_size]
  have hgs : h + 2 ≤ g := by have := hb2.size; have := HS1.out; omega
  have y5 := (hb3.block h (by omega)).trans ((hb2.block h (by have := HS1.out; omega)).trans HBX.out)
  have y6 := (hb3.block (h + 1) (by omega)).trans ((hb2.block (h + 1) (by have := HS1.out; omega)).trans HBY.out)
  have y7 : W3.heap[g]? = some (.cells #[.int .u8 0, .int .i64 (d : Int), .int .i64 (k : Int)] 49 (0, 0)) := by rw [hW3, hg]; exact mkV_row w2 _ _ _
  have hb03 : Below h w W3 := (HB1.out.trans (hb2.mono (by have := HS1.out; omega))).trans (hb3.mono (by omega))
  have HB3 := Lib.hid hb03; have HS3 := Lib.hid hs3; have HY6 := Lib.hid y6; have HY7 := Lib.hid y7; have HG := Lib.hid hg; have HW3 := Lib.hid hW3
  have S7 : ∀ V, (∃ p : After W3.heap.size W3, V = p.w) → V.rangeAt g 0 [.int .u8 0, .int .i64 (d : Int), .int .i64 (k : Int)] := by
    rintro V ⟨⟨V, hV⟩, rfl⟩ i v hv
    rw [cell_of_row V g _ _ _ (0, 0) ((hV.block g (by omega)).trans HY7.out), Nat.zero_add]; simpa using hv
  have S5 : ∀ V, (∃ p : After W3.heap.size W3, V = p.w) → V.rangeAt h 0 [.int .i64 (z : Int), .int .i64 (ch : Int), .int .i64 m, .bool lz] := by
    rintro V ⟨⟨V, hV⟩, rfl⟩ i v hv
    rw [cell_of_row V h _ _ _ (0, 0) ((hV.block h (by omega)).trans y5), Nat.zero_add]; simpa using hv
  have z3 : ∀ p : After W3.heap.size W3, p.w.cell? ⟨h, 3, none⟩ = some (.bool lz) := by
    rintro ⟨V, hV⟩
    exact (cell_of_row V h 3 _ _ (0, 0) ((hV.block h (by omega)).trans y5)).trans rfl
  have z2 : ∀ p : After W3.heap.size W3, p.w.cell? ⟨g, 2, none⟩ = some (.int .i64 (k : Int)) := by
    rintro ⟨V, hV⟩
    exact (cell_of_row V g 2 _ _ (0, 0) ((hV.block g (by omega)).trans HY7.out)).trans rfl
  have U1 : ∀ V, Below W3.heap.size W3 V → Calls Try.prog 28 #[.agg #[.int .u8 0, .int .i64 (d : Int), .int .i64 (k : Int)]] V fun e V' => e = .returned (.bool (cpyT ⟨0, (d : Int), (k : Int)⟩)) ∧ Below W3.heap.size W3 V' := fun V hV =>
    (copies8_any V ⟨0, (d : Int), (k : Int)⟩).mono fun _ _ q => ⟨q.1, hV.trans (q.2.mono hV.size)⟩
  have U2 : ∀ V, Below W3.heap.size W3 V → Calls Try.prog 33 #[.slice A n c, .int .i64 (a1 : Int), .agg #[.int .i64 (z : Int), .int .i64 (ch : Int), .int .i64 m, .bool lz]] V fun e V' => e = .returned (.agg #[.int .u8 0, .int .i64 (d2 : Int), .int .i64 (k2 : Int)]) ∧ Below W3.heap.size W3 V' := fun V hV =>
    (HC2.out V ((HRR.out.below (hb03.trans (hV.mono (by omega))) (Nat.le_refl _)).more (by have := hV.size; omega))).mono fun _ _ q => ⟨q.1, hV.trans (q.2.mono hV.size)⟩
  have R7 := Lib.hid S7; have R5 := Lib.hid S5; have T2 := Lib.hid U2; have T1 := Lib.hid U1
  clear S7 S5 U2 U1 hb3 hs3 y5 y6 y7 hb03 hg hW3 hb2 HF
  go_wp2_with (refine wpList_store_rowTo rfl _ _ _ rfl rfl w2.heap.size #[.int .u8 0, .int .i64 (d : Int), .int .i64 (k : Int)] rfl rfl 49 #[.int .u8 0, .int .i64 0, .int .i64 0] (heap_alloc_new w2 _) (sztokA _ _ _) rfl (one3 _ _ _) ?_; change wpList _ _ _ _ _ (mkV w2 #[.int .u8 0, .int .i64 0, .int .i64 0] #[.int .u8 0, .int .i64 (d : Int), .int .i64 (k : Int)] 49); rw [← HW3.out, ← HG.out])
  have hwr := HWR.out
  by_cases hk0 : k = 0
  · have hcp : cpyT ⟨0, (d : Int), (k : Int)⟩ = false := by have := HZ0.out hk0; simp [cpyT, hk0, this]
    rw [hcp] at T1
    obtain ⟨u, hu⟩ : ∃ u, u = f a := ⟨_, rfl⟩
    have HU := Lib.hid hu
    have hres : R = ⟨u, 0, 0⟩ := by rw [HRES.out, if_pos (.inl hk0), hu]
    clear hu
    subst hres
    clear hcp hk0
    refine wp_region_after W3.heap.size W3 (Below.refl _ _) (by kernel_rfl) (by kernel_rfl) ?_
    repeat (first
      | (go_big_quiet_want; with_reducible refine quiet_load_row _ _ rfl _ _ rfl _ _ R7.out Try.underlying49 rfl (sztokC _ _ _) ?_; go_big_quiet_on; simp only [Act.put, List.setIfInBounds_toArray, List.set_cons_zero, List.set_cons_succ])
      | (go_big_quiet_want; with_reducible refine quiet_load_row _ _ rfl _ _ rfl _ _ R5.out Try.underlying32 rfl (szStyleC' _ _ _ _) ?_; go_big_quiet_on; simp only [Act.put, List.setIfInBounds_toArray, List.set_cons_zero, List.set_cons_succ])
      | (go_big_quiet_want; with_reducible refine quiet_field _ _ _ rfl (.agg #[.int .u8 0, .int .i64 (d2 : Int), .int .i64 (k2 : Int)]) (.int .i64 (k2 : Int)) rfl (fun w => run_field2 0 (d2 : Int) (k2 : Int) w) ?_; go_big_quiet_on; simp only [Act.put, List.setIfInBounds_toArray, List.set_cons_zero, List.set_cons_succ])
      | (go_big_quiet_step (first | (with_reducible exact call_after T1.out _) | (with_reducible exact call_after T2.out _))))
    refine wpQuiet_nil ?_
    rintro V ⟨⟨V, hV⟩, rfl⟩
    have HV := Lib.hid (HB3.out.trans (hV.mono (by have := HS3.out; omega)))
    have y6 := (hV.block (h + 1) (by have := HS3.out; omega)).trans HY6.out
    have y7 := (hV.block g (by have := HS3.out; omega)).trans HY7.out
    have HY6V := Lib.hid y6; have HY7V := Lib.hid y7
    have hrd := HR.out.below HV.out (by omega)
    obtain ⟨bb, o, rfl, _, hc⟩ := hrd.2 (by omega)
    have x9 := hc a ha
    rw [← HU.out] at x9
    clear hrd hc hV y6 y7
    go_wp2_with (first
      | (refine wpList_buildTo rfl 49 #[(0, .tmp 33)] rfl (some 34) rfl #[.int .u8 (u : Int), .int .i64 0, .int .i64 0] ?_ ?_; focus (simpa [Act.eval] using built_lit (u : Int)))
      | (refine wpList_store_rowTo rfl _ _ _ rfl rfl (h + 1) #[.int .u8 (u : Int), .int .i64 0, .int .i64 0] rfl rfl 49 #[.int .u8 0, .int .i64 0, .int .i64 0] HY6V.out (sztokA _ _ _) rfl (one3 _ _ _) ?_))
    refine bodyPost_ret (cell_tok rfl _ _ (h + 1) _ rfl rfl (setRow_heap _ _ _ _ _ _ HY6V.out)) rfl ⟨rfl, ?_⟩
    rw [← HH.out]
    exact below_row8 HV.out (by omega) _
  · have hcp : cpyT ⟨0, (d : Int), (k : Int)⟩ = true := by simp [cpyT]; omega
    rw [hcp] at T1
    clear hcp
    cases lz with
    | false =>
      have hres : R = ⟨0, (d : Int), (k : Int)⟩ := by rw [HRES.out, if_neg (by simp [hk0])]
      subst hres
      refine wp_region_after W3.heap.size W3 (Below.refl _ _) (by kernel_rfl) (by kernel_rfl) ?_
      repeat (first
        | (go_big_quiet_want; with_reducible refine quiet_load_row _ _ rfl _ _ rfl _ _ R7.out Try.underlying49 rfl (sztokC _ _ _) ?_; go_big_quiet_on; simp only [Act.put, List.setIfInBounds_toArray, List.set_cons_zero, List.set_cons_succ])
        | (go_big_quiet_want; with_reducible refine quiet_load_row _ _ rfl _ _ rfl _ _ R5.out Try.underlying32 rfl (szStyleC' _ _ _ _) ?_; go_big_quiet_on; simp only [Act.put, List.setIfInBounds_toArray, List.set_cons_zero, List.set_cons_succ])
        | (go_big_quiet_want; with_reducible refine quiet_field _ _ _ rfl (.agg #[.int .u8 0, .int .i64 (d2 : Int), .int .i64 (k2 : Int)]) (.int .i64 (k2 : Int)) rfl (fun w => run_field2 0 (d2 : Int) (k2 : Int) w) ?_; go_big_quiet_on; simp only [Act.put, List.setIfInBounds_toArray, List.set_cons_zero, List.set_cons_succ])
        | (go_big_quiet_step (first | (with_reducible exact call_after T1.out _) | (with_reducible exact call_after T2.out _))))
      refine wpQuiet_nil ?_
      rintro V ⟨⟨V, hV⟩, rfl⟩
      have HV := Lib.hid (HB3.out.trans (hV.mono (by have := HS3.out; omega)))
      have y6 := (hV.block (h + 1) (by have := HS3.out; omega)).trans HY6.out
      have y7 := (hV.block g (by have := HS3.out; omega)).trans HY7.out
      have HY6V := Lib.hid y6; have HY7V := Lib.hid y7
      clear hV y6 y7
      go_wp2_with (first
        | (refine wpList_load_row rfl _ _ rfl g rfl _ #[.int .u8 0, .int .i64 (d : Int), .int .i64 (k : Int)] (0, 0) _ HY7V.out Try.underlying49 rfl (sztokA _ _ _) ?_)
        | (refine wpList_store_rowTo rfl _ _ _ rfl rfl (h + 1) #[.int .u8 0, .int .i64 (d : Int), .int .i64 (k : Int)] rfl rfl 49 #[.int .u8 0, .int .i64 0, .int .i64 0] HY6V.out (sztokA _ _ _) rfl (one3 _ _ _) ?_))
      refine bodyPost_ret (cell_tok rfl _ _ (h + 1) _ rfl rfl (setRow_heap _ _ _ _ _ _ HY6V.out)) rfl ⟨rfl, ?_⟩
      rw [← HH.out]
      exact below_row8 HV.out (by omega) _
    | true =>
      by_cases hkk : k < k2
      · have hkd : decide ((k : Int) < (k2 : Int)) = true := by simp; omega
        have hkd2 : decide (k < k2) = true := by simp; omega
        obtain ⟨u, hu⟩ : ∃ u, u = f a := ⟨_, rfl⟩
        have HU := Lib.hid hu
        have hres : R = ⟨u, 0, 0⟩ := by rw [HRES.out, if_pos (.inr (by simpa using hkk)), hu]
        clear hu
        subst hres
        refine wp_region_after W3.heap.size W3 (Below.refl _ _) (by kernel_rfl) (by kernel_rfl) ?_
        repeat (first
          | (go_big_quiet_want; with_reducible refine quiet_load_row _ _ rfl _ _ rfl _ _ R7.out Try.underlying49 rfl (sztokC _ _ _) ?_; go_big_quiet_on; simp only [Act.put, List.setIfInBounds_toArray, List.set_cons_zero, List.set_cons_succ])
          | (go_big_quiet_want; with_reducible refine quiet_load_row _ _ rfl _ _ rfl _ _ R5.out Try.underlying32 rfl (szStyleC' _ _ _ _) ?_; go_big_quiet_on; simp only [Act.put, List.setIfInBounds_toArray, List.set_cons_zero, List.set_cons_succ])
          | (go_big_quiet_want; with_reducible refine quiet_field _ _ _ rfl (.agg #[.int .u8 0, .int .i64 (d2 : Int), .int .i64 (k2 : Int)]) (.int .i64 (k2 : Int)) rfl (fun w => run_field2 0 (d2 : Int) (k2 : Int) w) ?_; go_big_quiet_on; simp only [Act.put, List.setIfInBounds_toArray, List.set_cons_zero, List.set_cons_succ])
          | (go_big_quiet_step (first | (with_reducible exact call_after T1.out _) | (with_reducible exact call_after T2.out _))))
        refine wpQuiet_nil ?_
        rintro V ⟨⟨V, hV⟩, rfl⟩
        have HV := Lib.hid (HB3.out.trans (hV.mono (by have := HS3.out; omega)))
        have y6 := (hV.block (h + 1) (by have := HS3.out; omega)).trans HY6.out
        have y7 := (hV.block g (by have := HS3.out; omega)).trans HY7.out
        have HY6V := Lib.hid y6; have HY7V := Lib.hid y7
        have hrd := HR.out.below HV.out (by omega)
        obtain ⟨bb, o, rfl, _, hc⟩ := hrd.2 (by omega)
        have x9 := hc a ha
        rw [← HU.out] at x9
        clear hrd hc hV y6 y7
        go_wp2_with (first
          | (refine wpList_buildTo rfl 49 #[(0, .tmp 33)] rfl (some 34) rfl #[.int .u8 (u : Int), .int .i64 0, .int .i64 0] ?_ ?_; focus (simpa [Act.eval] using built_lit (u : Int)))
          | (refine wpList_store_rowTo rfl _ _ _ rfl rfl (h + 1) #[.int .u8 (u : Int), .int .i64 0, .int .i64 0] rfl rfl 49 #[.int .u8 0, .int .i64 0, .int .i64 0] HY6V.out (sztokA _ _ _) rfl (one3 _ _ _) ?_))
        refine bodyPost_ret (cell_tok rfl _ _ (h + 1) _ rfl rfl (setRow_heap _ _ _ _ _ _ HY6V.out)) rfl ⟨rfl, ?_⟩
        rw [← HH.out]
        exact below_row8 HV.out (by omega) _
      · have hkd : decide ((k : Int) < (k2 : Int)) = false := by simp; omega
        have hkd2 : decide (k < k2) = false := by simp; omega
        have hres : R = ⟨0, (d : Int), (k : Int)⟩ := by rw [HRES.out, if_neg (by simp; omega)]
        subst hres
        refine wp_region_after W3.heap.size W3 (Below.refl _ _) (by kernel_rfl) (by kernel_rfl) ?_
        repeat (first
          | (go_big_quiet_want; with_reducible refine quiet_load_row _ _ rfl _ _ rfl _ _ R7.out Try.underlying49 rfl (sztokC _ _ _) ?_; go_big_quiet_on; simp only [Act.put, List.setIfInBounds_toArray, List.set_cons_zero, List.set_cons_succ])
          | (go_big_quiet_want; with_reducible refine quiet_load_row _ _ rfl _ _ rfl _ _ R5.out Try.underlying32 rfl (szStyleC' _ _ _ _) ?_; go_big_quiet_on; simp only [Act.put, List.setIfInBounds_toArray, List.set_cons_zero, List.set_cons_succ])
          | (go_big_quiet_want; with_reducible refine quiet_field _ _ _ rfl (.agg #[.int .u8 0, .int .i64 (d2 : Int), .int .i64 (k2 : Int)]) (.int .i64 (k2 : Int)) rfl (fun w => run_field2 0 (d2 : Int) (k2 : Int) w) ?_; go_big_quiet_on; simp only [Act.put, List.setIfInBounds_toArray, List.set_cons_zero, List.set_cons_succ])
          | (go_big_quiet_step (first | (with_reducible exact call_after T1.out _) | (with_reducible exact call_after T2.out _))))
        refine wpQuiet_nil ?_
        rintro V ⟨⟨V, hV⟩, rfl⟩
        have HV := Lib.hid (HB3.out.trans (hV.mono (by have := HS3.out; omega)))
        have y6 := (hV.block (h + 1) (by have := HS3.out; omega)).trans HY6.out
        have y7 := (hV.block g (by have := HS3.out; omega)).trans HY7.out
        have HY6V := Lib.hid y6; have HY7V := Lib.hid y7
        clear hV y6 y7
        go_wp2_with (first
          | (refine wpList_load_row rfl _ _ rfl g rfl _ #[.int .u8 0, .int .i64 (d : Int), .int .i64 (k : Int)] (0, 0) _ HY7V.out Try.underlying49 rfl (sztokA _ _ _) ?_)
          | (refine wpList_store_rowTo rfl _ _ _ rfl rfl (h + 1) #[.int .u8 0, .int .i64 (d : Int), .int .i64 (k : Int)] rfl rfl 49 #[.int .u8 0, .int .i64 0, .int .i64 0] HY6V.out (sztokA _ _ _) rfl (one3 _ _ _) ?_))
        refine bodyPost_ret (cell_tok rfl _ _ (h + 1) _ rfl rfl (setRow_heap _ _ _ _ _ _ HY6V.out)) rfl ⟨rfl, ?_⟩
        rw [← HH.out]
        exact below_row8 HV.out (by omega) _
end Go.Proofs.Ytihfcjehpmiolaa
