/-
  Layer 9 (reach), the landed code: the kind of lengths.
-/
import Derived.Test.YtdecacajignkoaaReaFil
namespace Go.Proofs.Ytdecacajignkoaa
open Go.RowKit
set_option maxRecDepth 100000 in
set_option maxHeartbeats 4000000 in
theorem longs9_any (w : World) : Calls Try.prog 23 #[] w fun e w' => e = .returned (.agg (kdA 3 258 257 285 258 (lsM longL))) ∧ Below w.heap.size w w' := by
  have hz := (zero_of_info infoKd).1
  obtain ⟨hr, v0, b0, hlt⟩ := made_row w (kdA 0 0 0 0 0 (fun _ => 0)) 41 longL #[.int .i64 8, .int .i64 4, .int .i64 4, .int .i64 4, .int .i64 4, .int .i64 4] rfl
  have hfl := filled9_any _ 3 257 _ 6 6 longL rfl (by omega) hr (by omega) (by omega) (by decide) (by decide)
  have e1 : (3 : Int) - 1 + ((smS (lsM longL) 6 : Nat) : Int) = 258 := by decide
  have e2 : (257 : Int) - 1 + ((smC (lsM longL) 6 : Nat) : Int) = 284 := by decide
  rw [e1, e2] at hfl
  obtain ⟨V, hV⟩ : ∃ V, V = ((w.alloc (.cells (kdA 0 0 0 0 0 (fun _ => 0)) 41)).alloc (.cells #[.int .i64 8, .int .i64 4, .int .i64 4, .int .i64 4, .int .i64 4, .int .i64 4] 3)) := ⟨_, rfl⟩
  rw [← hV] at hfl v0 b0 hlt
  have HF := Lib.hid hfl; have V0 := Lib.hid v0; have B0 := Lib.hid b0; have HV := Lib.hid hV.symm; have HLT := Lib.hid hlt
  clear hfl v0 b0 hV hr e1 e2 hlt
  obtain ⟨MM, hMM⟩ : ∃ MM, MM = lsM longL := ⟨_, rfl⟩
  rw [← hMM] at HF ⊢
  clear hMM
  go_enter Try.func23, Try.ntmps23
  go_wp2_with fail
  rw [HV.out]
  refine HF.out.mono ?_
  rintro e w1 ⟨rfl, hb1⟩
  have hk1 : Knd w1 w.heap.size 0 0 0 0 0 (fun _ => 0) := (hb1.block w.heap.size HLT.out).trans V0.out
  have bb1 : Below w.heap.size w w1 := B0.out.trans (hb1.mono (Nat.le_of_lt HLT.out))
  have hne : w.heap.size ≠ w1.heap.size := by have := hk1.lt; omega
  obtain ⟨U, hU⟩ : ∃ U, U = mkV w1 (kdA 0 0 0 0 0 (fun _ => 0)) (kdA 3 258 257 284 0 MM) 41 := ⟨_, rfl⟩
  have u1 : Knd U w1.heap.size 3 258 257 284 0 MM := by rw [hU]; exact mkV_row _ _ _ _
  have bU : Below w1.heap.size w1 U := by rw [hU]; exact mkV_below _ _ _ _
  have u0 : Knd U w.heap.size 0 0 0 0 0 (fun _ => 0) := hk1.below bU hk1.lt
  have f1 := u1.frozen 18
  have k1 := u1.own
  have u2 := u1.setOwn 258
  have f2 := u2.frozen 3
  have k2 := u2.last
  have u3 := u2.setLast 285
  have z3 := (u0.other (p := ⟨w1.heap.size, 18, none⟩) hne (.int .i64 258)).other (p := ⟨w1.heap.size, 3, none⟩) hne (.int .i64 285)
  have bb3 := ((bb1.trans (bU.mono bb1.size)).setCell (p := ⟨w1.heap.size, 18, none⟩) bb1.size (.int .i64 258)).setCell (p := ⟨w1.heap.size, 3, none⟩) bb1.size (.int .i64 285)
  have HU := Lib.hid hU.symm; have U3 := Lib.hid u3; have Z3 := Lib.hid z3; have BB3 := Lib.hid bb3
  clear hk1 bb1 hne hU u1 bU u0 u2 u3 z3 bb3 hb1
  go_wp2_with (first
    | (refine wpList_store_rowTo rfl _ _ _ rfl rfl w1.heap.size (kdA 3 258 257 284 0 MM) rfl rfl 41 (kdA 0 0 0 0 0 (fun _ => 0)) (heap_alloc_new w1 _) (szKd _) rfl (tblA_one _ _) ?_; change wpList _ _ _ _ _ (mkV w1 (kdA 0 0 0 0 0 (fun _ => 0)) (kdA 3 258 257 284 0 MM) 41); rw [HU.out])
    | (refine wpList_load_row rfl _ _ rfl w1.heap.size rfl _ (kdA 3 258 257 285 258 MM) (0, 0) _ U3.out Try.underlying41 rfl (szKd _) ?_)
    | (refine wpList_store_rowTo rfl _ _ _ rfl rfl w.heap.size (kdA 3 258 257 285 258 MM) rfl rfl 41 (kdA 0 0 0 0 0 (fun _ => 0)) Z3.out (szKd _) rfl (tblA_one _ _) ?_)
    | fail)
  refine bodyPost_ret (v := .agg (kdA 3 258 257 285 258 MM)) ?_ rfl ⟨rfl, below_row9 BB3.out (Nat.le_refl _) _⟩
  exact results_cell_row rfl _ _ w.heap.size _ _ (0, 0) _ rfl (setRow_heap _ _ _ _ _ _ Z3.out) Try.underlying41 rfl (szKd _)
theorem long_ok9 : KndOk 3 258 257 285 258 (lsM longL) := ⟨by omega, by omega, by omega, by omega, by decide, .inr (by decide), by decide, by decide⟩
theorem far_ok9 : KndOk 1 32768 0 29 0 (lsM farL) := ⟨by omega, by omega, by omega, by omega, by decide, .inl (by decide), by decide, by decide⟩
/-- The numbers of a kind are the table's. -/
theorem long_tab : ∀ b, b < 14 → ∀ z, z < lsM longL b → smC (lsM longL) b + z < 28 ∧ longT (smC (lsM longL) b + z) = 3 + (smS (lsM longL) b + z * p2N b) ∧ longX (smC (lsM longL) b + z) = b := by decide +kernel
theorem far_tab : ∀ b, b < 14 → ∀ z, z < lsM farL b → smC (lsM farL) b + z < 30 ∧ farT (smC (lsM farL) b + z) = 1 + (smS (lsM farL) b + z * p2N b) ∧ farX (smC (lsM farL) b + z) = b := by decide +kernel
/-- What begin tells of a length's symbol. -/
theorem bg_long {y L : Int} {b : Nat} (hy : 257 ≤ y ∧ y ≤ 285) (h : BgN 3 257 285 258 (lsM longL) y L b) : L = ((longT (y - 257).toNat : Nat) : Int) ∧ b = longX (y - 257).toNat := by
  rcases h with ⟨_, rfl, rfl, rfl⟩ | ⟨_, z, hb, hz, hy2, hL⟩
  · exact ⟨rfl, rfl⟩
  · obtain ⟨h1, h2, h3⟩ := long_tab b hb z hz
    have e : (y - 257).toNat = smC (lsM longL) b + z := by omega
    rw [e, h2, h3, hL]
    exact ⟨by omega, rfl⟩
theorem bg_far {y L : Int} {b : Nat} (hy : 0 ≤ y ∧ y ≤ 29) (h : BgN 1 0 29 0 (lsM farL) y L b) : L = ((farT y.toNat : Nat) : Int) ∧ b = farX y.toNat := by
  rcases h with ⟨h0, _⟩ | ⟨_, z, hb, hz, hy2, hL⟩
  · exact absurd rfl h0
  · obtain ⟨h1, h2, h3⟩ := far_tab b hb z hz
    have e : y.toNat = smC (lsM farL) b + z := by omega
    rw [e, h2, h3, hL]
    exact ⟨by omega, rfl⟩
end Go.Proofs.Ytdecacajignkoaa
