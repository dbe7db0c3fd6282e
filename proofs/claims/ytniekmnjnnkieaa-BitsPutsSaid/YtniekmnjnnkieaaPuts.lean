/-
  For every pen, number and bit count: the law BitsPuts returns true, and its arguments read as they did. No condition beside the statement's own.
-/
import Derived.Test.YtniekmnjnnkieaaPts
import Derived.Deep.RegionHeld3
import Derived.BigRegion
namespace Go.Proofs.Ytniekmnjnnkieaa
open Go.RowKit Go.ChangeShapes Go.WideShapes Go.ChangeAt
set_option maxHeartbeats 1000000 in
theorem puts_long (A : Option Addr) (l c : Nat) (k m : Int) (v : Nat) (w : World) (hlt : 10000 < l) :
    Calls Try.prog 5 #[.agg #[.slice A l c, .int .i64 k], .int .u32 (v : Int), .int .i64 m] w fun e w' => e = .returned (.bool true) ∧ Below w.heap.size w w' := by
  go_enter Try.func5, Try.ntmps5
  go_wp2
  go_ret
  exact ⟨rfl, (Below.refl _ _).alloc (Nat.le_refl _) _⟩
theorem own_lo {w : World} {B c : Nat} {A : Option Addr} {L : Nat} {G : Nat → Nat} (h : Out w B A L G) : ∀ g, (Value.slice A L c).ownBlock = some g → B ≤ g := by
  intro g hg
  rcases h with ⟨rfl, _⟩ | ⟨g', rfl, hb, _⟩
  · simp [Value.ownBlock] at hg
  · simp [Value.ownBlock] at hg; omega
theorem own_hi {w : World} {B c : Nat} {A : Option Addr} {L : Nat} {G : Nat → Nat} (h : Out w B A L G) : ∀ g, (Value.slice A L c).ownBlock = some g → g < w.heap.size := by
  intro g hg
  rcases h with ⟨rfl, _⟩ | ⟨g', rfl, _, hr⟩
  · simp [Value.ownBlock] at hg
  · simp [Value.ownBlock] at hg; have := hr.lt; omega
/-- The row of an answer while its bytes are written over. -/
def Over (w : World) (A : Option Addr) (L : Nat) : Prop := 0 < L → ∃ g G, A = some ⟨g, 0, none⟩ ∧ Row w g L G ∧ ∀ j, G j < 256
theorem Out.over {w : World} {B : Nat} {A : Option Addr} {L : Nat} {G : Nat → Nat} (h : Out w B A L G) (hG : ∀ j, G j < 256) : Over w A L := by
  intro hL
  rcases h with ⟨_, rfl⟩ | ⟨g, rfl, _, hr⟩
  · omega
  · exact ⟨g, G, rfl, hr, hG⟩
theorem Out.grown {w w' : World} {B : Nat} {A : Option Addr} {L : Nat} {G : Nat → Nat} {row : Option Nat} (h : Out w B A L G) (hg : w.grownBy w' row) (hr : ∀ r, row = some r → r < B) : Out w' B A L G := by
  rcases h with h | ⟨g, rfl, hb, hrow⟩
  · exact .inl h
  · exact .inr ⟨g, rfl, hb, (hg.block g hrow.lt (fun e => by have := hr _ e.symm; omega)).trans hrow⟩
theorem Over.step {w : World} {g L i : Nat} {G : Nat → Nat} (hr : Row w g L G) (hG : ∀ j, G j < 256) : Over (w.setCell ⟨g, i, none⟩ (.int .u8 ((((G i : Nat) : Int) + 1) % 256))).drew (some ⟨g, 0, none⟩) L := by
  intro _
  refine ⟨g, upd G i ((G i + 1) % 256), rfl, ?_, fun j => ?_⟩
  · have := hr.set i ((G i + 1) % 256)
    exact this
  · unfold upd; split
    · omega
    · exact hG j
theorem grown_step {w w' : World} {g i : Nat} {u : Value} {row : Option Nat} (h : w.grownBy w' row) (hrow : row = some g) : w.grownBy (w'.setCell ⟨g, i, none⟩ u).drew row := by
  subst hrow
  exact ⟨h.os, h.tape, h.output, by simpa [World.setCell] using h.size, fun b hb hne => (Below.heap_setCell w' ⟨g, i, none⟩ u b (fun e => hne (by rw [e]))).trans (h.block b hb hne)⟩
def pairObj (A : Option Addr) (n c : Nat) (k : Int) : Obj := .cells #[.slice A n c, .int .i64 k] 28
set_option maxRecDepth 100000 in
set_option maxHeartbeats 2000000 in
theorem puts_walk (A : Option Addr) (l c : Nat) (f : Nat → Nat) (k : Int) (v : Nat) (m : Int) (w : World) (hr : RdB w w.heap.size A l f) (hA : A = none → c = 0) (hlt : l ≤ 10000)
    (hv : v < 4294967296) (hn0 : -9223372036854775808 ≤ m) (hn1 : m ≤ 9223372036854775807) :
    Calls Try.prog 5 #[.agg #[.slice A l c, .int .i64 k], .int .u32 (v : Int), .int .i64 m] w fun e w' => e = .returned (.bool true) ∧ Below w.heap.size w w' := by
  obtain ⟨L, K, E, G, hG, hL, h14, h20⟩ := put_both f l k m v hr.1 hv hn0 hn1
  obtain ⟨L2, K2, E2, G2, hG2, hL2, h12, h21⟩ := align_both f l k hr.1
  have HR := Lib.hid hr; have HA := Lib.hid hA; have HG := Lib.hid hG; have HG2 := Lib.hid hG2
  have H14 := Lib.hid h14; have H20 := Lib.hid h20; have H12 := Lib.hid h12; have H21 := Lib.hid h21
  clear hr hA hG hG2 h14 h20 h12 h21
  go_enter Try.func5, Try.ntmps5
  go_wp2_with fail
  refine (twin_any _ A l c f k ((HR.out.below ((Below.refl _ _).alloc (Nat.le_refl _) _) (Nat.le_refl _)).more (by simp)) (by omega) HA.out).mono ?_
  rintro e w2 ⟨Ao, co, rfl, ho, hb⟩
  have hs2 : w.heap.size < w2.heap.size := by have := hb.size; simp at this; omega
  have HB2 := Lib.hid (((Below.refl w.heap.size w).alloc (Nat.le_refl _) _).trans (hb.mono (by simp)))
  have HP2 := Lib.hid ((hb.block w.heap.size (by simp)).trans (heap_alloc_new w _))
  have HO2 := Lib.hid (RdB.of_own ho HR.out.1)
  clear ho hb
  obtain ⟨k2, k3, k4, k5⟩ := pair_cells HP2.out
  go_wp2_with fail
  refine (H14.out _ Ao co ((HO2.out.below ((Below.refl _ _).alloc (Nat.le_refl _) _) (Nat.le_refl _)).more (by simp))).mono ?_
  rintro e w3 ⟨Ax, cx, rfl, hx, hb⟩
  simp only [World.size_alloc] at hx
  have hs3 : w2.heap.size < w3.heap.size := by have := hb.size; simp at this; omega
  have hl_w_w3 : w.heap.size < w3.heap.size := by omega
  have hl_w2_w3 : w2.heap.size < w3.heap.size := by omega
  have HB3 := Lib.hid ((Below.refl w2.heap.size w2).alloc (Nat.le_refl _) (pairObj Ao l co k) |>.trans (hb.mono (by simp)))
  have HP3 := Lib.hid ((HB3.out.block w.heap.size hs2).trans HP2.out)
  have HO3 := Lib.hid ((hb.block w2.heap.size (by simp)).trans (heap_alloc_new w2 _))
  have HX3 := Lib.hid hx
  clear hb hx k2 k3 k4 k5
  obtain ⟨k2, k3, k4, k5⟩ := pair_cells HP3.out
  obtain ⟨o2, o3, o4, o5⟩ := pair_cells HO3.out
  go_wp2_with fail
  refine (H20.out _ A c ((HR.out.below ((HB2.out.trans (HB3.out.mono (by omega))).alloc (by omega) _) (Nat.le_refl _)).more (by simp; omega)) HA.out).mono ?_
  rintro e w4 ⟨Ay, cy, rfl, hy, hb⟩
  have hs4 : w3.heap.size < w4.heap.size := by have := hb.size; simp at this; omega
  have hl_w_w4 : w.heap.size < w4.heap.size := by omega
  have hl_w2_w4 : w2.heap.size < w4.heap.size := by omega
  have hl_w3_w4 : w3.heap.size < w4.heap.size := by omega
  have HB4 := Lib.hid ((Below.refl w3.heap.size w3).alloc (Nat.le_refl _) (pairObj Ax L cx K) |>.trans (hb.mono (by simp)))
  have HP4 := Lib.hid ((HB4.out.block w.heap.size (by omega)).trans HP3.out)
  have HO4 := Lib.hid ((HB4.out.block w2.heap.size hs3).trans HO3.out)
  have HXC4 := Lib.hid ((hb.block w3.heap.size (by simp)).trans (heap_alloc_new w3 _))
  have HX4 := Lib.hid (HX3.out.below HB4.out (Nat.le_refl _))
  have HY4 := Lib.hid hy
  clear hb hy k2 k3 k4 k5 o2 o3 o4 o5
  obtain ⟨k2, k3, k4, k5⟩ := pair_cells HP4.out
  obtain ⟨o2, o3, o4, o5⟩ := pair_cells HO4.out
  have HBO4 := Lib.hid (HB3.out.trans (HB4.out.mono (by omega)))
  go_wp2_with fail
  refine (H12.out _ Ao co ((HO2.out.below (HBO4.out.alloc (by omega) _) (Nat.le_refl _)).more (by simp; omega))).mono ?_
  rintro e w5 ⟨Aa, ca, rfl, ha, hb⟩
  simp only [World.size_alloc] at ha
  have hs5 : w4.heap.size < w5.heap.size := by have := hb.size; simp at this; omega
  have hl_w_w5 : w.heap.size < w5.heap.size := by omega
  have hl_w2_w5 : w2.heap.size < w5.heap.size := by omega
  have hl_w3_w5 : w3.heap.size < w5.heap.size := by omega
  have hl_w4_w5 : w4.heap.size < w5.heap.size := by omega
  have HB5 := Lib.hid ((Below.refl w4.heap.size w4).alloc (Nat.le_refl _) (pairObj Ay L cy K) |>.trans (hb.mono (by simp)))
  have HP5 := Lib.hid ((HB5.out.block w.heap.size (by omega)).trans HP4.out)
  have HO5 := Lib.hid ((HB5.out.block w2.heap.size (by omega)).trans HO4.out)
  have HXC5 := Lib.hid ((HB5.out.block w3.heap.size hs4).trans HXC4.out)
  have HYC5 := Lib.hid ((hb.block w4.heap.size (by simp)).trans (heap_alloc_new w4 _))
  have HX5 := Lib.hid (HX4.out.below HB5.out (Nat.le_refl _))
  have HY5 := Lib.hid (HY4.out.below HB5.out (Nat.le_refl _))
  have HA5 := Lib.hid ha
  clear hb ha k2 k3 k4 k5 o2 o3 o4 o5
  obtain ⟨k2, k3, k4, k5⟩ := pair_cells HP5.out
  have HBP5 := Lib.hid (HB2.out.trans (HBO4.out.mono (by omega)) |>.trans (HB5.out.mono (by omega)))
  go_wp2_with fail
  refine (H21.out _ A c ((HR.out.below (HBP5.out.alloc (by omega) _) (Nat.le_refl _)).more (by simp; omega)) HA.out).mono ?_
  rintro e w6 ⟨Ab, cb, rfl, hbb, hb⟩
  have hs6 : w5.heap.size < w6.heap.size := by have := hb.size; simp at this; omega
  have hl_w_w6 : w.heap.size < w6.heap.size := by omega
  have hl_w2_w6 : w2.heap.size < w6.heap.size := by omega
  have hl_w3_w6 : w3.heap.size < w6.heap.size := by omega
  have hl_w4_w6 : w4.heap.size < w6.heap.size := by omega
  have hl_w5_w6 : w5.heap.size < w6.heap.size := by omega
  have HB6 := Lib.hid ((Below.refl w5.heap.size w5).alloc (Nat.le_refl _) (pairObj Aa L2 ca K2) |>.trans (hb.mono (by simp)))
  have HAC6 := Lib.hid ((hb.block w5.heap.size (by simp)).trans (heap_alloc_new w5 _))
  have HBB6 := Lib.hid hbb
  clear hb hbb k2 k3 k4 k5
  go_wp2_with fail
  obtain ⟨U, hU⟩ : ∃ U, U = w6.alloc (.cells #[.slice Ab L2 cb, .int .i64 K2] 28) := ⟨_, rfl⟩
  have hBU : Below w6.heap.size w6 U := by rw [hU]; exact (Below.refl _ _).alloc (Nat.le_refl _) _
  have hsU : w6.heap.size < U.heap.size := by rw [hU]; simp
  have HPU := Lib.hid ((hBU.block w.heap.size (by omega)).trans ((HB6.out.block w.heap.size (by omega)).trans HP5.out))
  have HOU := Lib.hid ((hBU.block w2.heap.size (by omega)).trans ((HB6.out.block w2.heap.size (by omega)).trans HO5.out))
  have HXU := Lib.hid ((hBU.block w3.heap.size (by omega)).trans ((HB6.out.block w3.heap.size (by omega)).trans HXC5.out))
  have HYU := Lib.hid ((hBU.block w4.heap.size (by omega)).trans ((HB6.out.block w4.heap.size (by omega)).trans HYC5.out))
  have HAU := Lib.hid ((hBU.block w5.heap.size (by omega)).trans HAC6.out)
  have HBU : Hid (U.heap[w6.heap.size]? = some (.cells #[.slice Ab L2 cb, .int .i64 K2] 28 (0, 0))) := Lib.hid (by rw [hU]; exact heap_alloc_new _ _)
  have XU := Lib.hid ((HX5.out.below HB6.out (Nat.le_refl _)).below hBU (Nat.le_refl _))
  have YU := Lib.hid ((HY5.out.below HB6.out (by omega)).below hBU (by omega))
  have AU := Lib.hid ((HA5.out.below HB6.out (Nat.le_refl _)).below hBU (Nat.le_refl _))
  have BU := Lib.hid (HBB6.out.below hBU (Nat.le_refl _))
  have OU := Lib.hid (((HO2.out.below HBO4.out (Nat.le_refl _)).below (HB5.out.mono (B' := w2.heap.size) (by omega)) (Nat.le_refl _)).below ((HB6.out.mono (B' := w2.heap.size) (by omega)).trans (hBU.mono (by omega))) (Nat.le_refl _))
  have PU := Lib.hid ((HR.out.below HBP5.out (Nat.le_refl _)).below ((HB6.out.mono (B' := w.heap.size) (by omega)).trans (hBU.mono (by omega))) (Nat.le_refl _))
  have BWU := Lib.hid ((HBP5.out.trans (HB6.out.mono (by omega))).trans (hBU.mono (by omega)))
  rw [← hU]
  have hw2U : w2.heap.size < U.heap.size := by omega
  have hw3U : w3.heap.size < U.heap.size := by omega
  have hw4U : w4.heap.size < U.heap.size := by omega
  have hw5U : w5.heap.size < U.heap.size := by omega
  have hwU : w.heap.size < U.heap.size := by omega
  have SIX : ∀ V : World, Below U.heap.size U V →
      (V.cell? ⟨w3.heap.size, 0, none⟩ = some (.slice Ax L cx) ∧ V.cell? ⟨w3.heap.size, 1, none⟩ = some (.int .i64 K)) ∧ (V.cell? ⟨w4.heap.size, 0, none⟩ = some (.slice Ay L cy) ∧ V.cell? ⟨w4.heap.size, 1, none⟩ = some (.int .i64 K)) ∧
      (V.cell? ⟨w5.heap.size, 0, none⟩ = some (.slice Aa L2 ca) ∧ V.cell? ⟨w5.heap.size, 1, none⟩ = some (.int .i64 K2)) ∧ (V.cell? ⟨w6.heap.size, 0, none⟩ = some (.slice Ab L2 cb) ∧ V.cell? ⟨w6.heap.size, 1, none⟩ = some (.int .i64 K2)) ∧
      (V.cell? ⟨w2.heap.size, 0, none⟩ = some (.slice Ao l co) ∧ V.cell? ⟨w2.heap.size, 1, none⟩ = some (.int .i64 k)) ∧ V.cell? ⟨w.heap.size, 0, none⟩ = some (.slice A l c) ∧ V.cell? ⟨w.heap.size, 1, none⟩ = some (.int .i64 k) := fun V hV => by
    have p1 := pair_cells ((hV.block _ hw3U).trans HXU.out)
    have p2 := pair_cells ((hV.block _ hw4U).trans HYU.out)
    have p3 := pair_cells ((hV.block _ hw5U).trans HAU.out)
    have p4 := pair_cells ((hV.block _ hsU).trans HBU.out)
    have p5 := pair_cells ((hV.block _ hw2U).trans HOU.out)
    have p6 := pair_cells ((hV.block _ hwU).trans HPU.out)
    exact ⟨⟨p1.1, p1.2.1⟩, ⟨p2.1, p2.2.1⟩, ⟨p3.1, p3.2.1⟩, ⟨p4.1, p4.2.1⟩, ⟨p5.1, p5.2.1⟩, p6.1, p6.2.1⟩
  have S1 : ∀ V : World, Below U.heap.size U V → Calls Try.prog 22 #[.agg #[.slice Ax L cx, .int .i64 K], .agg #[.slice Ay L cy, .int .i64 K]] V fun e V' => e = .returned (.bool true) ∧ Below U.heap.size U V' := fun V hV =>
    (same_yes V Ax Ay L L cx cy G G K (((XU.out.rd HG.out).below hV (Nat.le_refl _)).more hV.size) ((YU.out.below hV (by omega)).more (by have := hV.size; omega)) rfl).mono fun _ _ ⟨a, b⟩ => ⟨a, hV.trans (b.mono hV.size)⟩
  have S2 : ∀ V : World, Below U.heap.size U V → Calls Try.prog 22 #[.agg #[.slice Aa L2 ca, .int .i64 K2], .agg #[.slice Ab L2 cb, .int .i64 K2]] V fun e V' => e = .returned (.bool true) ∧ Below U.heap.size U V' := fun V hV =>
    (same_yes V Aa Ab L2 L2 ca cb G2 G2 K2 (((AU.out.rd HG2.out).below hV (Nat.le_refl _)).more hV.size) ((BU.out.below hV (by omega)).more (by have := hV.size; omega)) rfl).mono fun _ _ ⟨a, b⟩ => ⟨a, hV.trans (b.mono hV.size)⟩
  have S3 : ∀ V : World, Below U.heap.size U V → Calls Try.prog 16 #[.agg #[.slice Ao l co, .int .i64 k]] V fun e V' => e = .returned (.int .i64 (checkE f l k)) ∧ Below U.heap.size U V' := fun V hV =>
    (check_any V Ao l co f k ((OU.out.below hV (by omega)).more (by have := hV.size; omega))).mono fun _ _ ⟨a, b⟩ => ⟨a, hV.trans (b.mono hV.size)⟩
  have S4 : ∀ V : World, Below U.heap.size U V → Calls Try.prog 23 #[.agg #[.slice A l c, .int .i64 k]] V fun e V' => e = .returned (.int .i64 (checkE f l k)) ∧ Below U.heap.size U V' := fun V hV =>
    (rcheck_any V A l c f k ((PU.out.below hV (by omega)).more (by have := hV.size; omega))).mono fun _ _ ⟨a, b⟩ => ⟨a, hV.trans (b.mono hV.size)⟩
  have hUU : Below U.heap.size U U.drew := (Below.refl _ _).drew
  have H6 := Lib.hid SIX; have T1 := Lib.hid S1; have T2 := Lib.hid S2; have T3 := Lib.hid S3; have T4 := Lib.hid S4; have HU := Lib.hid hU; have HBBU := Lib.hid hBU
  clear SIX S1 S2 S3 S4 hU hBU
  have n1 : (E != E) = false := by simp
  have n2 : (E2 != E2) = false := by simp
  have n3 : (checkE f l k != checkE f l k) = false := by simp
  go_region_held3 (fun V => (V.cell? ⟨w3.heap.size, 0, none⟩ = some (.slice Ax L cx) ∧ V.cell? ⟨w3.heap.size, 1, none⟩ = some (.int .i64 K)) ∧ (V.cell? ⟨w4.heap.size, 0, none⟩ = some (.slice Ay L cy) ∧ V.cell? ⟨w4.heap.size, 1, none⟩ = some (.int .i64 K)) ∧
      (V.cell? ⟨w5.heap.size, 0, none⟩ = some (.slice Aa L2 ca) ∧ V.cell? ⟨w5.heap.size, 1, none⟩ = some (.int .i64 K2)) ∧ (V.cell? ⟨w6.heap.size, 0, none⟩ = some (.slice Ab L2 cb) ∧ V.cell? ⟨w6.heap.size, 1, none⟩ = some (.int .i64 K2)) ∧
      (V.cell? ⟨w2.heap.size, 0, none⟩ = some (.slice Ao l co) ∧ V.cell? ⟨w2.heap.size, 1, none⟩ = some (.int .i64 k)) ∧ V.cell? ⟨w.heap.size, 0, none⟩ = some (.slice A l c) ∧ V.cell? ⟨w.heap.size, 1, none⟩ = some (.int .i64 k))
    (exact H6.out _ (by first | assumption | exact Below.drew (by assumption) | exact Below.refl _ _))
    (first
      | (go_at_call_of 22 Ax; refine (T1.out _ ?_).mono ?_; assumption; rintro e V1 ⟨rfl, hV1⟩)
      | (go_at_call_of 22 Aa; refine (T2.out _ ?_).mono ?_; assumption; rintro e V2 ⟨rfl, hV2⟩)
      | (go_at_call 16; refine (T3.out _ ?_).mono ?_; assumption; rintro e V3 ⟨rfl, hV3⟩)
      | (go_at_call 23; refine (T4.out _ ?_).mono ?_; assumption; rintro e V4 ⟨rfl, hV4⟩))
  clear hV1 hV2 hV3 n1 n2 n3 hUU
  have HV := Lib.hid hV4
  clear hV4
  have hwV : U.heap.size ≤ V4.heap.size := HV.out.size
  go_wp2
  go_loopw [16] (fun t wr => ∃ i : Nat, i ≤ L ∧ t = .int .i64 i ∧ V4.grownBy wr (Value.slice Ax L cx).ownBlock ∧ Over wr Ax L) (fun t _ => L - (intOf t).toNat)
  case atStart => exact ⟨0, Nat.zero_le _, rfl, World.grownBy.refl _ _, (XU.out.below HV.out (Nat.le_refl _)).over HG.out⟩
  case round =>
    obtain ⟨i, hi, rfl, hgr, hov⟩ := hrel
    have hlo := own_lo (c := cx) HX3.out
    have hhi := own_hi (c := cx) HX3.out
    have hblk : wr.heap[w3.heap.size]? = some (.cells #[.slice Ax L cx, .int .i64 K] 28 (0, 0)) := by
      rw [hgr.block w3.heap.size (by omega) (fun e => by have := hhi _ e.symm; omega)]
      exact (HV.out.block _ hw3U).trans HXU.out
    obtain ⟨j2, j3, j4, j5⟩ := pair_cells hblk
    have HGR := Lib.hid hgr; have HLO := Lib.hid hlo; have HHI := Lib.hid hhi; have HOV := Lib.hid hov
    have hszr : V4.heap.size ≤ wr.heap.size := hgr.size
    clear hgr hlo hhi hblk hov
    by_cases hlt2 : i < L
    · obtain ⟨g, G', hAx, hrow, hG'⟩ := HOV.out (by omega)
      subst hAx
      have hcell := hrow.cell hlt2
      have hfz := hrow.frozen i
      have hgr3 : g < w3.heap.size := HHI.out g rfl
      have hb8 := hG' i
      have HROW := Lib.hid hrow; have HG' := Lib.hid hG'
      clear hrow hG'
      go_wp2
      go_region
      go_wp2
      go_roundw
      case rel => exact ⟨i + 1, hlt2, by go_num, grown_step HGR.out rfl, Over.step HROW.out HG'.out⟩
      case measure => simp [intOf]; omega
    · obtain rfl : i = L := by omega
      obtain ⟨wo, hwo⟩ : ∃ wo : World, wo = wr := ⟨_, rfl⟩
      rw [← hwo] at HGR HOV j2 j3 j4 j5 hszr ⊢
      clear hwo
      go_wp2
      have HGX := Lib.hid HGR.out
      go_loopw [17] (fun t ws => ∃ i : Nat, i ≤ L2 ∧ t = .int .i64 i ∧ wo.grownBy ws (Value.slice Aa L2 ca).ownBlock ∧ Over ws Aa L2) (fun t _ => L2 - (intOf t).toNat)
      case atStart =>
        refine ⟨0, Nat.zero_le _, rfl, World.grownBy.refl _ _, ?_⟩
        have h1 := (AU.out.below HV.out (Nat.le_refl _)).grown HGX.out (fun r hr => by have := HHI.out r hr; omega)
        exact h1.over HG2.out
      case round =>
        obtain ⟨i2, hi2, rfl, hgr, hov⟩ := hrel
        have hlo := own_lo (c := ca) HA5.out
        have hhi := own_hi (c := ca) HA5.out
        have hw5o : w5.heap.size < wo.heap.size := by omega
        have hblk : wr.heap[w5.heap.size]? = some (.cells #[.slice Aa L2 ca, .int .i64 K2] 28 (0, 0)) := by
          rw [hgr.block w5.heap.size hw5o (fun e => by have := hhi _ e.symm; omega), HGX.out.block w5.heap.size (by omega) (fun e => by have := HHI.out _ e.symm; omega)]
          exact (HV.out.block _ hw5U).trans HAU.out
        clear j2 j3 j4 j5
        obtain ⟨j2, j3, j4, j5⟩ := pair_cells hblk
        have HGA := Lib.hid hgr; have HLOA := Lib.hid hlo; have HHIA := Lib.hid hhi; have HOVA := Lib.hid hov
        have hszs : wo.heap.size ≤ wr.heap.size := hgr.size
        clear hgr hlo hhi hblk hov
        by_cases hlt3 : i2 < L2
        · obtain ⟨g, G', hAa, hrow, hG'⟩ := HOVA.out (by omega)
          subst hAa
          have hcell := hrow.cell hlt3
          have hfz := hrow.frozen i2
          have hgr5 : g < w5.heap.size := HHIA.out g rfl
          have hb8 := hG' i2
          have HROW := Lib.hid hrow; have HG' := Lib.hid hG'
          clear hrow hG'
          go_wp2
          go_region
          go_wp2
          go_roundw
          case rel => exact ⟨i2 + 1, hlt3, by go_num, grown_step HGA.out rfl, Over.step HROW.out HG'.out⟩
          case measure => simp [intOf]; omega
        · have hpb : wr.heap[w.heap.size]? = some (.cells #[.slice A l c, .int .i64 k] 28 (0, 0)) := by
            rw [HGA.out.block w.heap.size (by omega) (fun e => by have := HLOA.out _ e.symm; omega), HGX.out.block w.heap.size (by omega) (fun e => by have := HLO.out _ e.symm; omega)]
            exact (HV.out.block _ hwU).trans HPU.out
          have hob : wr.heap[w2.heap.size]? = some (.cells #[.slice Ao l co, .int .i64 k] 28 (0, 0)) := by
            rw [HGA.out.block w2.heap.size (by omega) (fun e => by have := HLOA.out _ e.symm; omega), HGX.out.block w2.heap.size (by omega) (fun e => by have := HLO.out _ e.symm; omega)]
            exact (HV.out.block _ hw2U).trans HOU.out
          have rp := (((PU.out.below HV.out (by omega)).grown HGX.out (by omega) (fun r hr => by have := HLO.out r hr; omega)).grown HGA.out (by omega) (fun r hr => by have := HLOA.out r hr; omega)).more (B' := wr.heap.size) (by omega)
          have ro := (((OU.out.below HV.out (by omega)).grown HGX.out (by omega) (fun r hr => by have := HLO.out r hr; omega)).grown HGA.out (by omega) (fun r hr => by have := HLOA.out r hr; omega)).more (B' := wr.heap.size) (by omega)
          have RP := Lib.hid rp; have RO := Lib.hid ro
          have BE := Lib.hid (((BWU.out.trans (HV.out.mono (by omega))).grown HGX.out (by omega) (fun r hr => by have := HLO.out r hr; omega)).grown HGA.out (by omega) (fun r hr => by have := HLOA.out r hr; omega))
          obtain ⟨p2, p3, p4, p5⟩ := pair_cells hpb
          obtain ⟨o2, o3, o4, o5⟩ := pair_cells hob
          have hsw : w.heap.size ≤ wr.heap.size := by omega
          clear hpb hob rp ro
          go_wp2_with fail
          refine (same_yes wr Ao A l l co c f f k RO.out RP.out rfl).mono ?_
          rintro e w9 ⟨rfl, hb9⟩
          have HB9 := Lib.hid hb9
          clear hb9
          go_wp2
          go_ret
          exact ⟨rfl, BE.out.trans (HB9.out.mono hsw)⟩
theorem puts_all (A : Option Addr) (l c : Nat) (f : Nat → Nat) (k : Int) (v : Nat) (m : Int) (w : World) (hr : RdB w w.heap.size A l f) (hA : A = none → c = 0) (_ : -9223372036854775808 ≤ k) (_ : k ≤ 9223372036854775807)
    (hv : v < 4294967296) (hn0 : -9223372036854775808 ≤ m) (hn1 : m ≤ 9223372036854775807) :
    Calls Try.prog 5 #[.agg #[.slice A l c, .int .i64 k], .int .u32 (v : Int), .int .i64 m] w fun e w' => e = .returned (.bool true) ∧ Below w.heap.size w w' := by
  by_cases hlt : l ≤ 10000
  · exact puts_walk A l c f k v m w hr hA hlt hv hn0 hn1
  · exact puts_long A l c k m v w (by omega)
set_option maxRecDepth 100000 in
theorem puts_all_lifted (os : Os) (started : os.Started) (H : Type) (enc : TypeId × Value → H) :
    ReturnsInHanded {} Try.checked os 5 .any (Rows.bitsPutsSpec.pre6 enc Try.prog Try.f5 Rows.bitsPutsRow.domain false) (Rows.bitsPutsSpec.post enc Try.prog Try.f5 false true false false) := by
  refine returnsInHanded_of_change (C := Try.checked) own started (by kernel_rfl) Try.func5
    (ChangeSpec.witness6 (enc := enc) (C := Try.checked) false ⟨#[], #[.agg #[.slice none 0 0, .int .i64 0], .int .u32 0, .int .i64 0], []⟩ 8 (by kernel_rfl) (by kernel_rfl) (by kernel_rfl) (by kernel_rfl)) ?_
  intro W base args ds gs before hval0 hW _ _
  have hval : ∀ (j : Nat) t v, Try.f5.params[j]? = some t → args[j]? = some v → Value.okWide Try.prog W .any base t v := hval0
  have hW' := hW
  obtain ⟨p, q, hA0, hV, rfl, _, _⟩ := hW
  have hA : DataW.TrodAll enc Try.prog W 0 (fun _ => true) true Try.f5.params.toList args.toList ds p := hA0
  rw [Try.params5] at hA hval
  obtain ⟨v0, vs0, d0, ds0, p0, q0, hargs, rfl, rfl, h0, r0⟩ := trodAll_cons hA
  obtain ⟨v1, vs1, d1, ds1, p1, q1, rfl, rfl, rfl, h1, r1⟩ := trodAll_cons r0
  obtain ⟨v2, vs2, d2, ds2, p2, q2, rfl, rfl, rfl, h2, r2⟩ := trodAll_cons r1
  obtain ⟨rfl, rfl, rfl⟩ := trodAll_nil r2
  obtain rfl : args = #[v0, v1, v2] := by cases args; simp_all
  obtain ⟨rfl, rfl⟩ := trodVars_none hV
  have k0 := h0
  have lt0 : ∀ x ∈ p0, x.block < W.heap.size := by obtain ⟨m, hm⟩ := k0; exact DataW.trod_lt m _ _ _ hm
  obtain ⟨A0, len0, cap0, f0, a0, rfl, hr0, hn0, u0⟩ := open_pen (hval 0 28 v0 rfl rfl) h0
  have k1 := h1
  have lt1 : ∀ x ∈ p1, x.block < W.heap.size := by obtain ⟨m, hm⟩ := k1; exact DataW.trod_lt m _ _ _ hm
  obtain ⟨a1, rfl, rfl, rfl, w1⟩ := open_int Try.underlying23 (hval 1 23 v1 rfl rfl) h1
  have u1 := wf_u32_range w1
  obtain ⟨a1, rfl⟩ := Int.eq_ofNat_of_zero_le u1.1
  have k2 := h2
  have lt2 : ∀ x ∈ p2, x.block < W.heap.size := by obtain ⟨m, hm⟩ := k2; exact DataW.trod_lt m _ _ _ hm
  obtain ⟨a2, rfl, rfl, rfl, w2⟩ := open_int Try.underlying3 (hval 2 3 v2 rfl rfl) h2
  have u2 := wf_i64_range w2
  clear hA0 hval0
  refine (puts_all A0 len0 cap0 f0 a0 a1 a2 W hr0 hn0 u0.1 u0.2 (by omega) u2.1 u2.2).mono fun e W' ⟨he, bel⟩ => ?_
  subst he
  exact ⟨_, rfl, _, _, _, [], _, [], hW', trodAll_mk1 (shut_bool Try.underlying4 _), (trodAll_cons_mk (Below.trod laidOut (by kernel_rfl) (of_decide_eq_true (by kernel_rfl)) k0 bel lt0) (trodAll_cons_mk (Below.trod laidOut (by kernel_rfl) (of_decide_eq_true (by kernel_rfl)) k1 bel lt1) (trodAll_cons_mk (Below.trod laidOut (by kernel_rfl) (of_decide_eq_true (by kernel_rfl)) k2 bel lt2) trodAll_mk0))), rfl, bel.frame _, fun h => by cases h⟩
theorem puts_all_holds : Rows.BitsPutsSaid :=
  OpenClaim.holds_of_wide 5 Try.f5 rfl rfl rfl rfl rfl rfl rfl ⟨rfl, rfl, rfl, rfl, rfl⟩ rfl rfl rfl rfl rfl (by kernel_rfl) Try.func5 (by kernel_rfl)
    (of_decide_eq_true (by kernel_rfl)) (by unfold Func.isWrapper; first | (rw [if_pos (by decide +kernel)]; kernel_rfl) | (rw [if_neg (by decide +kernel)]; exact ⟨rfl, rfl⟩))
    (fun os started H enc _ => puts_all_lifted os started H enc)
#print axioms puts_all_holds
end Go.Proofs.Ytniekmnjnnkieaa
