/-
  Layer 5 (tree): what the document's own Check and Next answer.
-/
import Derived.Test.YtedjapamimhglaaTreeLen
import Derived.Test.YtedjapamimhglaaTreeRrd
namespace Go.Proofs.Ytedjapamimhglaa
open Go.RowKit
/-- Whether a tree may be. -/
def ChkOut (c : Nat → Int) (s : List Int) (e : Ending) : Prop := ((∃ f, IsTree c s f) ∧ e = .returned (.int .i64 0)) ∨ ((∀ f, ¬ IsTree c s f) ∧ e = .returned (.int .i64 8))
/-- What is read of a tree. -/
def nxtP (f : Nat → Nat) (g : Nat → Nat) (l : Nat) (a : Int) : Nat × Nat × Int := if a < 0 then (0, 0, 2) else readR f 320 g l a.toNat 17 0
def NxtOut (c : Nat → Int) (s : List Int) (g : Nat → Nat) (l : Nat) (a : Int) (e : Ending) : Prop :=
  (∃ f, IsTree c s f ∧ e = .returned (RdOut (nxtP f g l a))) ∨ ((∀ f, ¬ IsTree c s f) ∧ e = .returned (RdOut (0, 0, 8)))
theorem box_tree (w : World) (c : Nat → Int) (v : Value) : TreA (w.alloc (.cells (trA c v) 25)) w.heap.size c v := heap_alloc_new w _
set_option maxRecDepth 100000 in
set_option maxHeartbeats 2000000 in
theorem rchk5_any (w : World) (c : Nat → Int) (v : Value) (s : List Int) (hv : RdS w w.heap.size v s) (hs : s.length ≤ 1000000000) :
    Calls Try.prog 18 #[.agg (trA c v)] w fun e w' => ChkOut c s e ∧ Below w.heap.size w w' := by
  have hb := (Below.refl w.heap.size w).alloc (Nat.le_refl _) (.cells (trA c v) 25)
  have hcl := rlens_any (w.alloc (.cells (trA c v) 25)) c v s ((hv.below hb (Nat.le_refl _)).more hb.size) hs
  have HCL := Lib.hid hcl; have HB := Lib.hid hb; have HT := Lib.hid (box_tree w c v)
  clear hcl hb
  go_enter Try.func18, Try.ntmps18
  go_wp2_with (refine wpList_load_row rfl _ _ rfl w.heap.size rfl _ (trA c v) (0, 0) _ HT.out Try.underlying25 rfl (by rw [trA_size]; exact szTree) ?_)
  refine HCL.out.mono ?_
  rintro e w2 ⟨hout, hb2⟩
  have HB2 := Lib.hid (HB.out.trans (hb2.mono HB.out.size))
  clear hb2
  rcases hout with ⟨g, f, hf, _, rfl, _⟩ | ⟨hno, rfl⟩
  · have HF := Lib.hid hf
    clear hf
    go_wp2
    go_ret
    exact ⟨.inl ⟨⟨f, HF.out⟩, rfl⟩, HB2.out⟩
  · have HF := Lib.hid hno
    clear hno
    go_wp2
    go_ret
    exact ⟨.inr ⟨HF.out, rfl⟩, HB2.out⟩
set_option maxRecDepth 100000 in
set_option maxHeartbeats 2000000 in
theorem rnext_any (w : World) (c : Nat → Int) (v : Value) (s : List Int) (hv : RdS w w.heap.size v s) (hs : s.length ≤ 1000000000) (Ab : Option Addr) (l cb : Nat) (g : Nat → Nat) (hg : RdB w w.heap.size Ab l g) (hl : l ≤ 1000000) (a : Int) (ha : a ≤ 9223372036854775807) :
    Calls Try.prog 21 #[.agg (trA c v), .slice Ab l cb, .int .i64 a] w fun e w' => NxtOut c s g l a e ∧ Below w.heap.size w w' := by
  have hb := (Below.refl w.heap.size w).alloc (Nat.le_refl _) (.cells (trA c v) 25)
  have hcl := rlens_any (w.alloc (.cells (trA c v) 25)) c v s ((hv.below hb (Nat.le_refl _)).more hb.size) hs
  have HCL := Lib.hid hcl; have HB := Lib.hid hb; have HT := Lib.hid (box_tree w c v); have HG := Lib.hid hg
  clear hcl hb hg
  go_enter Try.func21, Try.ntmps21
  go_wp2_with (refine wpList_load_row rfl _ _ rfl w.heap.size rfl _ (trA c v) (0, 0) _ HT.out Try.underlying25 rfl (by rw [trA_size]; exact szTree) ?_)
  refine HCL.out.mono ?_
  rintro e w2 ⟨hout, hb2⟩
  have HB2 := Lib.hid (HB.out.trans (hb2.mono HB.out.size))
  clear hb2
  rcases hout with ⟨b, f, hf, hbase, rfl, hrow⟩ | ⟨hno, rfl⟩
  · by_cases ha0 : a < 0
    · have hd : decide (a < 0) = true := by simpa using ha0
      have HF := Lib.hid hf
      have hx : nxtP f g l a = (0, 0, 2) := by unfold nxtP; rw [if_pos ha0]
      have HX := Lib.hid hx
      clear hf hrow hx
      go_wp2
      go_ret3
      exact ⟨.inl ⟨f, HF.out, by rw [HX.out]; rfl⟩, HB2.out⟩
    · have hd : decide (a < 0) = false := by simpa using ha0
      obtain ⟨at_, rfl⟩ := Int.eq_ofNat_of_zero_le (show 0 ≤ a by omega)
      have hx : nxtP f g l (at_ : Int) = readR f 320 g l at_ 17 0 := by unfold nxtP; rw [if_neg ha0, Int.toNat_natCast]
      have h15 := isTree_lens hf
      obtain ⟨_, _, _, _, hall, _⟩ := check_ok hf.1
      have hf256 : ∀ j, f j < 256 := fun j => by
        rcases Nat.lt_or_ge j 320 with h | h
        · have := h15 j h; omega
        · rw [hf.2.1 j h]; omega
      have hmd := made_any w2 (some ⟨b, 0, none⟩) 320 320 f (hrow.rd hf256) (by omega) h15 hall
      have hx32 : ∀ j, codeB f 320 j < 4294967296 := fun j => by
        rcases Nat.lt_or_ge j 320 with h | h
        · exact codeB_lt hf.1 j h
        · unfold codeB; rw [if_pos (hf.2.1 j h)]; omega
      have HF := Lib.hid hf; have HX := Lib.hid hx; have HMD := Lib.hid hmd; have H15 := Lib.hid h15; have H32 := Lib.hid hx32; have H256 := Lib.hid hf256
      clear hf hx hmd h15 hx32 hf256 hall hrow
      go_wp2_with fail
      refine HMD.out.mono ?_
      rintro e w3 ⟨rfl, hb3, hrow3⟩
      have hB3 := HB2.out.trans (hb3.mono HB2.out.size)
      have hrr := rread_any w3 (some ⟨w2.heap.size, 0, none⟩) 320 320 f (hrow3.rd H32.out H256.out) H15.out (by omega) Ab l cb g ((HG.out.below hB3 (Nat.le_refl _)).more hB3.size) hl at_ (by omega)
      obtain ⟨P, hP⟩ : ∃ P, P = readR f 320 g l at_ 17 0 := ⟨_, rfl⟩
      rw [← hP] at hrr
      have HRR := Lib.hid hrr; have HB3 := Lib.hid hB3; have HP := Lib.hid hP
      obtain ⟨p1, p2, p3⟩ := P
      clear hrr hB3 hP hb3 hrow3
      go_wp2_with fail
      refine HRR.out.mono ?_
      rintro e w4 ⟨rfl, hb4⟩
      have HB4 := Lib.hid (HB3.out.trans (hb4.mono HB3.out.size))
      clear hb4
      simp only [RdOut]
      go_wp2
      go_ret3
      exact ⟨.inl ⟨f, HF.out, by rw [HX.out, ← HP.out]; rfl⟩, HB4.out⟩
  · have HF := Lib.hid hno
    clear hno
    go_wp2
    go_ret3
    exact ⟨.inr ⟨HF.out, rfl⟩, HB2.out⟩
end Go.Proofs.Ytedjapamimhglaa
