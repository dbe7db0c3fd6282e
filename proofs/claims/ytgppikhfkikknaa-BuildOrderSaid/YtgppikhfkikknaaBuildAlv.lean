/-
  Layer 4 (build): the chapter's examples reckoned; the laws' own functions is and alive.
-/
import Derived.Test.YtgppikhfkikknaaBuildEv
import Derived.Test.YtgppikhfkikknaaBuildImpl
namespace Go.Proofs.Ytgppikhfkikknaa
open Go.RowKit
def lA : List Int := [5, 9, 12, 13, 16, 45]
def wA : Nat → Nat := itemW (freqN lA) 6
theorem nA : nI (freqN lA) 6 = 6 := by decide +kernel
theorem a0 : ∀ t, t < rowLen 6 0 → rowW 6 wA 0 t = tab0 [5, 9, 12, 13, 16, 45] t := all_of (M := 6) (by decide +kernel)
theorem a1 : ∀ t, t < rowLen 6 1 → rowW 6 wA 1 t = tab0 [5, 9, 12, 13, 14, 16, 25, 45, 61] t := lv_step a0 (all_of (M := 9) (by decide +kernel))
theorem a2 : ∀ t, t < rowLen 6 2 → rowW 6 wA 2 t = tab0 [5, 9, 12, 13, 14, 16, 25, 30, 45, 70] t := lv_step a1 (all_of (M := 10) (by decide +kernel))
theorem a3 : ∀ t, t < rowLen 6 3 → rowW 6 wA 3 t = tab0 [5, 9, 12, 13, 14, 16, 25, 30, 45, 55, 115] t := lv_step a2 (all_of (M := 11) (by decide +kernel))
theorem a4 : ∀ t, t < rowLen 6 4 → rowW 6 wA 4 t = tab0 [5, 9, 12, 13, 14, 16, 25, 30, 45, 55, 100] t := lv_step a3 (all_of (M := 11) (by decide +kernel))
theorem lenA (i : Nat) : cntN 6 wA 14 10 i = cntS (stepI 6 5 wA (prs (tab0 [5, 9, 12, 13, 14, 16, 25, 30, 45, 55, 100]))) 10 10 i :=
  ev_fix (n := 6) (k := 4) (M := 11) rfl (by decide +kernel) a4 (by decide +kernel) 10 10 i (by decide +kernel)
theorem outA : ∀ j, j < 6 → lenB (freqN lA) 6 15 j = tab0 [4, 4, 3, 3, 3, 1] j := by
  have h : ∀ j, lenB (freqN lA) 6 15 j = if freqN lA j = 0 then 0 else cntS (stepI 6 5 wA (prs (tab0 [5, 9, 12, 13, 14, 16, 25, 30, 45, 55, 100]))) 10 10 (rankN (freqN lA) 6 j) := fun j => by
    unfold lenB
    rw [nA, if_neg (by omega : ¬ 6 = 1)]
    show (if freqN lA j = 0 then 0 else cntN 6 wA 14 10 _) = _
    rw [lenA]
  intro j hj
  rw [h]
  exact all_of (M := 6) (f := fun j => if freqN lA j = 0 then 0 else cntS (stepI 6 5 wA (prs (tab0 [5, 9, 12, 13, 14, 16, 25, 30, 45, 55, 100]))) 10 10 (rankN (freqN lA) 6 j)) (by decide +kernel) j hj
theorem askA : askE lA 15 = 0 := by decide +kernel
theorem lA_len : lA.length = 6 := rfl
theorem loA : lenO lA 15 = 6 := by unfold lenO; rw [askA]; rfl
theorem olA : ∀ j, j < 6 → outL lA 15 j = tab0 [4, 4, 3, 3, 3, 1] j := fun j hj => by
  unfold outL; rw [askA, if_pos rfl]; exact outA j hj
theorem strB_ext {n : Nat} {f g : Nat → Nat} (h : ∀ j, j < n → f j = g j) : strB n f = strB n g := by
  unfold strB
  congr 1
  apply List.map_congr_left
  intro j hj
  rw [h j (List.mem_range.1 hj)]
theorem strA : strB (lenO lA 15) (outL lA 15) = ⟨#[4, 4, 3, 3, 3, 1]⟩ := by
  rw [loA, strB_ext olA]; decide +kernel
set_option maxRecDepth 100000 in
theorem is_yes (w : World) (A : Option Addr) (c : Nat) (l : List Int) (most : Int) (S : ByteArray) (n : Nat) (hl : n = l.length) (hr : RdI w w.heap.size A l) (hc : A = none → c = 0) (hn : l.length ≤ 1000) (hb : ∀ x ∈ l, -9223372036854775808 ≤ x ∧ x ≤ 9223372036854775807)
    (hm1 : -9223372036854775808 ≤ most) (hm2 : most ≤ 9223372036854775807) (h0 : askE l most = 0) (hS : strB (lenO l most) (outL l most) = S) :
    Calls Try.prog 8 #[.slice A n c, .int .i64 most, .string S] w fun e w' => e = .returned (.bool true) ∧ Below w.heap.size w w' := by
  have hcl := lengths_any w A c l most hr hc hn (fun j hj => hb _ (by rw [List.getD_eq_getElem?_getD, List.getElem?_eq_getElem hj]; exact List.getElem_mem hj)) hm1 hm2
  rw [h0, ← hl] at hcl
  obtain ⟨M, hM⟩ : ∃ M, M = lenO l most := ⟨_, rfl⟩
  rw [← hM] at hcl hS
  have CL := Lib.hid hcl; have HS := Lib.hid hS
  clear hcl hS hr hc hb h0 hM hl
  go_enter Try.func8, Try.ntmps8
  go_wp2_with fail
  refine CL.out.mono ?_
  rintro e w2 ⟨Ax, cx, rfl, hb2, hx⟩
  have hst := run_str hx cx
  rw [HS.out] at hst
  have HB2 := Lib.hid hb2
  clear hb2 hx
  go_wp2
  go_ret
  exact ⟨rfl, HB2.out⟩
set_option maxRecDepth 100000 in
theorem alive4_any (w : World) : Calls Try.prog 10 #[] w fun e w' => e = .returned (.bool true) ∧ Below w.heap.size w w' := by
  go_enter Try.func10, Try.ntmps10
  go_wp2_with fail
  refine (is_yes _ (some ⟨w.heap.size, 0, none⟩) 6 lA 15 ⟨#[4, 4, 3, 3, 3, 1]⟩ 6 rfl (rdI_new w lA #[.int .i64 5, .int .i64 9, .int .i64 12, .int .i64 13, .int .i64 16, .int .i64 45] rfl) (fun h => by cases h) (by decide) (by decide) (by omega) (by omega) askA strA).mono ?_
  rintro e w' ⟨rfl, hb⟩
  have HB := Lib.hid (((Below.refl w.heap.size w).alloc (Nat.le_refl _) _).trans (hb.mono (by simp)))
  clear hb
  go_wp2
  go_ret
  exact ⟨rfl, HB.out⟩
end Go.Proofs.Ytgppikhfkikknaa
