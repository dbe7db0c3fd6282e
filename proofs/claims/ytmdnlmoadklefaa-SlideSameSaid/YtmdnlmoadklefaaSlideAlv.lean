/-
  Layer 6 (slide): the statements' own abc and alive.
-/
import Derived.Test.YtmdnlmoadklefaaSlideImpl
import Derived.Lib.SlBytesConst
namespace Go.Proofs.Ytmdnlmoadklefaa
open Go.RowKit
def abcN (j : Nat) : Nat := if j < 3 then 97 + j else 0
theorem abcN_lt (j : Nat) : abcN j < 256 := by unfold abcN; split <;> omega
def deN (j : Nat) : Nat := if j < 2 then 100 + j else 0
theorem deN_lt (j : Nat) : deN j < 256 := by unfold deN; split <;> omega
theorem rd_row {w : World} {g n c d : Nat} {f : Nat → Nat} {cs : Array Value} (h : w.heap[g]? = some (.cells cs 5 (c, d))) (hcs : cs = (bytesL n f).toArray) (hf : ∀ j, f j < 256) : RdB w w.heap.size (some ⟨g, 0, none⟩) n f := by
  refine ⟨hf, fun _ => ⟨g, 0, rfl, (Array.getElem?_eq_some_iff.1 h).1, fun j hj => ?_⟩⟩
  rw [Nat.zero_add, cell_of_row w g j _ _ _ h, hcs]
  simp [bytesL, hj]
set_option maxRecDepth 100000 in
set_option maxHeartbeats 1000000 in
theorem abc_any (w : World) : Calls Try.prog 7 #[] w fun e w' => ∃ A c, e = .returned (.tuple #[.agg #[.int .i64 4, .slice A 3 c], .bool true]) ∧ ByR w' w'.heap.size A 3 c abcN ∧ Below w.heap.size w w' := by
  have kc := fun (w : World) (C : Array Value) (n c : Nat) => Lib.run_convert_bytes_const (P := Try.prog) w 22 5 C n c Try.underlying22 Try.underlying5
  have kc2 : ∀ (w : World) (o : Obj) (C : Array Value) (n c : Nat), (convert 22 22 (.slice (some ⟨w.heap.size + 1, 0, none⟩) n c)).run Try.prog ((w.alloc o).alloc (.cells C 5)) = .ok (.slice (some ⟨w.heap.size + 1, 0, none⟩) n c) ((w.alloc o).alloc (.cells C 5 (C.size, C.size + 1))) := fun w o C n c => by
    have := kc (w.alloc o) C n c
    simpa using this
  clear kc
  go_enter Try.func7, Try.ntmps7
  go_wp2_with fail
  refine (snew_any _ 4 (by omega) (by omega)).mono ?_
  rintro e w1 ⟨rfl, hb1⟩
  rw [show newS 4 = 4 from rfl, show newE 4 = 0 from rfl]
  have r1 := (hb1.block w.heap.size (by simp)).trans (heap_alloc_new w _)
  have HB1 := Lib.hid (((Below.refl w.heap.size w).alloc (Nat.le_refl _) _).trans (hb1.mono (by simp)))
  have HR1 := Lib.hid r1
  have hlt1 : w.heap.size < w1.heap.size := (Array.getElem?_eq_some_iff.1 r1).1
  obtain ⟨W3, hW3⟩ : ∃ W3, W3 = (w1.alloc (.cells #[.int .i64 4, .slice none 0 0] 24)).alloc (.cells #[.int .u8 97, .int .u8 98, .int .u8 99] 5 (3, 4)) := ⟨_, rfl⟩
  have hb3 : Below w1.heap.size w1 W3 := by rw [hW3]; exact ((Below.refl _ _).alloc (Nat.le_refl _) _).alloc (by simp) _
  have hs3 : W3.heap.size = w1.heap.size + 2 := by rw [hW3]; simp
  have p1 : W3.heap[w1.heap.size]? = some (.cells #[.int .i64 4, .slice none 0 0] 24 (0, 0)) := by
    rw [hW3, heap_alloc_old _ _ (by simp)]; exact heap_alloc_new w1 _
  have p2 : W3.heap[w1.heap.size + 1]? = some (.cells #[.int .u8 97, .int .u8 98, .int .u8 99] 5 (3, 4)) := by
    rw [hW3]; have := heap_alloc_new (w1.alloc (.cells #[.int .i64 4, .slice none 0 0] 24)) (.cells #[.int .u8 97, .int .u8 98, .int .u8 99] 5 (3, 4)); simpa using this
  have hby : ByR W3 W3.heap.size (some ⟨w1.heap.size + 1, 0, none⟩) 3 3 abcN := ⟨rd_row p2 rfl abcN_lt, (fun h => by cases h), Nat.le_refl _, by unfold maxLen; omega⟩
  have hpu := spush_any W3 4 none 0 0 (fun _ => 0) (ByR.nil _ _ _ zero_lt256) (by omega) (by omega) _ 3 3 abcN hby
  have HPU := Lib.hid hpu; have HW3 := Lib.hid hW3; have HP1 := Lib.hid p1; have HB3 := Lib.hid (HB1.out.trans (hb3.mono (by omega)))
  have hr3 := (hb3.block w.heap.size hlt1).trans HR1.out
  have HR3 := Lib.hid hr3; have HS3 := Lib.hid hs3
  have hlt3 : w1.heap.size < W3.heap.size := by omega
  clear hb1 r1 hW3 hb3 hs3 p1 p2 hby hpu hr3
  go_wp2_with fail
  rw [← HW3.out]
  refine HPU.out.mono ?_
  rintro e w4 ⟨⟨S', A', l', c', F', rfl, hby, hnb, ho⟩, hb4⟩
  rw [show pushE 4 0 3 = 0 from rfl, if_pos rfl] at ho
  rw [show pushE 4 0 3 = 0 from rfl]
  obtain ⟨rfl, hl, hF⟩ := ho
  have hl3 : l' = 3 := by rw [hl]; rfl
  subst hl3
  have q1 := (hb4.block w1.heap.size hlt3).trans HP1.out
  have q2 := (hb4.block w.heap.size (by omega)).trans HR3.out
  have a1 : w4.cell? ⟨w1.heap.size, 0, none⟩ = some (.int .i64 4) := (cell_of_row w4 _ 0 _ _ (0, 0) q1).trans rfl
  have a2 : w4.cell? ⟨w1.heap.size, 1, none⟩ = some (.slice none 0 0) := (cell_of_row w4 _ 1 _ _ (0, 0) q1).trans rfl
  have a3 : w4.frozen? ⟨w1.heap.size, 0, none⟩ = false := frozen_of_row w4 _ 0 _ _ q1
  have a4 : w4.frozen? ⟨w1.heap.size, 1, none⟩ = false := frozen_of_row w4 _ 1 _ _ q1
  have b1 : w4.cell? ⟨w.heap.size, 0, none⟩ = some (.int .i64 0) := (cell_of_row w4 _ 0 _ _ (0, 0) q2).trans rfl
  have b2 : w4.cell? ⟨w.heap.size, 1, none⟩ = some (.slice none 0 0) := (cell_of_row w4 _ 1 _ _ (0, 0) q2).trans rfl
  have b3 : w4.frozen? ⟨w.heap.size, 0, none⟩ = false := frozen_of_row w4 _ 0 _ _ q2
  have b4 : w4.frozen? ⟨w.heap.size, 1, none⟩ = false := frozen_of_row w4 _ 1 _ _ q2
  have hfin : ByR w4 w4.heap.size A' 3 c' abcN := hby.ext abcN_lt fun j hj => by rw [hF]; rfl
  have HF := Lib.hid hfin; have HB4 := Lib.hid (HB3.out.trans (hb4.mono (by omega)))
  have HNB := Lib.hid (hnb.mono (B' := w1.heap.size + 2) (by rw [HS3.out]; exact Nat.le_refl _))
  clear hby hF hl q1 q2 hfin hb4 hnb
  obtain ⟨e1, e2⟩ := set2_cells (w := (w4.setCell ⟨w1.heap.size, 0, none⟩ (.int .i64 4)).setCell ⟨w1.heap.size, 1, none⟩ (.slice A' 3 c')) (X := w.heap.size) (p := .int .i64 4) (q := .slice A' 3 c') ((below_set2 (Below.refl w1.heap.size w4) (Nat.le_refl _) _ _).cell (p := ⟨w.heap.size, 0, none⟩) hlt1 |>.trans b1) ((below_set2 (Below.refl w1.heap.size w4) (Nat.le_refl _) _ _).cell (p := ⟨w.heap.size, 1, none⟩) hlt1 |>.trans b2)
  go_wp2
  refine bodyPost_ret (v := .tuple #[.agg #[.int .i64 4, .slice A' 3 c'], .bool true]) (by simp [results, Try.results7, go_sem, e1, e2]) rfl ⟨A', c', rfl, ?_, below_set2 (below_set2 HB4.out (Nat.le_of_lt hlt1) _ _) (Nat.le_refl _) _ _⟩
  exact ((HF.out.set2 (X := w1.heap.size) _ _ fun b hb => by have := HNB.out b hb; omega).set2 (X := w.heap.size) _ _ fun b hb => by have := HNB.out b hb; omega).more (by simp)
theorem str_bcde (f : Nat → Nat) (h : f = inF 4 3 abcN 2 deN) : strB 4 f = ⟨#[98, 99, 100, 101]⟩ := by rw [h]; decide +kernel
theorem str_abcab (f : Nat → Nat) (h : f = copF 3 abcN 3) : strB 5 f = ⟨#[97, 98, 99, 97, 98]⟩ := by rw [h]; decide +kernel
theorem str_bcab (f : Nat → Nat) (h : f = inF 4 3 abcN 5 (copF 3 abcN 3)) : strB 4 f = ⟨#[98, 99, 97, 98]⟩ := by rw [h]; decide +kernel
set_option maxRecDepth 100000 in
set_option maxHeartbeats 2000000 in
theorem alive6_any (w : World) : Calls Try.prog 10 #[] w fun e w' => e = .returned (.bool true) ∧ Below w.heap.size w w' := by
  have kc := fun (w : World) (C : Array Value) (n c : Nat) => Lib.run_convert_bytes_const (P := Try.prog) w 22 5 C n c Try.underlying22 Try.underlying5
  have kc2 : ∀ (w : World) (o : Obj) (C : Array Value) (n c : Nat), (convert 22 22 (.slice (some ⟨w.heap.size + 1, 0, none⟩) n c)).run Try.prog ((w.alloc o).alloc (.cells C 5)) = .ok (.slice (some ⟨w.heap.size + 1, 0, none⟩) n c) ((w.alloc o).alloc (.cells C 5 (C.size, C.size + 1))) := fun w o C n c => by
    have := kc (w.alloc o) C n c
    simpa using this
  clear kc
  go_enter Try.func10, Try.ntmps10
  go_wp2_with fail
  refine (abc_any w).mono ?_
  rintro e w1 ⟨A, c, rfl, hby, hb1⟩
  obtain ⟨W3, hW3⟩ : ∃ W3, W3 = (w1.alloc (.cells #[.int .i64 4, .slice A 3 c] 24)).alloc (.cells #[.int .u8 100, .int .u8 101] 5 (2, 3)) := ⟨_, rfl⟩
  have hb3 : Below w1.heap.size w1 W3 := by rw [hW3]; exact ((Below.refl _ _).alloc (Nat.le_refl _) _).alloc (by simp) _
  have hs3 : W3.heap.size = w1.heap.size + 2 := by rw [hW3]; simp
  have p1 : W3.heap[w1.heap.size]? = some (.cells #[.int .i64 4, .slice A 3 c] 24 (0, 0)) := by
    rw [hW3, heap_alloc_old _ _ (by simp)]; exact heap_alloc_new w1 _
  have p2 : W3.heap[w1.heap.size + 1]? = some (.cells #[.int .u8 100, .int .u8 101] 5 (2, 3)) := by
    rw [hW3]; have := heap_alloc_new (w1.alloc (.cells #[.int .i64 4, .slice A 3 c] 24)) (.cells #[.int .u8 100, .int .u8 101] 5 (2, 3)); simpa using this
  have hde : ByR W3 W3.heap.size (some ⟨w1.heap.size + 1, 0, none⟩) 2 2 deN := ⟨rd_row p2 rfl deN_lt, (fun h => by cases h), Nat.le_refl _, by unfold maxLen; omega⟩
  have hby3 := (hby.below hb3 (Nat.le_refl _)).more hb3.size
  have hpu := spush_any W3 4 A 3 c abcN hby3 (by omega) (by omega) _ 2 2 deN hde
  have HPU := Lib.hid hpu; have HW3 := Lib.hid hW3; have HP1 := Lib.hid p1; have HB3 := Lib.hid (hb1.trans (hb3.mono hb1.size))
  have HBY := Lib.hid hby3; have hlt3 : w1.heap.size < W3.heap.size := by omega
  have hw1 := hb1.size
  clear hb1 hW3 hb3 hs3 p1 p2 hby hpu hde hby3
  go_wp2_with fail
  rw [← HW3.out]
  refine HPU.out.mono ?_
  rintro e w4 ⟨⟨S', A', l', c', F', rfl, hq, -, ho⟩, hb4⟩
  rw [show pushE 4 3 2 = 0 from rfl, if_pos rfl] at ho
  rw [show pushE 4 3 2 = 0 from rfl]
  obtain ⟨rfl, hl, hF⟩ := ho
  have hl3 : l' = 4 := by rw [hl]; rfl
  subst hl3
  have hb4' : Below W3.heap.size W3 (w4.alloc (.cells #[.int .i64 4, .slice A' 4 c'] 24)) := hb4.alloc hb4.size _
  obtain ⟨W5, hW5⟩ : ∃ W5, W5 = w4.alloc (.cells #[.int .i64 4, .slice A' 4 c'] 24) := ⟨_, rfl⟩
  have p5 : W5.heap[w4.heap.size]? = some (.cells #[.int .i64 4, .slice A' 4 c'] 24 (0, 0)) := by rw [hW5]; exact heap_alloc_new w4 _
  have hlt5 : w4.heap.size < W5.heap.size := (Array.getElem?_eq_some_iff.1 p5).1
  have hq5 : ByR W5 W5.heap.size A' 4 c' F' := by
    have hz : Below w4.heap.size w4 W5 := by rw [hW5]; exact (Below.refl _ _).alloc (Nat.le_refl _) _
    exact (hq.below hz (Nat.le_refl _)).more hz.size
  rw [← hW5] at hb4'
  have q1 := (hb4.block w1.heap.size hlt3).trans HP1.out
  have a1 : w4.cell? ⟨w1.heap.size, 0, none⟩ = some (.int .i64 4) := (cell_of_row w4 _ 0 _ _ (0, 0) q1).trans rfl
  have a2 : w4.cell? ⟨w1.heap.size, 1, none⟩ = some (.slice A 3 c) := (cell_of_row w4 _ 1 _ _ (0, 0) q1).trans rfl
  have hlt14 : w1.heap.size < w4.heap.size := (Array.getElem?_eq_some_iff.1 q1).1
  have hby5 := (HBY.out.below hb4' (Nat.le_refl _)).more hb4'.size
  have hcp := scopy_any W5 4 A 3 c abcN hby5 (by omega) (by omega) 3 5 (by omega) (by omega) (by omega) (by omega)
  have HCP := Lib.hid hcp; have HW5 := Lib.hid hW5; have HP5 := Lib.hid p5; have HQ5 := Lib.hid hq5; have HB5 := Lib.hid (HB3.out.trans (hb4'.mono (by omega))); have HF := Lib.hid hF
  clear hb4 hb4' hW5 p5 hq5 hq q1 hby5 hcp hl hF
  go_wp2_with fail
  rw [← HW5.out]
  refine HCP.out.mono ?_
  rintro e w6 ⟨⟨S', A6, l', c6, F6, B6, k', d6, G6, rfl, hx, hy, -, -, ho⟩, hb6⟩
  rw [show copyE 4 3 3 5 = 0 from rfl, if_pos rfl] at ho
  rw [show copyE 4 3 3 5 = 0 from rfl]
  obtain ⟨rfl, hl, hF6, hk, hG6⟩ := ho
  have hl4 : l' = 4 := by rw [hl]; rfl
  have hk5 : k' = 5 := by rw [hk]; rfl
  subst hl4; subst hk5
  have q5 := (hb6.block w4.heap.size hlt5).trans HP5.out
  obtain ⟨W7, hW7⟩ : ∃ W7, W7 = w6.alloc (.cells #[.int .i64 4, .slice A6 4 c6] 24) := ⟨_, rfl⟩
  have hz : Below w6.heap.size w6 W7 := by rw [hW7]; exact (Below.refl _ _).alloc (Nat.le_refl _) _
  have p7 : W7.heap[w6.heap.size]? = some (.cells #[.int .i64 4, .slice A6 4 c6] 24 (0, 0)) := by rw [hW7]; exact heap_alloc_new w6 _
  have hlt6 : w4.heap.size < w6.heap.size := (Array.getElem?_eq_some_iff.1 q5).1
  have q7 := (hz.block w4.heap.size hlt6).trans q5
  have b1 : w6.cell? ⟨w4.heap.size, 1, none⟩ = some (.slice A' 4 c') := (cell_of_row w6 _ 1 _ _ (0, 0) q5).trans rfl
  have s1 := run_str ((HQ5.out.1.below hb6 (Nat.le_refl _)).below hz (Nat.le_trans hb6.size (Nat.le_refl _))) c'
  have s2 := run_str (hy.1.below hz (Nat.le_refl _)) d6
  have s3 := run_str (hx.1.below hz (Nat.le_refl _)) c6
  rw [str_bcde F' HF.out] at s1
  rw [str_abcab G6 hG6] at s2
  rw [str_bcab F6 hF6] at s3
  rw [hW7] at s1 s2 s3
  have HB7 := Lib.hid ((HB5.out.trans (hb6.mono (by omega))).trans (hz.mono (by have := hb6.size; omega))); have HW7 := Lib.hid hW7
  clear hx hy hb6 q5 hW7 hz p7 q7 hl hk hF6 hG6 a1 a2 HCP
  go_wp2
  go_ret
  exact ⟨rfl, by rw [← HW7.out]; exact HB7.out⟩
end Go.Proofs.Ytmdnlmoadklefaa
