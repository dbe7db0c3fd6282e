/-
  Layer 7 (match): the statements' own text, finds and alive; the law MatchNames.
-/
import Derived.Test.YtkgpbdlhjhbijaaMatFnd
import Derived.Lib.SlBytesConst
namespace Go.Proofs.Ytkgpbdlhjhbijaa
open Go.RowKit Go.ChangeShapes Go.WideShapes Go.ChangeAt Go.Joins
def txtL : List Nat := [97, 98, 99, 97, 98, 99, 97, 98, 120, 97, 98, 99, 97, 98, 99]
def txtN (j : Nat) : Nat := txtL.getD j 0
theorem txtN_lt (j : Nat) : txtN j < 256 := by
  unfold txtN
  rcases Nat.lt_or_ge j 15 with h | h
  · have : ∀ j, j < 15 → txtL.getD j 0 < 256 := by decide
    exact this j h
  · rw [List.getD_eq_getElem?_getD, List.getElem?_eq_none (by simpa [txtL] using h)]; show 0 < 256; omega
set_option maxRecDepth 100000 in
set_option maxHeartbeats 1000000 in
theorem text_any (w : World) : Calls Try.prog 9 #[] w fun e w' => ∃ A, e = .returned (.slice A 15 15) ∧ ByR w' w'.heap.size A 15 15 txtN ∧ Below w.heap.size w w' := by
  have kc := fun (w : World) (C : Array Value) (n c : Nat) => Lib.run_convert_bytes_const (P := Try.prog) w 25 5 C n c Try.underlying25 Try.underlying5
  obtain ⟨V, hV⟩ : ∃ V, V = w.alloc (.cells #[.int .u8 97, .int .u8 98, .int .u8 99, .int .u8 97, .int .u8 98, .int .u8 99, .int .u8 97, .int .u8 98, .int .u8 120, .int .u8 97, .int .u8 98, .int .u8 99, .int .u8 97, .int .u8 98, .int .u8 99] 5 (15, 16)) := ⟨_, rfl⟩
  have hb : Below w.heap.size w V := by rw [hV]; exact (Below.refl _ _).alloc (Nat.le_refl _) _
  have hlt : w.heap.size < V.heap.size := by rw [hV]; simp
  have hrow : V.heap[w.heap.size]? = some (.cells #[.int .u8 97, .int .u8 98, .int .u8 99, .int .u8 97, .int .u8 98, .int .u8 99, .int .u8 97, .int .u8 98, .int .u8 120, .int .u8 97, .int .u8 98, .int .u8 99, .int .u8 97, .int .u8 98, .int .u8 99] 5 (15, 16)) := by rw [hV]; exact heap_alloc_new w _
  have hby : ByR V V.heap.size (some ⟨w.heap.size, 0, none⟩) 15 15 txtN := by
    refine ⟨⟨txtN_lt, fun _ => ⟨w.heap.size, 0, rfl, hlt, fun j hj => ?_⟩⟩, (fun h => by cases h), Nat.le_refl _, by unfold maxLen; omega⟩
    have : (w.heap.size : Nat) = w.heap.size := rfl
    rw [cell_of_row V _ _ _ _ (15, 16) hrow, Nat.zero_add]
    have : ∀ j, j < 15 → (#[.int .u8 97, .int .u8 98, .int .u8 99, .int .u8 97, .int .u8 98, .int .u8 99, .int .u8 97, .int .u8 98, .int .u8 120, .int .u8 97, .int .u8 98, .int .u8 99, .int .u8 97, .int .u8 98, .int .u8 99] : Array Value)[j]? = some (.int .u8 (txtN j : Int)) := by
      intro j hj
      iterate 15 (rcases j with _ | j; rfl)
      omega
    exact this j hj
  have HV := Lib.hid hV; have HB := Lib.hid hb; have HBY := Lib.hid hby
  clear hV hb hlt hrow hby
  go_enter Try.func9, Try.ntmps9
  go_wp2
  go_ret
  exact ⟨_, rfl, by rw [← HV.out]; exact HBY.out, by rw [← HV.out]; exact HB.out⟩
set_option maxRecDepth 100000 in
set_option maxHeartbeats 1000000 in
theorem finds_yes (w : World) (a s h d k : Nat) (hE : finE txtN 15 a s h = 0) (hT : finT txtN 15 a s h = (d, k)) :
    Calls Try.prog 12 #[.int .i64 (a : Int), .int .i64 (s : Int), .int .i64 (h : Int), .int .i64 (d : Int), .int .i64 (k : Int)] w fun e w' => e = .returned (.bool true) ∧ Below w.heap.size w w' := by
  have hf := fun w A c hr => find7_any w A 15 c txtN (a : Int) (s : Int) (h : Int) hr
  rw [hT, hE] at hf
  have HF := Lib.hid hf
  clear hE hT hf
  have e1 : ((d : Int) == (d : Int)) = true := by simp
  have e2 : ((k : Int) == (k : Int)) = true := by simp
  go_enter Try.func12, Try.ntmps12
  go_wp2_with fail
  refine (text_any w).mono ?_
  rintro e w1 ⟨A, rfl, hby, hb1⟩
  have HBY := Lib.hid hby; have HB1 := Lib.hid hb1
  clear hby hb1
  go_wp2_with fail
  refine (HF.out w1 A 15 HBY.out).mono ?_
  rintro e w2 ⟨rfl, hb2⟩
  have HB2 := Lib.hid (HB1.out.trans (hb2.mono HB1.out.size))
  clear hb2
  go_wp2
  go_ret
  exact ⟨rfl, HB2.out⟩
set_option maxRecDepth 100000 in
set_option maxHeartbeats 1000000 in
theorem alive7_any (w : World) : Calls Try.prog 11 #[] w fun e w' => e = .returned (.bool true) ∧ Below w.heap.size w w' := by
  have H1 := Lib.hid (fun w => finds_yes w 3 32 9 3 5 (by decide +kernel) (by decide +kernel))
  have H2 := Lib.hid (fun w => finds_yes w 9 32 9 9 6 (by decide +kernel) (by decide +kernel))
  have H3 := Lib.hid (fun w => finds_yes w 9 32 1 6 5 (by decide +kernel) (by decide +kernel))
  go_enter Try.func11, Try.ntmps11
  go_wp2_with fail
  refine (H1.out _).mono ?_
  rintro e w1 ⟨rfl, hb1⟩
  have HB1 := Lib.hid hb1
  clear hb1
  go_wp2_with fail
  refine (H2.out _).mono ?_
  rintro e w2 ⟨rfl, hb2⟩
  have HB2 := Lib.hid (HB1.out.trans (hb2.mono HB1.out.size))
  clear hb2
  go_wp2_with fail
  refine (H3.out _).mono ?_
  rintro e w3 ⟨rfl, hb3⟩
  have HB3 := Lib.hid (HB2.out.trans (hb3.mono HB2.out.size))
  clear hb3
  go_wp2
  go_ret
  exact ⟨rfl, HB3.out⟩
end Go.Proofs.Ytkgpbdlhjhbijaa
