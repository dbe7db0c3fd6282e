/-
  Layer 11 (block): a pen that came in, its bytes with their room.
-/
import Derived.Lib.SlBytesConst
import Derived.Test.YtjhljkhgjcckhaaMgab
import Derived.Test.YtjhljkhgjcckhaaMgac
import Derived.Test.YtjhljkhgjcckhaaMgad
namespace Go.Proofs.Ytjhljkhgjcckhaa
open Go.RowKit Go.ChangeShapes Go.WideShapes Go.ChangeAt Go.Joins
theorem val_bit : wrtE nilF 0 1 0 0 nilF [] false = 8 := by kernel_rfl
theorem val_two : wrtE nilF 0 0 1 0 nilF [⟨0, 1, 2⟩] false = 8 := by kernel_rfl
theorem val_lngV : lngV 0 3 0 nilF [] = 0 ∧ lngV 8 0 0 nilF [] = 0 ∧ bestV (-1) 0 nilF [] = 0 := by refine ⟨?_, ?_, ?_⟩ <;> kernel_rfl
theorem built_tok3 (_x y z : Int) : Try.prog.built 29 [(2, .int .i64 z), (1, .int .i64 y)] = some #[.int .u8 0, .int .i64 y, .int .i64 z] := by kernel_rfl
theorem built_pen1 (z : Int) : Try.prog.built 32 [(1, .int .i64 z)] = some #[.slice none 0 0, .int .i64 z] := by kernel_rfl
theorem best_at (HB : BestCon) (u : World) : Calls Try.prog 8 #[.int .i64 0, .slice (some ⟨u.heap.size, 0, none⟩) 3 3, .slice (some ⟨u.heap.size + 1, 0, none⟩) 3 3]
    ((u.alloc (.cells #[.int .u8 97, .int .u8 98, .int .u8 99] 5 (3, 4))).alloc (.cells #[.int .u8 97, .int .i64 0, .int .i64 0, .int .u8 98, .int .i64 0, .int .i64 0, .int .u8 99, .int .i64 0, .int .i64 0] 29)) fun e w' => e = .returned (.tuple #[.int .u8 1, .int .i64 0]) ∧ Below u.heap.size u w' := by
  obtain ⟨U, hU⟩ : ∃ U, U = u.alloc (.cells #[.int .u8 97, .int .u8 98, .int .u8 99] 5 (3, 4)) := ⟨_, rfl⟩
  have hrow : U.heap[u.heap.size]? = some (.cells #[.int .u8 97, .int .u8 98, .int .u8 99] 5 (3, 4)) := by rw [hU]; exact heap_alloc_new u _
  have hs1 : U.heap.size = u.heap.size + 1 := by rw [hU]; simp
  have hbU : Below u.heap.size u U := by rw [hU]; exact (Below.refl _ _).alloc (Nat.le_refl _) _
  rw [← hU, ← hs1]
  have hby : ByR U U.heap.size (some ⟨u.heap.size, 0, none⟩) 3 3 (lst [97, 98, 99]) := ⟨⟨lst_lt (by decide), fun _ => ⟨u.heap.size, 0, rfl, by omega, fun j hj => by
    rw [cell_of_row U _ _ _ _ (3, 4) hrow, Nat.zero_add]
    match j, hj with
    | 0, _ => rfl
    | 1, _ => rfl
    | 2, _ => rfl⟩⟩, (fun h => by cases h), Nat.le_refl _, by unfold maxLen; omega⟩
  have hb : Below U.heap.size U (U.alloc (.cells #[.int .u8 97, .int .i64 0, .int .i64 0, .int .u8 98, .int .i64 0, .int .i64 0, .int .u8 99, .int .i64 0, .int .i64 0] 29)) := (Below.refl _ _).alloc (Nat.le_refl _) _
  have hin : ∀ t ∈ [tokA, (⟨98, 0, 0⟩ : Tok), ⟨99, 0, 0⟩], TokIn t := fun t ht => by
    simp only [List.mem_cons, List.not_mem_nil, or_false] at ht
    rcases ht with rfl | rfl | rfl
    · exact tokIn_a 97 (by omega)
    · exact tokIn_a 98 (by omega)
    · exact tokIn_a 99 (by omega)
  refine (HB _ 0 _ 3 3 (lst [97, 98, 99]) _ 3 3 [tokA, ⟨98, 0, 0⟩, ⟨99, 0, 0⟩] (by omega) (by omega) ((hby.below hb (Nat.le_refl _)).more hb.size) (by omega) (tk_new U _ 3 rfl (by omega) _ rfl) (by omega) hin).mono fun e w' q => ?_
  rw [val_bestV3, val_best.1] at q
  exact ⟨q.1, (hbU.trans (hb.mono hbU.size)).trans (q.2.mono (Nat.le_trans hbU.size hb.size))⟩
theorem write_at (HW : WriteCon) (u : World) : Calls Try.prog 9 #[.agg #[.slice none 0 0, .int .i64 0], .int .u8 1, .slice none 0 0, .slice (some ⟨u.heap.size, 0, none⟩) 1 1, .bool false]
    (u.alloc (.cells #[.int .u8 0, .int .i64 1, .int .i64 2] 29)) fun e w' => ∃ A' c' L K, e = .returned (.tuple #[.agg #[.slice A' L c', .int .i64 K], .int .i64 8]) ∧ Below u.heap.size u w' := by
  have hb : Below u.heap.size u (u.alloc (.cells #[.int .u8 0, .int .i64 1, .int .i64 2] 29)) := (Below.refl _ _).alloc (Nat.le_refl _) _
  have hin : ∀ t ∈ [(⟨0, 1, 2⟩ : Tok)], TokIn t := fun t ht => by
    simp only [List.mem_singleton] at ht
    subst ht
    exact ⟨by show 0 < 256; omega, ⟨by show (-9223372036854775808 : Int) ≤ 1; omega, by show (1 : Int) ≤ 9223372036854775807; omega⟩, by show (-9223372036854775808 : Int) ≤ 2; omega, by show (2 : Int) ≤ 9223372036854775807; omega⟩
  refine (HW _ none 0 0 nilF 0 1 none 0 0 nilF _ 1 1 [⟨0, 1, 2⟩] false (by_nilF _ _) (by omega) (by omega) (by omega) (by omega) (by_nilF _ _) (by omega) (tk_new u _ 1 rfl (by omega) _ rfl) (by omega) hin).mono fun e w' q => ?_
  obtain ⟨A', c', L, _, q1, _, q2, _⟩ := q
  rw [val_two] at q1
  exact ⟨A', c', L, _, q1, hb.trans (q2.mono hb.size)⟩
theorem write_bit (HW : WriteCon) (u : World) : Calls Try.prog 9 #[.agg #[.slice none 0 0, .int .i64 1], .int .u8 0, .slice none 0 0, .slice none 0 0, .bool false] u fun e w' => ∃ A' c' L K, e = .returned (.tuple #[.agg #[.slice A' L c', .int .i64 K], .int .i64 8]) ∧ Below u.heap.size u w' := by
  refine (HW _ none 0 0 nilF 1 0 none 0 0 nilF none 0 0 [] false (by_nilF _ _) (by omega) (by omega) (by omega) (by omega) (by_nilF _ _) (by omega) (TkR.nil _ _) (by omega) (fun t ht => by cases ht)).mono fun e w' q => ?_
  obtain ⟨A', c', L, _, q1, _, q2, _⟩ := q
  rw [val_bit] at q1
  exact ⟨A', c', L, _, q1, q2⟩
theorem long_at (HL : LongCon) (a : Int) (k : Nat) (v : Nat) (e0 : Int) (ha : 0 ≤ a ∧ a ≤ 8) (hk : k < 256) (hv : lngV a k 0 nilF [] = v) (he : lngE a k 0 [] = e0) (u : World) : Calls Try.prog 7 #[.int .i64 a, .int .u8 (k : Int), .slice none 0 0, .slice none 0 0] u fun e w' => e = .returned (.tuple #[.int .i64 (v : Int), .int .i64 e0]) ∧ Below u.heap.size u w' := by
  have h := HL u a k none 0 0 nilF none 0 0 [] (by omega) (by omega) hk (by_nilF _ _) (by omega) (TkR.nil _ _) (by omega) (fun t ht => by cases ht)
  rw [hv, he] at h
  exact h
theorem best_nil (HB : BestCon) (a : Int) (v : Nat) (e0 : Int) (ha : -1 ≤ a ∧ a ≤ 8) (hv : bestV a 0 nilF [] = v) (he : bestE a 0 [] = e0) (u : World) : Calls Try.prog 8 #[.int .i64 a, .slice none 0 0, .slice none 0 0] u fun e w' => e = .returned (.tuple #[.int .u8 (v : Int), .int .i64 e0]) ∧ Below u.heap.size u w' := by
  have h := HB u a none 0 0 nilF none 0 0 [] (by omega) (by omega) (by_nilF _ _) (by omega) (TkR.nil _ _) (by omega) (fun t ht => by cases ht)
  rw [hv, he] at h
  exact h
set_option maxRecDepth 100000 in
set_option maxHeartbeats 4000000 in
theorem names11_walk (HW : WriteCon) (HL : LongCon) (HB : BestCon) (w : World) : Calls Try.prog 3 #[] w fun e w' => e = .returned (.bool true) ∧ Below w.heap.size w w' := by
  have L1 := Lib.hid (long_at HL 0 0 40 0 (by omega) (by omega) val_lng.2.1 val_lng.1)
  have L2 := Lib.hid (long_at HL 6 0 42 0 (by omega) (by omega) val_lng.2.2.2.1 val_lng.2.2.1)
  have L3 := Lib.hid (long_at HL 0 3 0 2 (by omega) (by omega) val_lngV.1 val_lng.2.2.2.2.1)
  have L4 := Lib.hid (long_at HL 8 0 0 2 (by omega) (by omega) val_lngV.2.1 val_lng.2.2.2.2.2)
  have B1 := Lib.hid (best_at HB)
  have B2 := Lib.hid (best_nil HB 0 1 0 (by omega) val_bestV0 val_best.2.1)
  have B3 := Lib.hid (best_nil HB (-1) 0 2 (by omega) val_lngV.2.2 val_best.2.2)
  have W1 := Lib.hid (write_bit HW)
  have W2 := Lib.hid (write_at HW)
  have I1 := Lib.hid (is_none HW)
  have AL := Lib.hid (alive11_any HW)
  have kc := fun (w : World) (C : Array Value) (n c : Nat) => Lib.run_convert_bytes_const (P := Try.prog) w 27 5 C n c Try.underlying27 Try.underlying5
  clear HW HL HB
  go_enter Try.func3, Try.ntmps3
  go_wp2_with fail
  refine (L1.out w).mono ?_
  rintro e w1 ⟨rfl, b1⟩
  have Q1 := Lib.hid b1
  clear b1
  go_wp2_with fail
  refine (L2.out w1).mono ?_
  rintro e w2 ⟨rfl, b2⟩
  have Q2 := Lib.hid (Q1.out.trans (b2.mono Q1.out.size))
  clear b2
  go_wp2_with (first
    | (refine wpList_buildTo rfl 29 #[(0, .const (.int .u8 97))] rfl (some 31) rfl #[.int .u8 97, .int .i64 0, .int .i64 0] ?_ ?_; focus (simpa [Act.eval] using built_tok1 97))
    | (refine wpList_buildTo rfl 29 #[(0, .const (.int .u8 98))] rfl (some 32) rfl #[.int .u8 98, .int .i64 0, .int .i64 0] ?_ ?_; focus (simpa [Act.eval] using built_tok1 98))
    | (refine wpList_buildTo rfl 29 #[(0, .const (.int .u8 99))] rfl (some 33) rfl #[.int .u8 99, .int .i64 0, .int .i64 0] ?_ ?_; focus (simpa [Act.eval] using built_tok1 99))
    | fail)
  refine (B1.out w2).mono ?_
  rintro e w3 ⟨rfl, b3⟩
  have Q3 := Lib.hid (Q2.out.trans (b3.mono Q2.out.size))
  clear b3
  go_wp2_with fail
  refine (B2.out w3).mono ?_
  rintro e w4 ⟨rfl, b4⟩
  have Q4 := Lib.hid (Q3.out.trans (b4.mono Q3.out.size))
  clear b4
  go_wp2_with fail
  refine (L3.out w4).mono ?_
  rintro e w5 ⟨rfl, b5⟩
  have Q5 := Lib.hid (Q4.out.trans (b5.mono Q4.out.size))
  clear b5
  go_wp2_with fail
  refine (L4.out w5).mono ?_
  rintro e w6 ⟨rfl, b6⟩
  have Q6 := Lib.hid (Q5.out.trans (b6.mono Q5.out.size))
  clear b6
  go_wp2_with fail
  refine (B3.out w6).mono ?_
  rintro e w7 ⟨rfl, b7⟩
  have Q7 := Lib.hid (Q6.out.trans (b7.mono Q6.out.size))
  clear b7
  go_wp2_with (first
    | (refine wpList_buildTo rfl 32 #[(1, .const (.int .i64 1))] rfl (some 55) rfl #[.slice none 0 0, .int .i64 1] ?_ ?_; focus (simpa [Act.eval] using built_pen1 1))
    | fail)
  refine (W1.out w7).mono ?_
  rintro e w8 ⟨A8, c8, L8, K8, rfl, b8⟩
  have Q8 := Lib.hid (Q7.out.trans (b8.mono Q7.out.size))
  have N8 : Hid (Below w.heap.size w (w8.alloc (.cells #[.slice A8 L8 c8, .int .i64 K8] 32))) := Lib.hid (Q8.out.alloc Q8.out.size _)
  clear b8
  obtain ⟨V8, hV8⟩ : ∃ V, V = w8.alloc (.cells #[.slice A8 L8 c8, .int .i64 K8] 32) := ⟨_, rfl⟩
  rw [← hV8] at N8
  have HV8 := Lib.hid hV8
  clear hV8
  go_wp2_with (first
    | (rw [← HV8.out]; refine wpList_buildTo rfl 32 #[] rfl (some 60) rfl #[.slice none 0 0, .int .i64 0] ?_ ?_; focus (simpa [Act.eval] using built_pen0))
    | (refine wpList_buildTo rfl 29 #[(2, .const (.int .i64 2)), (1, .const (.int .i64 1))] rfl (some 61) rfl #[.int .u8 0, .int .i64 1, .int .i64 2] ?_ ?_; focus (simpa [Act.eval] using built_tok3 0 1 2))
    | fail)
  refine (W2.out V8).mono ?_
  rintro e w9 ⟨A9, c9, L9, K9, rfl, b9⟩
  have Q9 := Lib.hid (N8.out.trans (b9.mono N8.out.size))
  obtain ⟨V9, hV9⟩ : ∃ V, V = w9.alloc (.cells #[.slice A9 L9 c9, .int .i64 K9] 32) := ⟨_, rfl⟩
  have N9 : Hid (Below w.heap.size w V9) := Lib.hid (by rw [hV9]; exact Q9.out.alloc Q9.out.size _)
  have HV9 := Lib.hid hV9
  clear b9 hV9
  go_wp2_with fail
  rw [← HV9.out]
  refine (I1.out V9).mono ?_
  rintro e w10 ⟨rfl, b10⟩
  have Q10 := Lib.hid (N9.out.trans (b10.mono N9.out.size))
  clear b10
  go_wp2_with fail
  refine (AL.out w10).mono ?_
  rintro e w11 ⟨rfl, b11⟩
  have Q11 := Lib.hid (Q10.out.trans (b11.mono Q10.out.size))
  clear b11
  go_wp2
  go_ret
  exact ⟨rfl, Q11.out⟩
end Go.Proofs.Ytjhljkhgjcckhaa

namespace Go.Proofs.Ytjhljkhgjcckhaa
open Go.RowKit Go.ChangeShapes Go.WideShapes Go.ChangeAt Go.Joins
set_option maxRecDepth 100000 in
theorem open_penR {H : Type} {enc : TypeId × Value → H} {W : World} {r : Reach} {b0 base : Nat} {sp : Nat → Bool} {hd : Bool} {v : Value} {d : DataW H} {p : List MemPlace}
    (hv : Value.okWide Try.prog W r b0 32 v) (h : DataW.Trod enc Try.prog W base sp hd 32 v d p) :
    ∃ A len cap f k, v = .agg #[.slice A len cap, .int .i64 k] ∧ ByR W W.heap.size A len cap f ∧ -9223372036854775808 ≤ k ∧ k ≤ 9223372036854775807 := by
  obtain ⟨c0, c1, y0, y1, m, rfl, rfl, rfl, hy0, hy1⟩ := open_agg2 Try.underlying32 (by kernel_rfl) cellsPen hv h
  obtain ⟨k, e1, _, wk⟩ := DataW.trod_int Try.underlying3 hy1
  obtain ⟨A, l, c, e0⟩ := slice_form Try.underlying27 hy0
  simp only [List.cons.injEq, and_true] at e0 e1
  subst e0 e1
  obtain ⟨f, hr⟩ := open_byr (d := y0.1) (p := y0.2) ⟨m, by simpa [Value.cells] using hy0⟩
  exact ⟨A, l, c, f, k, rfl, hr, wf_i64_range wk⟩
end Go.Proofs.Ytjhljkhgjcckhaa

