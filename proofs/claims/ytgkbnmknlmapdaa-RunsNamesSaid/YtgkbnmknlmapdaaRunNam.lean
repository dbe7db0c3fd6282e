/-
  The law RunsNames returns true: the errors have their numbers, and the chapter's examples are so. No condition.
-/
import Derived.Test.YtgkbnmknlmapdaaRunCnt
namespace Go.Proofs.Ytgkbnmknlmapdaa
open Go.RowKit Go.ChangeShapes Go.WideShapes Go.ChangeAt Go.Joins
theorem make_len8 (n : Nat) (h : n ≤ 1000000000) : ∀ u : World, (Instr.makeSlice 23 (.int .i64 (n : Int)) (.int .i64 (n : Int))).run Try.prog u =
      .ok (.slice (some ⟨u.heap.size, 0, none⟩) n n) (u.alloc (.cells (madeCells #[.int .u8 0] n) 5)) := fun u => by
  obtain ⟨i0, hi, hz0, hz1, hz2⟩ := info_parts infoU8
  have h := run_make (P := Try.prog) u 23 5 i0 _ Try.underlying23 hi hz0 .i64 .i64 (n : Int) (n : Int) (by omega) (by omega) (by rw [hz2]; omega) (by omega)
  rw [Int.toNat_natCast, hz1, Nat.mul_one] at h
  exact h
theorem made_get (n j : Nat) (h : j < n) : (madeCells #[.int .u8 0] n)[j]? = some (.int .u8 (0 : Int)) := by
  unfold madeCells
  rw [Array.getElem?_map, Array.getElem?_range, if_pos h]
  simp [Nat.mod_one]
def zeroU (_ : Nat) : Nat := 0
theorem by_made (u : World) (n : Nat) (h : n ≤ 1000000000) : ByR (u.alloc (.cells (madeCells #[.int .u8 0] n) 5)) (u.alloc (.cells (madeCells #[.int .u8 0] n) 5)).heap.size (some ⟨u.heap.size, 0, none⟩) n n zeroU :=
  ⟨rd_lit (fun _ => by show 0 < 256; omega) (heap_alloc_new u _) (fun j hj => made_get n j hj), (fun h => by cases h), Nat.le_refl _, by unfold maxLen; omega⟩
theorem ru_lit (u : World) (cs : Array Value) (m : Nat) (l : List (Int × Int)) (h : cs.toList = runsL l) (hm : m = l.length) (hs : m ≤ 1000000) : RuR (u.alloc (.cells cs 25)) (u.alloc (.cells cs 25)).heap.size (some ⟨u.heap.size, 0, none⟩) m m l := by
  have hl : cs.size = m * 2 := by have := congrArg List.length h; rw [runsL_length] at this; rw [hm]; simpa using this
  have hn := SrcL.new u 2 m cs 25 hl
  rw [h] at hn
  subst hm
  exact ⟨rfl, hn, (fun h => by cases h), Nat.le_refl _, by unfold maxLen; omega⟩
theorem sq12 : sqE zeroU 12 = 0 ∧ sqV zeroU 12 = [(18, 1)] := by decide +kernel
theorem sq139 : sqE zeroU 139 = 0 ∧ sqV zeroU 139 = [(18, 127), (0, 0)] := by decide +kernel
theorem sq321 : sqE zeroU 321 = 4 := by decide +kernel
def sxU (j : Nat) : Nat := if j = 0 then 16 else 0
theorem sq16 : sqE sxU 1 = 2 := by decide +kernel
theorem st1 : strO [(5, 0), (16, 0)] 4 = (0, [5, 5, 5, 5]) := by decide +kernel
theorem st2 : (strO [(5, 0), (16, 0)] 5).1 = 100 := by decide +kernel
theorem st3 : (strO [(16, 0)] 3).1 = 100 := by decide +kernel
theorem st4 : (strO [(19, 0)] 3).1 = 8 := by decide +kernel
theorem str5 : strB 4 (lst [5, 5, 5, 5]) = { data := #[5, 5, 5, 5] } := by kernel_rfl
theorem is_at (n m : Nat) (cs : Array Value) (l : List (Int × Int)) (h : cs.toList = runsL l) (hm : m = l.length) (hn : n ≤ 1000) (hs : m ≤ 1000) (he : sqE zeroU n = 0) (hv : sqV zeroU n = l) (u : World) :
    Calls Try.prog 8 #[.slice (some ⟨u.heap.size, 0, none⟩) n n, .slice (some ⟨u.heap.size + 1, 0, none⟩) m m] ((u.alloc (.cells (madeCells #[.int .u8 0] n) 5)).alloc (.cells cs 25)) fun e w' => e = .returned (.bool true) ∧ Below u.heap.size u w' := by
  obtain ⟨U, hU⟩ : ∃ U, U = u.alloc (.cells (madeCells #[.int .u8 0] n) 5) := ⟨_, rfl⟩
  have hby := by_made u n (by omega)
  rw [← hU] at hby ⊢
  have hs1 : U.heap.size = u.heap.size + 1 := by rw [hU]; simp
  have hru := ru_lit U cs m l h hm (by omega)
  rw [hs1] at hru
  have hb : Below U.heap.size U (U.alloc (.cells cs 25)) := (Below.refl _ _).alloc (Nat.le_refl _) _
  have hbu : Below u.heap.size u U := by rw [hU]; exact (Below.refl _ _).alloc (Nat.le_refl _) _
  refine (is10_any _ _ n n zeroU _ m m l ((hby.below hb (Nat.le_refl _)).more hb.size) hru.2.1 hm hs he hv).mono fun e w' q => ⟨q.1, ?_⟩
  exact (hbu.trans (hb.mono hbu.size)).trans (q.2.mono (Nat.le_trans hbu.size hb.size))
theorem str_at (m : Nat) (cs : Array Value) (l : List (Int × Int)) (h : cs.toList = runsL l) (hm : m = l.length) (hs : m ≤ 1000) (n E : Int) (hE : (strO l n).1 = E) (h1 : -9223372036854775808 ≤ n) (h2 : n ≤ 9223372036854775807) (u : World) :
    Calls Try.prog 9 #[.slice (some ⟨u.heap.size, 0, none⟩) m m, .int .i64 n] (u.alloc (.cells cs 25)) fun e w' => ∃ A' n' c', e = .returned (.tuple #[.slice A' n' c', .int .i64 E]) ∧ n' = (strO l n).2.length ∧ ByR w' w'.heap.size A' n' c' (lst (strO l n).2) ∧ Below u.heap.size u w' := by
  have hru := ru_lit u cs m l h hm (by omega)
  have hb : Below u.heap.size u (u.alloc (.cells cs 25)) := (Below.refl _ _).alloc (Nat.le_refl _) _
  refine (str10_any _ _ m m l n hru (by omega) h1 h2).mono fun e w' q => ?_
  obtain ⟨A', n', c', q1, q2, q3, q4, _⟩ := q
  rw [hE] at q1
  exact ⟨A', n', c', q1, q2, q3, hb.trans (q4.mono hb.size)⟩
set_option maxRecDepth 100000 in
set_option maxHeartbeats 4000000 in
theorem names10_law (w : World) : Calls Try.prog 3 #[] w fun e w' => e = .returned (.bool true) ∧ Below w.heap.size w w' := by
  have H1 := Lib.hid (is_at 12 1 #[.int .i64 18, .int .i64 1] [(18, 1)] rfl rfl (by omega) (by omega) sq12.1 sq12.2)
  have H2 := Lib.hid (is_at 139 2 #[.int .i64 18, .int .i64 127, .int .i64 0, .int .i64 0] [(18, 127), (0, 0)] rfl rfl (by omega) (by omega) sq139.1 sq139.2)
  have H3 : Hid (∀ u : World, Calls Try.prog 9 #[.slice (some ⟨u.heap.size, 0, none⟩) 2 2, .int .i64 4] (u.alloc (.cells #[.int .i64 5, .int .i64 0, .int .i64 16, .int .i64 0] 25)) fun e w' => ∃ A' c', e = .returned (.tuple #[.slice A' 4 c', .int .i64 0]) ∧ ByR w' w'.heap.size A' 4 c' (lst [5, 5, 5, 5]) ∧ RuR w' w'.heap.size (some ⟨u.heap.size, 0, none⟩) 2 2 [(5, 0), (16, 0)] ∧ Below u.heap.size u w') := Lib.hid fun u => by
    have hru := ru_lit u #[.int .i64 5, .int .i64 0, .int .i64 16, .int .i64 0] 2 [(5, 0), (16, 0)] rfl rfl (by omega)
    have hb : Below u.heap.size u (u.alloc (.cells #[.int .i64 5, .int .i64 0, .int .i64 16, .int .i64 0] 25)) := (Below.refl _ _).alloc (Nat.le_refl _) _
    refine (str10_any _ _ 2 2 _ 4 hru (by omega) (by omega) (by omega)).mono fun e w' q => ?_
    obtain ⟨A', n', c', q1, q2, q3, q4, _⟩ := q
    rw [st1] at q1 q2 q3
    obtain rfl : n' = 4 := q2
    exact ⟨A', c', q1, q3, (hru.below q4 (Nat.le_refl _)).more q4.size, hb.trans (q4.mono hb.size)⟩
  have H4 : Hid (∀ (u : World) (A : Option Addr), RuR u u.heap.size A 2 2 [(5, 0), (16, 0)] → Calls Try.prog 9 #[.slice A 2 2, .int .i64 5] u fun e w' => ∃ A' n' c', e = .returned (.tuple #[.slice A' n' c', .int .i64 100]) ∧ Below u.heap.size u w') := Lib.hid fun u A hru => by
    refine (str10_any _ _ 2 2 _ 5 hru (by omega) (by omega) (by omega)).mono fun e w' q => ?_
    obtain ⟨A', n', c', q1, q2, q3, q4, _⟩ := q
    rw [st2] at q1
    exact ⟨A', n', c', q1, q4⟩
  have H5 := Lib.hid (str_at 1 #[.int .i64 16, .int .i64 0] [(16, 0)] rfl rfl (by omega) 3 100 st3 (by omega) (by omega))
  have H6 := Lib.hid (str_at 1 #[.int .i64 19, .int .i64 0] [(19, 0)] rfl rfl (by omega) 3 8 st4 (by omega) (by omega))
  have H7 := Lib.hid (fun u => bits10_any u 18)
  rw [show bitV 18 = 7 by decide, show bitE 18 = 0 by decide] at H7
  have H8 : Hid (∀ u : World, Calls Try.prog 11 #[.slice (some ⟨u.heap.size, 0, none⟩) 1 1] (u.alloc (.cells #[.int .u8 16] 5)) fun e w' => ∃ A' n' c', e = .returned (.tuple #[.slice A' n' c', .int .i64 2]) ∧ Below u.heap.size u w') := Lib.hid fun u => by
    have hb : Below u.heap.size u (u.alloc (.cells #[.int .u8 16] 5)) := (Below.refl _ _).alloc (Nat.le_refl _) _
    have hby : ByR (u.alloc (.cells #[.int .u8 16] 5)) (u.alloc (.cells #[.int .u8 16] 5)).heap.size (some ⟨u.heap.size, 0, none⟩) 1 1 sxU :=
      ⟨rd_lit (fun j => by unfold sxU; split <;> omega) (heap_alloc_new u _) (fun j hj => by
        match j, hj with
        | 0, _ => rfl), (fun h => by cases h), Nat.le_refl _, by unfold maxLen; omega⟩
    refine (sq10_any _ _ 1 1 sxU hby).mono fun e w' q => ?_
    obtain ⟨A', n', c', q1, _, q4⟩ := q
    rw [sq16] at q1
    exact ⟨A', n', c', q1, hb.trans (q4.mono hb.size)⟩
  have H9 : Hid (∀ u : World, Calls Try.prog 11 #[.slice (some ⟨u.heap.size, 0, none⟩) 321 321] (u.alloc (.cells (madeCells #[.int .u8 0] 321) 5)) fun e w' => ∃ A' n' c', e = .returned (.tuple #[.slice A' n' c', .int .i64 4]) ∧ Below u.heap.size u w') := Lib.hid fun u => by
    have hb : Below u.heap.size u (u.alloc (.cells (madeCells #[.int .u8 0] 321) 5)) := (Below.refl _ _).alloc (Nat.le_refl _) _
    refine (sq10_any _ _ 321 321 zeroU (by_made u 321 (by omega))).mono fun e w' q => ?_
    obtain ⟨A', n', c', q1, _, q4⟩ := q
    rw [sq321] at q1
    exact ⟨A', n', c', q1, hb.trans (q4.mono hb.size)⟩
  have H10 := Lib.hid (fun u => bits10_any u 19)
  rw [show bitV 19 = 0 by decide, show bitE 19 = 2 by decide] at H10
  have H11 := Lib.hid aliveU_any
  have m1 := make_len8 12 (by omega)
  have m2 := make_len8 139 (by omega)
  have m3 := make_len8 321 (by omega)
  change ∀ u : World, (Instr.makeSlice 23 (.int .i64 12) (.int .i64 12)).run Try.prog u = _ at m1
  change ∀ u : World, (Instr.makeSlice 23 (.int .i64 139) (.int .i64 139)).run Try.prog u = _ at m2
  change ∀ u : World, (Instr.makeSlice 23 (.int .i64 321) (.int .i64 321)).run Try.prog u = _ at m3
  go_enter Try.func3, Try.ntmps3
  go_wp2_with fail
  refine (H1.out w).mono ?_
  rintro e w1 ⟨rfl, b1⟩
  have Q1 := Lib.hid b1
  clear b1
  go_wp2_with fail
  refine (H2.out w1).mono ?_
  rintro e w2 ⟨rfl, b2⟩
  have Q2 := Lib.hid (Q1.out.trans (b2.mono Q1.out.size))
  clear b2
  go_wp2_with fail
  refine (H3.out w2).mono ?_
  rintro e w3 ⟨B1, k1, rfl, hby1, hru3, b3⟩
  have Q3 := Lib.hid (Q2.out.trans (b3.mono Q2.out.size)); have HY3 := Lib.hid hby1; have HR3 := Lib.hid hru3
  clear b3 hby1 hru3
  go_wp2_with fail
  refine (H4.out w3 _ HR3.out).mono ?_
  rintro e w4 ⟨B4, n4, k4, rfl, b4⟩
  have Q4 := Lib.hid (Q3.out.trans (b4.mono Q3.out.size)); have HY4 := Lib.hid ((HY3.out.below b4 (Nat.le_refl _)).more b4.size)
  clear b4
  go_wp2_with fail
  refine (H5.out w4).mono ?_
  rintro e w5 ⟨B5, n5, k5, rfl, _, _, b5⟩
  have Q5 := Lib.hid (Q4.out.trans (b5.mono Q4.out.size)); have HY5 := Lib.hid ((HY4.out.below b5 (Nat.le_refl _)).more b5.size)
  clear b5
  go_wp2_with fail
  refine (H6.out w5).mono ?_
  rintro e w6 ⟨B6, n6, k6, rfl, _, _, b6⟩
  have Q6 := Lib.hid (Q5.out.trans (b6.mono Q5.out.size)); have HY6 := Lib.hid ((HY5.out.below b6 (Nat.le_refl _)).more b6.size)
  clear b6
  go_wp2_with fail
  refine (H7.out w6).mono ?_
  rintro e w7 ⟨rfl, b7⟩
  have Q7 := Lib.hid (Q6.out.trans (b7.mono Q6.out.size)); have HY7 := Lib.hid ((HY6.out.below b7 (Nat.le_refl _)).more b7.size)
  clear b7
  go_wp2_with fail
  refine (H8.out w7).mono ?_
  rintro e w8 ⟨B8, n8, k8, rfl, b8⟩
  have Q8 := Lib.hid (Q7.out.trans (b8.mono Q7.out.size)); have HY8 := Lib.hid ((HY7.out.below b8 (Nat.le_refl _)).more b8.size)
  clear b8
  go_wp2_with fail
  refine (H9.out w8).mono ?_
  rintro e w9 ⟨B9, n9, k9, rfl, b9⟩
  have Q9 := Lib.hid (Q8.out.trans (b9.mono Q8.out.size)); have HY9 := Lib.hid ((HY8.out.below b9 (Nat.le_refl _)).more b9.size)
  clear b9
  go_wp2_with fail
  refine (H10.out w9).mono ?_
  rintro e w10 ⟨rfl, b10⟩
  have Q10 := Lib.hid (Q9.out.trans (b10.mono Q9.out.size)); have HY10 := Lib.hid ((HY9.out.below b10 (Nat.le_refl _)).more b10.size)
  clear b10
  go_wp2_with fail
  refine (H11.out w10).mono ?_
  rintro e w11 ⟨rfl, b11⟩
  have Q11 := Lib.hid (Q10.out.trans (b11.mono Q10.out.size))
  have s1 := run_str (HY10.out.below b11 (Nat.le_refl _)).1 k1
  rw [str5] at s1
  clear b11
  go_wp2
  go_ret
  exact ⟨rfl, Q11.out⟩
-- LAW
set_option maxRecDepth 100000 in
theorem names10_law_lifted (os : Os) (started : os.Started) (H : Type) (enc : TypeId × Value → H) :
    ReturnsInHanded {} Try.checked os 3 .any (Rows.runsNamesSpec.pre6 enc Try.prog Try.f3 Rows.runsNamesRow.domain false) (Rows.runsNamesSpec.post enc Try.prog Try.f3 false true false false) := by
  refine returnsInHanded_of_change (C := Try.checked) own started (by kernel_rfl) Try.func3
    (ChangeSpec.witness6 (enc := enc) (C := Try.checked) false ⟨#[], #[], []⟩ 8 (by kernel_rfl) (by kernel_rfl) (by kernel_rfl) (by kernel_rfl)) ?_
  intro W base args ds gs before hval0 hW _ _
  have hval : ∀ (j : Nat) t v, Try.f3.params[j]? = some t → args[j]? = some v → Value.okWide Try.prog W .any base t v := hval0
  have hW' := hW
  obtain ⟨p, q, hA0, hV, rfl, _, _⟩ := hW
  have hA : DataW.TrodAll enc Try.prog W 0 (fun _ => true) true Try.f3.params.toList args.toList ds p := hA0
  rw [Try.params3] at hA
  obtain ⟨hargs, rfl, rfl⟩ := trodAll_nil hA
  obtain rfl : args = #[] := by cases args; simp_all
  obtain ⟨rfl, rfl⟩ := trodVars_none hV
  clear hA0 hval0
  refine (names10_law W ).mono fun e W' ⟨he, bel⟩ => ?_
  subst he
  exact ⟨_, rfl, _, _, _, [], _, [], hW', trodAll_mk1 (shut_bool Try.underlying4 _), trodAll_mk0, rfl, bel.frame _, fun h => by cases h⟩
theorem names10_law_holds : Rows.RunsNamesSaid :=
  OpenClaim.holds_of_wide 3 Try.f3 rfl rfl rfl rfl rfl rfl rfl ⟨rfl, rfl, rfl, rfl, rfl⟩ rfl rfl rfl rfl rfl (by kernel_rfl) Try.func3 (by kernel_rfl)
    (of_decide_eq_true (by kernel_rfl)) (by unfold Func.isWrapper; first | (rw [if_pos (by decide +kernel)]; kernel_rfl) | (rw [if_neg (by decide +kernel)]; exact ⟨rfl, rfl⟩))
    (fun os started H enc _ => names10_law_lifted os started H enc)
#print axioms names10_law_holds
end Go.Proofs.Ytgkbnmknlmapdaa
