/-
  The law CanonNames, which has no argument, returns true: the limits and errors have their numbers and the chapter's examples are so. No condition.
-/
import Derived.Test.YtghaffclincpnaaCanonBegins
namespace Go.Proofs.Ytghaffclincpnaa
open Go.RowKit Go.ChangeShapes Go.WideShapes Go.ChangeAt
theorem getD_none {l : List Nat} {j : Nat} (h : l.length ≤ j) : l.getD j 0 = 0 := by rw [List.getD_eq_getElem?_getD, List.getElem?_eq_none h]; rfl
theorem getD_lt {l : List Nat} {b : Nat} (h : ∀ x ∈ l, x < b) (hb : 0 < b) (j : Nat) : l.getD j 0 < b := by
  rcases Nat.lt_or_ge j l.length with hj | hj
  · rw [List.getD_eq_getElem?_getD, List.getElem?_eq_getElem hj]; exact h _ (List.getElem_mem hj)
  · rw [getD_none hj]; exact hb
def ls (l : List Nat) (j : Nat) : Nat := l.getD j 0
theorem ls_lt8 {l : List Nat} (h : ∀ x ∈ l, x < 256) (j : Nat) : ls l j < 256 := getD_lt h (by omega) j
theorem ls_lt32 {l : List Nat} (h : ∀ x ∈ l, x < 4294967296) (j : Nat) : ls l j < 4294967296 := getD_lt h (by omega) j
theorem rd_lits (w : World) (n : Nat) (l : List Nat) (cs : Array Value) (h : cs = (bytesL n (ls l)).toArray) (hl : ∀ x ∈ l, x < 256) : RdB (w.alloc (.cells cs 5)) (w.alloc (.cells cs 5)).heap.size (some ⟨w.heap.size, 0, none⟩) n (ls l) :=
  (row_new w n (ls l) cs h).rd (ls_lt8 hl)
theorem rd_made (w : World) (n : Nat) : RdB (w.alloc (.cells (madeCells #[.int .u8 0] n) 5)) (w.alloc (.cells (madeCells #[.int .u8 0] n) 5)).heap.size (some ⟨w.heap.size, 0, none⟩) n (ls []) := by
  refine rd_lits w n [] _ ?_ (by simp)
  apply Array.ext_getElem?
  intro i
  have e : madeCells #[.int .u8 0] n = (List.replicate n (Value.int .u8 0)).toArray := by
    rw [← toList_madeCells_one]
  rw [e]
  simp only [List.getElem?_toArray, bytesL_get, List.getElem?_replicate]
  split
  · rfl
  · rfl
theorem rd_nil (w : World) : RdB w w.heap.size none 0 (ls []) := ⟨ls_lt8 (by simp), fun h => absurd h (by omega)⟩
theorem rdC_two (w : World) (o : Obj) (n : Nat) (x l : Nat → Nat) (cs : Array Value) (h : cs = (codesL n x l).toArray) (hx : ∀ j, x j < 4294967296) (hl : ∀ j, l j < 256) :
    RdC ((w.alloc o).alloc (.cells cs 26)) ((w.alloc o).alloc (.cells cs 26)).heap.size (some ⟨w.heap.size + 1, 0, none⟩) n x l := by
  have h1 := rowC_new (w.alloc o) n x l cs h
  have e : (w.alloc o).heap.size = w.heap.size + 1 := by simp
  rw [e] at h1
  exact h1.rd hx hl
theorem rd_two (w : World) (o : Obj) (n : Nat) (l : List Nat) (cs : Array Value) (h : cs = (bytesL n (ls l)).toArray) (hl : ∀ x ∈ l, x < 256) :
    RdB ((w.alloc (.cells cs 5)).alloc o) ((w.alloc (.cells cs 5)).alloc o).heap.size (some ⟨w.heap.size, 0, none⟩) n (ls l) :=
  ((rd_lits w n l cs h hl).below ((Below.refl _ _).alloc (Nat.le_refl _) o) (Nat.le_refl _)).more (by simp)
theorem many_made : checkE (ls []) 321 15 = 4 := by unfold checkE; rw [if_neg (by omega), if_pos (by omega)]
theorem arg_nil : checkE (ls []) 0 0 = 2 := by unfold checkE; rw [if_pos (by omega)]
theorem ok_nil : checkE (ls []) 0 15 = 0 := by decide +kernel
set_option maxRecDepth 100000 in
set_option maxHeartbeats 4000000 in
theorem names_law (w : World) : Calls Try.prog 3 #[] w fun e w' => e = .returned (.bool true) ∧ Below w.heap.size w w' := by
  have hmk : ∀ u : World, (Instr.makeSlice 23 (.int .i64 321) (.int .i64 321)).run Try.prog u =
      .ok (.slice (some ⟨u.heap.size, 0, none⟩) 321 321) (u.alloc (.cells (madeCells #[.int .u8 0] 321) 5)) := fun u => by
    obtain ⟨i0, hi, hz0, hz1, hz2⟩ := info_parts infoU8
    have h := run_make (P := Try.prog) u 23 5 i0 (.int .u8 0) Try.underlying23 hi hz0 .i64 .i64 321 321 (by omega) (Int.le_refl _) (by rw [hz2]; omega) (by omega)
    simpa [hz1, Value.cells] using h
  have HMK := Lib.hid hmk
  clear hmk
  go_enter Try.func3, Try.ntmps3
  go_wp2_with fail
  refine (are_yes _ _ _ 3 3 3 (ls [0, 1, 0]) (ls [0, 0, 0]) (ls [0, 1, 0]) (rd_two w _ 3 [0, 1, 0] #[.int .u8 0, .int .u8 1, .int .u8 0] rfl (by decide)) (rdC_two w _ 3 (ls [0, 0, 0]) (ls [0, 1, 0]) #[.int .u32 0, .int .u8 0, .int .u32 0, .int .u8 1, .int .u32 0, .int .u8 0] rfl (ls_lt32 (by decide)) (ls_lt8 (by decide))) (by omega) (by decide +kernel) (by decide +kernel)).mono ?_
  rintro e w1 ⟨rfl, b1⟩
  have HB1 := Lib.hid ((((Below.refl w.heap.size w).alloc (Nat.le_refl _) _).alloc (by simp) _).trans (b1.mono (by simp; omega)))
  clear b1
  go_wp2_with fail
  refine (are_yes _ _ _ 2 2 2 (ls [0, 0]) (ls [0, 0]) (ls [0, 0]) (rd_two w1 _ 2 [0, 0] #[.int .u8 0, .int .u8 0] rfl (by decide)) (rdC_two w1 _ 2 (ls [0, 0]) (ls [0, 0]) #[.int .u32 0, .int .u8 0, .int .u32 0, .int .u8 0] rfl (ls_lt32 (by decide)) (ls_lt8 (by decide))) (by omega) (by decide +kernel) (by decide +kernel)).mono ?_
  rintro e w2 ⟨rfl, b2⟩
  have HB2 := Lib.hid (((HB1.out.alloc (by have := HB1.out.size; omega) _).alloc (by have := HB1.out.size; simp; omega) _).trans (b2.mono (by have := HB1.out.size; simp; omega)))
  clear b2
  go_wp2_with fail
  refine (are_yes _ _ _ 2 2 2 (ls [1, 1]) (ls [0, 1]) (ls [1, 1]) (rd_two w2 _ 2 [1, 1] #[.int .u8 1, .int .u8 1] rfl (by decide)) (rdC_two w2 _ 2 (ls [0, 1]) (ls [1, 1]) #[.int .u32 0, .int .u8 1, .int .u32 1, .int .u8 1] rfl (ls_lt32 (by decide)) (ls_lt8 (by decide))) (by omega) (by decide +kernel) (by decide +kernel)).mono ?_
  rintro e w3 ⟨rfl, b3⟩
  have HB3 := Lib.hid (((HB2.out.alloc (by have := HB2.out.size; omega) _).alloc (by have := HB2.out.size; simp; omega) _).trans (b3.mono (by have := HB2.out.size; simp; omega)))
  clear b3
  go_wp2_with fail
  refine (check_any _ _ 3 3 (ls [1, 1, 1]) 15 (rd_lits w3 3 [1, 1, 1] #[.int .u8 1, .int .u8 1, .int .u8 1] rfl (by decide)) (by omega)).mono ?_
  rintro e w4 ⟨rfl, b4⟩
  rw [show checkE (ls [1, 1, 1]) 3 15 = 30 from by decide +kernel]
  have HB4 := Lib.hid ((HB3.out.alloc (by have := HB3.out.size; omega) _).trans (b4.mono (by have := HB3.out.size; simp; omega)))
  clear b4
  go_wp2_with fail
  refine (check_any _ _ 2 2 (ls [2, 2]) 15 (rd_lits w4 2 [2, 2] #[.int .u8 2, .int .u8 2] rfl (by decide)) (by omega)).mono ?_
  rintro e w5 ⟨rfl, b5⟩
  rw [show checkE (ls [2, 2]) 2 15 = 31 from by decide +kernel]
  have HB5 := Lib.hid ((HB4.out.alloc (by have := HB4.out.size; omega) _).trans (b5.mono (by have := HB4.out.size; simp; omega)))
  clear b5
  go_wp2_with fail
  refine (check_any _ _ 1 1 (ls [2]) 15 (rd_lits w5 1 [2] #[.int .u8 2] rfl (by decide)) (by omega)).mono ?_
  rintro e w6 ⟨rfl, b6⟩
  rw [show checkE (ls [2]) 1 15 = 31 from by decide +kernel]
  have HB6 := Lib.hid ((HB5.out.alloc (by have := HB5.out.size; omega) _).trans (b6.mono (by have := HB5.out.size; simp; omega)))
  clear b6
  go_wp2_with fail
  refine (check_any _ _ 1 1 (ls [16]) 15 (rd_lits w6 1 [16] #[.int .u8 16] rfl (by decide)) (by omega)).mono ?_
  rintro e w7 ⟨rfl, b7⟩
  rw [show checkE (ls [16]) 1 15 = 2 from by decide +kernel]
  have HB7 := Lib.hid ((HB6.out.alloc (by have := HB6.out.size; omega) _).trans (b7.mono (by have := HB6.out.size; simp; omega)))
  clear b7
  go_wp2_with fail
  refine (alive_any w7).mono ?_
  rintro e w8 ⟨rfl, b8⟩
  have HB8 := Lib.hid (HB7.out.trans (b8.mono (by have := HB7.out.size; omega)))
  clear b8
  go_wp2_with fail
  refine (check_any _ none 0 0 (ls []) 0 (rd_nil w8) (by omega)).mono ?_
  rintro e w9 ⟨rfl, b9⟩
  rw [arg_nil]
  have HB9 := Lib.hid (HB8.out.trans (b9.mono (by have := HB8.out.size; omega)))
  clear b9
  have hmk := HMK.out
  go_wp2_with fail
  clear hmk
  refine (check_any _ _ 321 321 (ls []) 15 (rd_made w9 321) (by omega)).mono ?_
  rintro e w10 ⟨rfl, b10⟩
  rw [many_made]
  have HB10 := Lib.hid ((HB9.out.alloc (by have := HB9.out.size; omega) _).trans (b10.mono (by have := HB9.out.size; simp; omega)))
  clear b10
  go_wp2_with fail
  refine (check_any _ none 0 0 (ls []) 15 (rd_nil w10) (by omega)).mono ?_
  rintro e w11 ⟨rfl, b11⟩
  rw [ok_nil]
  have HB11 := Lib.hid (HB10.out.trans (b11.mono (by have := HB10.out.size; omega)))
  clear b11
  go_wp2
  go_ret
  exact ⟨rfl, HB11.out⟩
-- LAW
set_option maxRecDepth 100000 in
theorem names_law_lifted (os : Os) (started : os.Started) (H : Type) (enc : TypeId × Value → H) :
    ReturnsInHanded {} Try.checked os 3 .any (Rows.canonNamesSpec.pre6 enc Try.prog Try.f3 Rows.canonNamesRow.domain false) (Rows.canonNamesSpec.post enc Try.prog Try.f3 false true false false) := by
  refine returnsInHanded_of_change (C := Try.checked) own started (by kernel_rfl) Try.func3
    (ChangeSpec.witness6 (enc := enc) (C := Try.checked) false ⟨#[], #[], []⟩ 8 (by kernel_rfl) (by kernel_rfl) (by kernel_rfl) (by kernel_rfl)) ?_
  intro W base args ds gs before hval0 hW _ _
  have hval : ∀ (j : Nat) t v, Try.f3.params[j]? = some t → args[j]? = some v → Value.okWide Try.prog W .any base t v := hval0
  have hW' := hW
  obtain ⟨p, q, hA0, hV, rfl, _, _⟩ := hW
  have hA : DataW.TrodAll enc Try.prog W 0 (fun _ => true) true Try.f3.params.toList args.toList ds p := hA0
  rw [Try.params3] at hA
  obtain ⟨hargs, rfl, rfl⟩ := trodAll_nil hA
  obtain rfl : args = #[] := by cases args; simp_all
  obtain ⟨rfl, rfl⟩ := trodVars_none hV
  clear hA0 hval0
  refine (names_law W ).mono fun e W' ⟨he, bel⟩ => ?_
  subst he
  exact ⟨_, rfl, _, _, _, [], _, [], hW', trodAll_mk1 (shut_bool Try.underlying4 _), trodAll_mk0, rfl, bel.frame _, fun h => by cases h⟩
theorem names_law_holds : Rows.CanonNamesSaid :=
  OpenClaim.holds_of_wide 3 Try.f3 rfl rfl rfl rfl rfl rfl rfl ⟨rfl, rfl, rfl, rfl, rfl⟩ rfl rfl rfl rfl rfl (by kernel_rfl) Try.func3 (by kernel_rfl)
    (of_decide_eq_true (by kernel_rfl)) (by unfold Func.isWrapper; first | (rw [if_pos (by decide +kernel)]; kernel_rfl) | (rw [if_neg (by decide +kernel)]; exact ⟨rfl, rfl⟩))
    (fun os started H enc _ => names_law_lifted os started H enc)
#print axioms names_law_holds
end Go.Proofs.Ytghaffclincpnaa
