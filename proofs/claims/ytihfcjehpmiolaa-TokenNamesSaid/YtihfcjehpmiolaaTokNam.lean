/-
  The law TokenNames returns true: the limits and errors have their numbers, and the chapter's examples are so.
-/
import Derived.Test.YtihfcjehpmiolaaTokAlv
import Derived.Lib.SlBytesConst
namespace Go.Proofs.Ytihfcjehpmiolaa
open Go.RowKit Go.ChangeShapes Go.WideShapes Go.ChangeAt Go.Joins
def abc8 : List Nat := [97, 98, 99]
theorem tk_new (w : World) (l : List Tok) (cs : Array Value) (h : cs.toList = toksL l) (hl : l.length ≤ 10) : TkR (w.alloc (.cells cs 27)) (w.alloc (.cells cs 27)).heap.size (some ⟨w.heap.size, 0, none⟩) l.length l.length l := by
  have hs : cs.size = l.length * 3 := by rw [← Array.length_toList, h, toksL_length]
  refine ⟨rfl, ?_, (fun h => by cases h), Nat.le_refl _, ?_⟩
  · have := SrcL.new w 3 l.length cs 27 hs
    rw [h] at this
    exact this
  · unfold maxLen; omega
/-- The bytes of "abc", and some tokens behind them. -/
theorem abc_tks (w : World) (l : List Tok) (cs : Array Value) (h : cs.toList = toksL l) (hl : l.length ≤ 10) : ∃ V, V = (w.alloc (.cells #[.int .u8 97, .int .u8 98, .int .u8 99] 5 (3, 4))).alloc (.cells cs 27) ∧ Below w.heap.size w V ∧
    ByR V V.heap.size (some ⟨w.heap.size, 0, none⟩) 3 3 (lst abc8) ∧ TkR V V.heap.size (some ⟨w.heap.size + 1, 0, none⟩) l.length l.length l := by
  obtain ⟨W1, hW1⟩ : ∃ W1, W1 = w.alloc (.cells #[.int .u8 97, .int .u8 98, .int .u8 99] 5 (3, 4)) := ⟨_, rfl⟩
  have hb1 : Below w.heap.size w W1 := by rw [hW1]; exact (Below.refl _ _).alloc (Nat.le_refl _) _
  have hs1 : W1.heap.size = w.heap.size + 1 := by rw [hW1]; simp
  have hrow : W1.heap[w.heap.size]? = some (.cells #[.int .u8 97, .int .u8 98, .int .u8 99] 5 (3, 4)) := by rw [hW1]; exact heap_alloc_new w _
  have ha6 : ∀ x ∈ abc8, x < 256 := by decide
  have hr1 : RdB W1 W1.heap.size (some ⟨w.heap.size, 0, none⟩) 3 (lst abc8) := ⟨lst_lt ha6, fun _ => ⟨w.heap.size, 0, rfl, by omega, fun j hj => by
    rw [cell_of_row W1 _ _ _ _ (3, 4) hrow, Nat.zero_add]
    have : j = 0 ∨ j = 1 ∨ j = 2 := by omega
    rcases this with rfl | rfl | rfl <;> rfl⟩⟩
  obtain ⟨V, hV⟩ : ∃ V, V = W1.alloc (.cells cs 27) := ⟨_, rfl⟩
  have hb2 : Below W1.heap.size W1 V := by rw [hV]; exact (Below.refl _ _).alloc (Nat.le_refl _) _
  have hs : cs.size = l.length * 3 := by rw [← Array.length_toList, h, toksL_length]
  have ht := SrcL.new W1 3 l.length cs 27 hs
  rw [h, ← hV, hs1] at ht
  refine ⟨V, by rw [hV, hW1], hb1.trans (hb2.mono hb1.size), ⟨(hr1.below hb2 (Nat.le_refl _)).more hb2.size, (fun h => by cases h), Nat.le_refl _, by unfold maxLen; omega⟩, ⟨rfl, ht, (fun h => by cases h), Nat.le_refl _, by unfold maxLen; omega⟩⟩
theorem play_told (w : World) (A : Option Addr) (n c : Nat) (f : Nat → Nat) (A2 : Option Addr) (m c2 : Nat) (l : List Tok) (O : Int × List Nat) (hO : (plyO f n l).1 = O.1) (hO2 : (plyO f n l).2 = O.2) (hr : ByR w w.heap.size A n c f) (ht : TkR w w.heap.size A2 m c2 l) (hin : ∀ t ∈ l, TokIn t) :
    Calls Try.prog 9 #[.slice A n c, .slice A2 m c2] w fun e w' => ∃ A' n' c', e = .returned (.tuple #[.slice A' n' c', .int .i64 O.1]) ∧ n' = O.2.length ∧ ByR w' w'.heap.size A' n' c' (lst O.2) ∧ Below w.heap.size w w' := by
  rw [← hO, ← hO2]
  exact (play8_any w A n c f A2 m c2 l hr ht hin).mono fun _ _ ⟨a, b, c, h1, h2, h3, h4, _⟩ => ⟨a, b, c, h1, h2, h3, h4⟩
theorem tokIn_small (l : List Tok) (h : l.all (fun t => decide (t.x < 256 ∧ 0 ≤ t.d ∧ t.d ≤ 1000 ∧ 0 ≤ t.n ∧ t.n ≤ 1000)) = true) : ∀ t ∈ l, TokIn t := fun t ht => by
  have := of_decide_eq_true (List.all_eq_true.1 h t ht)
  exact ⟨this.1, by omega, by omega⟩
set_option maxRecDepth 100000 in
set_option maxHeartbeats 4000000 in
theorem names8_law (w : World) : Calls Try.prog 3 #[] w fun e w' => e = .returned (.bool true) ∧ Below w.heap.size w w' := by
  have kc := fun (w : World) (C : Array Value) (n c : Nat) => Lib.run_convert_bytes_const (P := Try.prog) w 22 5 C n c Try.underlying22 Try.underlying5
  obtain ⟨V1, hV1, hb1, hy1, ht1⟩ := abc_tks w [⟨0, 3, 5⟩, ⟨120, 0, 0⟩] #[.int .u8 0, .int .i64 3, .int .i64 5, .int .u8 120, .int .i64 0, .int .i64 0] rfl (by decide)
  have hp1 := play_told V1 _ 3 3 _ _ 2 2 _ (0, [97, 98, 99, 97, 98, 120]) (by decide +kernel) (by decide +kernel) hy1 ht1 (tokIn_small _ (by decide))
  have HP1 := Lib.hid hp1; have HV1 := Lib.hid hV1; have HB1 := Lib.hid hb1
  clear hp1 hV1 hb1 hy1 ht1
  go_enter Try.func3, Try.ntmps3
  go_wp2_with fail
  rw [← HV1.out]
  refine HP1.out.mono ?_
  rintro e w1 ⟨A1, n1, k1, rfl, hn1, hby1, hb⟩
  have HC1 := Lib.hid (HB1.out.trans (hb.mono HB1.out.size))
  have HY1 := Lib.hid hby1
  replace hn1 : n1 = 6 := hn1
  subst hn1
  obtain ⟨V2, hV2⟩ : ∃ V2, V2 = w1.alloc (.cells #[.int .u8 0, .int .i64 1, .int .i64 3] 27) := ⟨_, rfl⟩
  have ht2 := tk_new w1 [⟨0, 1, 3⟩] #[.int .u8 0, .int .i64 1, .int .i64 3] rfl (by decide)
  rw [← hV2] at ht2
  have hb2 : Below w1.heap.size w1 V2 := by rw [hV2]; exact (Below.refl _ _).alloc (Nat.le_refl _) _
  have hp2 := play_told V2 none 0 0 (fun _ => 0) _ 1 1 _ (60, []) (by decide +kernel) (by decide +kernel) (ByR.nil _ _ _ (fun _ => by decide)) ht2 (tokIn_small _ (by decide))
  have HP2 := Lib.hid hp2; have HV2 := Lib.hid hV2; have HB2 := Lib.hid (HC1.out.trans (hb2.mono HC1.out.size)); have HK2 := Lib.hid hb2
  clear hp2 hV2 ht2 hb2 hb hby1 HC1 HB1 HP1 HV1
  go_wp2_with fail
  rw [← HV2.out]
  refine HP2.out.mono ?_
  rintro e w2 ⟨A2, n2, k2, rfl, hn2, _, hb⟩
  have HC2 := Lib.hid (HB2.out.trans (hb.mono HB2.out.size)); have HD2 := Lib.hid (HK2.out.trans (hb.mono HK2.out.size))
  replace hn2 : n2 = 0 := hn2
  subst hn2
  obtain ⟨V3, hV3, hb3, hy3, ht3⟩ := abc_tks w2 [⟨0, 1, 2⟩] #[.int .u8 0, .int .i64 1, .int .i64 2] rfl (by decide)
  have hp3 := play_told V3 _ 3 3 _ _ 1 1 _ (8, []) (by decide +kernel) (by decide +kernel) hy3 ht3 (tokIn_small _ (by decide))
  have HP3 := Lib.hid hp3; have HV3 := Lib.hid hV3; have HB3 := Lib.hid (HC2.out.trans (hb3.mono HC2.out.size)); have HK3 := Lib.hid (HD2.out.trans (hb3.mono HD2.out.size))
  clear hp3 hV3 hb3 hy3 ht3 hb HB2 HP2 HV2 HK2 HC2 HD2
  go_wp2_with fail
  rw [← HV3.out]
  refine HP3.out.mono ?_
  rintro e w3 ⟨A3, n3, k3, rfl, hn3, _, hb⟩
  have HC3 := Lib.hid (HB3.out.trans (hb.mono HB3.out.size)); have HD3 := Lib.hid (HK3.out.trans (hb.mono HK3.out.size))
  replace hn3 : n3 = 0 := hn3
  subst hn3
  clear hb HB3 HK3 HP3 HV3
  go_wp2_with fail
  refine (style8_any w3 false).mono ?_
  rintro e w4 ⟨rfl, hb⟩
  have HC4 := Lib.hid (HC3.out.trans (hb.mono HC3.out.size)); have HD4 := Lib.hid (HD3.out.trans (hb.mono HD3.out.size))
  have hcu := cut8_any w4 none 0 0 (fun _ => 0) 1 32 9 100 false (ByR.nil _ _ _ (fun _ => by decide)) (by decide) (by decide)
  rw [show cutE 0 1 32 9 100 = 2 from by decide +kernel] at hcu
  have HCU := Lib.hid hcu
  clear hb hcu HC3 HD3
  go_wp2_with fail
  refine HCU.out.mono ?_
  rintro e w5 ⟨A5, n5, k5, rfl, _, hb⟩
  have HC5 := Lib.hid (HC4.out.trans (hb.mono HC4.out.size)); have HD5 := Lib.hid (HD4.out.trans (hb.mono HD4.out.size))
  have hcu := cut8_any w5 none 0 0 (fun _ => 0) 0 0 0 0 false (ByR.nil _ _ _ (fun _ => by decide)) (by decide) (by decide)
  rw [show cutE 0 0 0 0 0 = 8 from by decide +kernel] at hcu
  have HCU := Lib.hid hcu
  clear hb hcu HC4 HD4
  go_wp2_with fail
  refine HCU.out.mono ?_
  rintro e w6 ⟨A6, n6, k6, rfl, _, hb⟩
  have HC6 := Lib.hid (HC5.out.trans (hb.mono HC5.out.size)); have HD6 := Lib.hid (HD5.out.trans (hb.mono HD5.out.size))
  clear hb HC5 HD5 HCU
  go_wp2_with fail
  refine (tells_2 w6).mono ?_
  rintro e w7 ⟨rfl, hb⟩
  have HC7 := Lib.hid (HC6.out.trans (hb.mono HC6.out.size)); have HD7 := Lib.hid (HD6.out.trans (hb.mono HD6.out.size))
  clear hb HC6 HD6
  go_wp2_with fail
  refine (tells_3 w7).mono ?_
  rintro e w8 ⟨rfl, hb⟩
  have HC8 := Lib.hid (HC7.out.trans (hb.mono HC7.out.size)); have HD8 := Lib.hid (HD7.out.trans (hb.mono HD7.out.size))
  clear hb HC7 HD7
  go_wp2_with fail
  refine (alive8_any w8).mono ?_
  rintro e w9 ⟨rfl, hb⟩
  have HC9 := Lib.hid (HC8.out.trans (hb.mono HC8.out.size)); have HD9 := Lib.hid (HD8.out.trans (hb.mono HD8.out.size))
  have s1 := run_str (HY1.out.1.below HD9.out (Nat.le_refl _)) k1
  replace s1 : (convert 22 9 (.slice A1 6 k1)).run Try.prog w9 = .ok (.string (strL [97, 98, 99, 97, 98, 120])) w9 := s1
  rw [show strL [97, 98, 99, 97, 98, 120] = ⟨#[97, 98, 99, 97, 98, 120]⟩ from by decide +kernel] at s1
  clear hb HC8 HD8 HY1
  go_wp2
  go_ret
  exact ⟨rfl, HC9.out⟩
-- LAW
set_option maxRecDepth 100000 in
theorem names8_law_lifted (os : Os) (started : os.Started) (H : Type) (enc : TypeId × Value → H) :
    ReturnsInHanded {} Try.checked os 3 .any (Rows.tokenNamesSpec.pre6 enc Try.prog Try.f3 Rows.tokenNamesRow.domain false) (Rows.tokenNamesSpec.post enc Try.prog Try.f3 false true false false) := by
  refine returnsInHanded_of_change (C := Try.checked) own started (by kernel_rfl) Try.func3
    (ChangeSpec.witness6 (enc := enc) (C := Try.checked) false ⟨#[], #[], []⟩ 8 (by kernel_rfl) (by kernel_rfl) (by kernel_rfl) (by kernel_rfl)) ?_
  intro W base args ds gs before hval0 hW _ _
  have hval : ∀ (j : Nat) t v, Try.f3.params[j]? = some t → args[j]? = some v → Value.okWide Try.prog W .any base t v := hval0
  have hW' := hW
  obtain ⟨p, q, hA0, hV, rfl, _, _⟩ := hW
  have hA : DataW.TrodAll enc Try.prog W 0 (fun _ => true) true Try.f3.params.toList args.toList ds p := hA0
  rw [Try.params3] at hA
  obtain ⟨hargs, rfl, rfl⟩ := trodAll_nil hA
  obtain rfl : args = #[] := by cases args; simp_all
  obtain ⟨rfl, rfl⟩ := trodVars_none hV
  clear hA0 hval0
  refine (names8_law W ).mono fun e W' ⟨he, bel⟩ => ?_
  subst he
  exact ⟨_, rfl, _, _, _, [], _, [], hW', trodAll_mk1 (shut_bool Try.underlying4 _), trodAll_mk0, rfl, bel.frame _, fun h => by cases h⟩
theorem names8_law_holds : Rows.TokenNamesSaid :=
  OpenClaim.holds_of_wide 3 Try.f3 rfl rfl rfl rfl rfl rfl rfl ⟨rfl, rfl, rfl, rfl, rfl⟩ rfl rfl rfl rfl rfl (by kernel_rfl) Try.func3 (by kernel_rfl)
    (of_decide_eq_true (by kernel_rfl)) (by unfold Func.isWrapper; first | (rw [if_pos (by decide +kernel)]; kernel_rfl) | (rw [if_neg (by decide +kernel)]; exact ⟨rfl, rfl⟩))
    (fun os started H enc _ => names8_law_lifted os started H enc)
#print axioms names8_law_holds
end Go.Proofs.Ytihfcjehpmiolaa
