/-
  The law TokenPlays, for every bytes and tokens, returns true: tokens are checked, and played, as the document's own does; they stay, and what is answered is new memory. No condition.
-/
import Derived.Test.YtihfcjehpmiolaaTokCts
namespace Go.Proofs.Ytihfcjehpmiolaa
open Go.RowKit Go.ChangeShapes Go.WideShapes Go.ChangeAt Go.Joins
/-- append([]api.Token(nil), l...) -/
theorem run_twinT (w : World) (A : Option Addr) (n c : Nat) (l : List Tok) (hr : TkR w w.heap.size A n c l) (hn : n ≤ 1000000) :
    ∃ A' c' w', (Builtin.append_ #[28, 28] 28 #[.slice none 0 0, .slice A n c]).run Try.prog w = .ok (.slice A' n c') w' ∧ TkR w' w'.heap.size A' n c' l ∧ Below w.heap.size w w' := by
  obtain ⟨h1, h2, h3, _⟩ := hr
  subst h1
  obtain ⟨A', c', w', q1, q2, q3⟩ := run_app (by_ := 24) Try.underlying28 infoTok rfl (by decide) w w.heap.size w.heap.size (.slice none 0 0) 0 [] (World.ownsRow_nil w _ _ _) A l.length c (toksL l) h2 (toksL_one l) (by unfold maxLen; omega) (by omega) 28 h3 (Nat.le_refl _)
  rw [Nat.zero_add, List.nil_append] at q2
  rw [Nat.zero_add] at q1
  exact ⟨A', c', w', q1, TkR.of_own q2, q3⟩
/-- A row of bytes that may be written. -/
def WrB (w : World) (base : Nat) (A : Option Addr) (n : Nat) : Prop := 0 < n → ∃ (g o : Nat) (cur : Array Value) (F : Nat → Nat), A = some ⟨g, o, none⟩ ∧ base ≤ g ∧ w.heap[g]? = some (.cells cur 5 (0, 0)) ∧ (∀ j, F j < 256) ∧ ∀ j, j < n → cur[o + j]? = some (.int .u8 (F j : Int))
theorem WrB.of {w : World} {base B n : Nat} {A : Option Addr} {f : Nat → Nat} (h1 : NewB w base A n) (h2 : RdB w B A n f) : WrB w base A n := fun h0 => by
  obtain ⟨g, o, cur, rfl, q2, q3⟩ := h1 h0
  obtain ⟨b, o', e, _, hc⟩ := h2.2 h0
  injection e with e
  injection e with e1 e2 _
  subst e1; subst e2
  exact ⟨g, o, cur, f, rfl, q2, q3, h2.1, fun j hj => by rw [← cell_of_row w g (o + j) _ _ (0, 0) q3]; exact hc j hj⟩
theorem WrB.below {w w' : World} {base B n : Nat} {A : Option Addr} (h : WrB w base A n) (hb : Below B w w') (hB : w.heap.size ≤ B) : WrB w' base A n := fun h0 => by
  obtain ⟨g, o, cur, F, h1, h2, h3, h4, h5⟩ := h h0
  exact ⟨g, o, cur, F, h1, h2, (hb.block g (by have := (Array.getElem?_eq_some_iff.1 h3).1; omega)).trans h3, h4, h5⟩
theorem WrB.set {w : World} {base n g o : Nat} (h : WrB w base (some ⟨g, o, none⟩) n) {i : Nat} (hi : i < n) (x : Nat) (hx : x < 256) : WrB (w.setCell ⟨g, o + i, none⟩ (.int .u8 (x : Int))) base (some ⟨g, o, none⟩) n := fun h0 => by
  obtain ⟨g', o', cur, F, h1, h2, h3, h4, h5⟩ := h h0
  injection h1 with h1
  injection h1 with e1 e2 _
  subst e1; subst e2
  refine ⟨g, o, cur.setIfInBounds (o + i) (.int .u8 (x : Int)), upd F i x, rfl, h2, heap_setCell_same w g (o + i) cur _ _ h3, fun j => by unfold upd; split; exact hx; exact h4 j, fun j hj => ?_⟩
  rw [Array.getElem?_setIfInBounds, upd]
  have hs : o + i < cur.size := by
    rcases Nat.lt_or_ge (o + i) cur.size with q | q
    · exact q
    · have := h5 i hi; rw [Array.getElem?_eq_none q] at this; cases this
  by_cases e : j = i
  · subst e; simp [hs]
  · rw [if_neg (by omega), if_neg e]; exact h5 j hj
set_option maxRecDepth 100000 in
set_option maxHeartbeats 8000000 in
theorem plays8_law (A : Option Addr) (n c : Nat) (f : Nat → Nat) (A2 : Option Addr) (m c2 : Nat) (l : List Tok) (w : World) (hr : ByR w w.heap.size A n c f) (ht : TkR w w.heap.size A2 m c2 l) (hin : ∀ t ∈ l, TokIn t) :
    Calls Try.prog 5 #[.slice A n c, .slice A2 m c2] w fun e w' => e = .returned (.bool true) ∧ Below w.heap.size w w' := by
  by_cases hn1 : 5000 < n
  · have d1 : decide (5000 < (n : Int)) = true := by simp; omega
    clear hr ht hin
    go_enter Try.func5, Try.ntmps5
    go_wp2
    go_ret
    exact ⟨rfl, Below.refl _ _⟩
  have d1 : decide (5000 < (n : Int)) = false := by simp; omega
  by_cases hn2 : 300 < m
  · have d2 : decide (300 < (m : Int)) = true := by simp; omega
    clear hr ht hin
    go_enter Try.func5, Try.ntmps5
    go_wp2
    go_ret
    exact ⟨rfl, Below.refl _ _⟩
  have d2 : decide (300 < (m : Int)) = false := by simp; omega
  obtain ⟨A1, c1, w1, hrun, hown, hb1, _⟩ := run_twin w w.heap.size A n c f hr.1 (by omega) 22 hr.2.1
  have hby1 := ByR.of_own hown hr.1.1
  have ht1 := (ht.below hb1 (Nat.le_refl _)).more hb1.size
  obtain ⟨A3, c3, w2, hrun2, ht2, hb2⟩ := run_twinT w1 A2 m c2 l ht1 (by omega)
  have hml := ht.1
  obtain ⟨O, hO⟩ : ∃ O, O = plyO f n l := ⟨_, rfl⟩
  have hpl := play8_any w2 A1 n c1 f A3 m c3 l ((hby1.below hb2 (Nat.le_refl _)).more hb2.size) ht2 hin
  rw [← hO] at hpl
  have HRUN := Lib.hid hrun; have HRUN2 := Lib.hid hrun2; have HB2 := Lib.hid (hb1.trans (hb2.mono hb1.size)); have HPL := Lib.hid hpl; have HO := Lib.hid hO
  have HY1 := Lib.hid ((hby1.below hb2 (Nat.le_refl _)).more hb2.size); have HR2 := Lib.hid ((hr.below (hb1.trans (hb2.mono hb1.size)) (Nat.le_refl _)).more (hb1.trans (hb2.mono hb1.size)).size)
  have HT2 := Lib.hid ht2; have HL2 := Lib.hid ((ht1.below hb2 (Nat.le_refl _)).more hb2.size); have HIN := Lib.hid hin; have HML := Lib.hid hml
  clear hr ht hin hrun hrun2 hown hb1 hby1 ht1 ht2 hb2 hml hpl hO
  have tok1 : True := trivial
  go_enter Try.func5, Try.ntmps5
  go_wp2_with (first
    | (at_builtin; have _t := tok1; refine wpList_append_run rfl (.const (.slice none 0 0)) (.tmp 21) 22 rfl (.slice none 0 0) (.slice A n c) (.slice A1 n c1) w1 rfl rfl HRUN.out ?_; clear tok1)
    | (at_builtin; refine wpList_append_run rfl (.const (.slice none 0 0)) (.tmp 23) 28 rfl (.slice none 0 0) (.slice A2 m c2) (.slice A3 m c3) w2 rfl rfl HRUN2.out ?_))
  refine HPL.out.mono ?_
  rintro e w3 ⟨B1, n1, k1, rfl, hn', hby, hb, hnew⟩
  have HB3 := Lib.hid (HB2.out.trans (hb.mono HB2.out.size)); have HY3 := Lib.hid hb; have HX3 := Lib.hid hby
  have HW3 := Lib.hid (WrB.of hnew hby.1); have HN1 := Lib.hid hn'
  clear hn' hby hb hnew HPL
  go_wp2_with fail
  have hrp := rplay8_any w3 A n c f A2 c2 l ((HR2.out.below HY3.out (Nat.le_refl _)).more HY3.out.size) ((HL2.out.2.1.below HY3.out (Nat.le_refl _)).more HY3.out.size) (fun t h => (HIN.out t h).1)
  rw [← HO.out, ← HML.out] at hrp
  refine hrp.mono ?_
  rintro e w4 ⟨B2, n2, k2, rfl, hn', hby, hb, _⟩
  have HB4 := Lib.hid (HB3.out.trans (hb.mono HB3.out.size)); have HY4 := Lib.hid (HY3.out.trans (hb.mono HY3.out.size))
  have HW4 := Lib.hid (HW3.out.below hb (Nat.le_refl _))
  have hnn : n2 = n1 := by rw [hn', HN1.out]
  subst hnn
  have hx4 := (HX3.out.below hb (Nat.le_refl _))
  have s1 := run_str hx4.1 k1
  have s2 := run_str hby.1 k2
  obtain ⟨Z, hZ⟩ : ∃ Z, Z = strB n2 (lst O.2) := ⟨_, rfl⟩
  rw [← hZ] at s1 s2
  have z1 : (Z.toList != Z.toList) = false := by simp
  have hsm := rsame8_any w4 w2.heap.size A3 A2 c3 c2 l (HT2.out.2.1.below HY4.out (Nat.le_refl _)) (HL2.out.2.1.below HY4.out (Nat.le_refl _)) (by rw [← HML.out]; omega)
  rw [← HML.out] at hsm
  have HSM := Lib.hid hsm
  have hE : (O.1 != O.1) = false := by simp
  have hnb : n2 ≤ 9223372036854775807 := by have h1 := HX3.out.2.2.1; have h2 := HX3.out.2.2.2; unfold maxLen at h2; omega
  clear hn' hby hb hx4 hZ hsm hrp
  go_wp2_with fail
  refine HSM.out.mono ?_
  rintro e w5 ⟨rfl, q5, rfl⟩
  have HB5 := Lib.hid (Drw.below ⟨q5, rfl⟩ HB4.out); have HY5 := Lib.hid (Drw.below ⟨q5, rfl⟩ HY4.out)
  have HW5 : Hid (WrB (w4.drewN q5) w2.heap.size B1 n2) := Lib.hid HW4.out
  have HD5 : Hid (Below w4.heap.size w4 (w4.drewN q5)) := Lib.hid (Drw.below ⟨q5, rfl⟩ (Below.refl _ _))
  obtain ⟨V, hV⟩ : ∃ V, V = w4.drewN q5 := ⟨_, rfl⟩
  rw [← hV] at HB5 HY5 HW5 HD5 ⊢
  clear hV s1 s2 z1 HSM HB4 HY4 HW4 HB3 HY3 HW3 HX3
  go_wp2
  go_loopw [11] (fun iv wr => ∃ i : Nat, i ≤ m ∧ iv = .int .i64 (i : Int) ∧ Hid (Below V.heap.size V wr)) (fun iv _ => m - (intOf iv).toNat)
  case atStart => exact ⟨0, Nat.zero_le _, rfl, Lib.hid (Below.refl _ _)⟩
  case round =>
    obtain ⟨i, hi, rfl, HB⟩ := hrel
    by_cases hlt : i < m
    · have hlti : (i : Int) < (m : Int) := by omega
      have hil : i < l.length := by rw [← HML.out]; exact hlt
      have htw := (HL2.out.2.1.below HY5.out (Nat.le_refl _)).below HB.out HY5.out.size
      obtain ⟨b, o, rfl, hbl, hc⟩ := htw.at hil
      have hbw : b < wr.heap.size := by have := HB.out.size; have := HY5.out.size; omega
      have hrg := htw.range rfl hil
      have hint := HIN.out (l.getD i tok0) (by rw [List.getD_eq_getElem?_getD, List.getElem?_eq_getElem hil]; exact List.getElem_mem hil)
      obtain ⟨t, hte⟩ : ∃ t, t = l.getD i tok0 := ⟨_, rfl⟩
      rw [← hte] at hrg hint
      obtain ⟨y, hy⟩ : ∃ y, y = tokE t := ⟨_, rfl⟩
      have S1 : ∀ V : World, Below wr.heap.size wr V → Calls Try.prog 19 #[.agg (tokC t).toArray] V fun e V' => e = .returned (.int .i64 y) ∧ Below wr.heap.size wr V' := fun V hV =>
        (tok8_any V t hint).mono fun _ _ ⟨h1, h2⟩ => ⟨by rw [hy]; exact h1, hV.trans (h2.mono hV.size)⟩
      have S2 : ∀ V : World, Below wr.heap.size wr V → Calls Try.prog 20 #[.agg (tokC t).toArray] V fun e V' => e = .returned (.int .i64 y) ∧ Below wr.heap.size wr V' := fun V hV =>
        (rchk8_any V t).mono fun _ _ ⟨h1, h2⟩ => ⟨by rw [hy]; exact h1, hV.trans (h2.mono hV.size)⟩
      have LX : ∀ V : World, (∃ p : After wr.heap.size wr, V = p.w) → V.rangeAt b (o + i * 3) (tokC t) := fun V ⟨p, hp⟩ => by
        subst hp; intro j v hv; exact (p.h.cell (p := ⟨b, o + i * 3 + j, none⟩) hbw).trans (hrg j v hv)
      have hyy : (y != y) = false := by simp
      have T1 := Lib.hid S1; have T2 := Lib.hid S2; have RX := Lib.hid LX
      clear hc htw hrg hte hint S1 S2 LX hil hy
      go_wp2
      refine wp_region_after wr.heap.size wr (Below.refl _ _) (by kernel_rfl) (by kernel_rfl) ?_
      repeat (first
        | (go_big_quiet_want; with_reducible refine quiet_load_row _ _ rfl _ _ rfl _ _ RX.out Try.underlying27 rfl (szTokC t) ?_; go_big_quiet_on; simp only [Act.put, List.setIfInBounds_toArray, List.set_cons_zero, List.set_cons_succ])
        | (go_big_quiet_step (first | (with_reducible exact call_after T1.out _) | (with_reducible exact call_after T2.out _))))
      refine wpQuiet_nil ?_
      rintro U ⟨⟨U, hU⟩, rfl⟩
      have HU := Lib.hid (HB.out.trans (hU.mono HB.out.size))
      clear hU
      go_wp2
      go_roundw
      case rel => exact ⟨i + 1, by omega, by go_num, HU⟩
      case measure => simp [intOf]; omega
    · obtain rfl : i = m := by omega
      have hlti : ¬ (i : Int) < (i : Int) := by omega
      have HB6 := Lib.hid (HB5.out.trans (HB.out.mono HB5.out.size)); have HY6 := Lib.hid (HY5.out.trans (HB.out.mono HY5.out.size))
      have HW6 := Lib.hid (HW5.out.below HB.out (Nat.le_refl _))
      go_wp2
      go_loopw [12] (fun jv wr => ∃ j : Nat, j ≤ n2 ∧ jv = .int .i64 (j : Int) ∧ Hid (Below w.heap.size w wr) ∧ Hid (Below w2.heap.size w2 wr) ∧ Hid (WrB wr w2.heap.size B1 n2)) (fun jv _ => n2 - (intOf jv).toNat)
      case atStart => exact ⟨0, Nat.zero_le _, rfl, HB6, HY6, HW6⟩
      case round =>
        obtain ⟨j, hj, rfl, HB, HY, HW⟩ := hrel
        by_cases hlt : j < n2
        · have hltj : (j : Int) < (n2 : Int) := by omega
          obtain ⟨g, o, cur, F, rfl, hg, hh, hF, hcu⟩ := HW.out (by omega)
          have c1 : wr.cell? ⟨g, o + j, none⟩ = some (.int .u8 (F j : Int)) := by rw [cell_of_row wr g _ _ _ (0, 0) hh]; exact hcu j hlt
          have f1 : wr.frozen? ⟨g, o + j, none⟩ = false := frozen_of_row wr g _ _ _ hh
          have hFj := hF j
          obtain ⟨u, hu⟩ : ∃ u, u = F j := ⟨_, rfl⟩
          rw [← hu] at c1 hFj
          obtain ⟨x, hx⟩ : ∃ x, x = (u + 1) % 256 := ⟨_, rfl⟩
          have hw8 : IntKind.u8.wrap ((u : Int) + 1) = (x : Int) := by rw [IntKind.wrap_u8]; omega
          have hset := HW.out.set hlt x (by omega)
          have hb1 := HB.out.setCell (p := ⟨g, o + j, none⟩) (by show w.heap.size ≤ g; have := HB2.out.size; omega) (.int .u8 (x : Int))
          have hy1 := HY.out.setCell (p := ⟨g, o + j, none⟩) (by show w2.heap.size ≤ g; omega) (.int .u8 (x : Int))
          have HS1 := Lib.hid hset; have HBS := Lib.hid hb1; have HYS := Lib.hid hy1
          clear hset hb1 hy1 hu hx hh hcu hF
          go_wp2
          go_roundw
          case rel => exact ⟨j + 1, by omega, by go_num, HBS, HYS, HS1⟩
          case measure => simp [intOf]; omega
        · obtain rfl : j = n2 := by omega
          have hltj : ¬ (j : Int) < (j : Int) := by omega
          have s1 := run_str (HY1.out.1.below HY.out (Nat.le_refl _)) c1
          have s2 := run_str (HR2.out.1.below HY.out (Nat.le_refl _)) c
          go_wp2
          go_ret
          exact ⟨rfl, HB.out⟩
-- LAW
set_option maxRecDepth 100000 in
theorem plays8_law_lifted (os : Os) (started : os.Started) (H : Type) (enc : TypeId × Value → H) :
    ReturnsInHanded {} Try.checked os 5 .any (Rows.tokenPlaysSpec.pre6 enc Try.prog Try.f5 Rows.tokenPlaysRow.domain false) (Rows.tokenPlaysSpec.post enc Try.prog Try.f5 false true false false) := by
  refine returnsInHanded_of_change (C := Try.checked) own started (by kernel_rfl) Try.func5
    (ChangeSpec.witness6 (enc := enc) (C := Try.checked) false ⟨#[], #[.slice none 0 0, .slice none 0 0], []⟩ 8 (by kernel_rfl) (by kernel_rfl) (by kernel_rfl) (by kernel_rfl)) ?_
  intro W base args ds gs before hval0 hW _ _
  have hval : ∀ (j : Nat) t v, Try.f5.params[j]? = some t → args[j]? = some v → Value.okWide Try.prog W .any base t v := hval0
  have hW' := hW
  obtain ⟨p, q, hA0, hV, rfl, _, _⟩ := hW
  have hA : DataW.TrodAll enc Try.prog W 0 (fun _ => true) true Try.f5.params.toList args.toList ds p := hA0
  rw [Try.params5] at hA hval
  obtain ⟨v0, vs0, d0, ds0, p0, q0, hargs, rfl, rfl, h0, r0⟩ := trodAll_cons hA
  obtain ⟨v1, vs1, d1, ds1, p1, q1, rfl, rfl, rfl, h1, r1⟩ := trodAll_cons r0
  obtain ⟨rfl, rfl, rfl⟩ := trodAll_nil r1
  obtain rfl : args = #[v0, v1] := by cases args; simp_all
  obtain ⟨rfl, rfl⟩ := trodVars_none hV
  have k0 := h0
  have lt0 : ∀ x ∈ p0, x.block < W.heap.size := by obtain ⟨m, hm⟩ := k0; exact DataW.trod_lt m _ _ _ hm
  obtain ⟨A0, len0, cap0, rfl⟩ := okWide_slice Try.underlying22 (hval 0 22 v0 rfl rfl)
  obtain ⟨f0, hr0⟩ := open_byr h0
  have k1 := h1
  have lt1 : ∀ x ∈ p1, x.block < W.heap.size := by obtain ⟨m, hm⟩ := k1; exact DataW.trod_lt m _ _ _ hm
  obtain ⟨A1, len1, cap1, rfl⟩ := okWide_slice Try.underlying28 (hval 1 28 v1 rfl rfl)
  obtain ⟨l1, hr1, hin1⟩ := open_toks h1
  clear hA0 hval0
  refine (plays8_law A0 len0 cap0 f0 A1 len1 cap1 l1 W hr0 hr1 hin1).mono fun e W' ⟨he, bel⟩ => ?_
  subst he
  exact ⟨_, rfl, _, _, _, [], _, [], hW', trodAll_mk1 (shut_bool Try.underlying4 _), (trodAll_cons_mk (Below.trod laidOut (by kernel_rfl) (of_decide_eq_true (by kernel_rfl)) k0 bel lt0) (trodAll_cons_mk (Below.trod laidOut (by kernel_rfl) (of_decide_eq_true (by kernel_rfl)) k1 bel lt1) trodAll_mk0)), rfl, bel.frame _, fun h => by cases h⟩
theorem plays8_law_holds : Rows.TokenPlaysSaid :=
  OpenClaim.holds_of_wide 5 Try.f5 rfl rfl rfl rfl rfl rfl rfl ⟨rfl, rfl, rfl, rfl, rfl⟩ rfl rfl rfl rfl rfl (by kernel_rfl) Try.func5 (by kernel_rfl)
    (of_decide_eq_true (by kernel_rfl)) (by unfold Func.isWrapper; first | (rw [if_pos (by decide +kernel)]; kernel_rfl) | (rw [if_neg (by decide +kernel)]; exact ⟨rfl, rfl⟩))
    (fun os started H enc _ => plays8_law_lifted os started H enc)
#print axioms plays8_law_holds
end Go.Proofs.Ytihfcjehpmiolaa
