/-
  The law MatchLonger, for every bytes and numbers, returns true: with a longer chain, or a larger window, nothing shorter is found. No condition.
-/
import Derived.Test.YtkgpbdlhjhbijaaMatAlv
namespace Go.Proofs.Ytkgpbdlhjhbijaa
open Go.RowKit Go.ChangeShapes Go.WideShapes Go.ChangeAt Go.Joins
theorem fin_args {f : Nat → Nat} {n : Nat} {a s h : Int} (hE : finE f n a s h = 0 ∨ finE f n a s h = 6) : ¬ 131072 < n ∧ 0 ≤ a ∧ a ≤ (n : Int) ∧ 1 ≤ s ∧ s ≤ 32768 ∧ 0 ≤ h ∧ h ≤ 256 := by
  unfold finE at hE
  split at hE
  · omega
  · split at hE
    · rename_i h1 h2; exact ⟨h1, h2⟩
    · omega
theorem fin_ok {f : Nat → Nat} {n a s h : Nat} (hn : ¬ 131072 < n) (ha : a ≤ n) (hs : 1 ≤ s) (hs2 : s ≤ 32768) (hh : h ≤ 256) : finT f n a s h = bstN f n a s a h 0 0 ∧ (finE f n a s h = 0 ∨ finE f n a s h = 6) := by
  have hc : 0 ≤ (a : Int) ∧ (a : Int) ≤ (n : Int) ∧ 1 ≤ (s : Int) ∧ (s : Int) ≤ 32768 ∧ 0 ≤ (h : Int) ∧ (h : Int) ≤ 256 := by omega
  refine ⟨?_, ?_⟩
  · unfold finT; rw [if_pos ⟨hn, hc⟩]; rfl
  · unfold finE; rw [if_neg hn, if_pos hc]; split
    · right; rfl
    · left; rfl
/-- What a call of Find answers, told by numbers. -/
def FindIs (A : Option Addr) (n c : Nat) (f : Nat → Nat) (a s h : Int) (d k : Nat) (E : Int) : Prop := ∀ w, ByR w w.heap.size A n c f →
  Calls Try.prog 10 #[.slice A n c, .int .i64 a, .int .i64 s, .int .i64 h] w fun e w' => e = .returned (.tuple #[.int .i64 (d : Int), .int .i64 (k : Int), .int .i64 E]) ∧ Below w.heap.size w w'
def LongIs (A : Option Addr) (n c : Nat) (f : Nat → Nat) (a p : Int) (v : Nat) (E : Int) : Prop := ∀ w, ByR w w.heap.size A n c f →
  Calls Try.prog 8 #[.slice A n c, .int .i64 a, .int .i64 p] w fun e w' => e = .returned (.tuple #[.int .i64 (v : Int), .int .i64 E]) ∧ Below w.heap.size w w'
theorem find_is (A : Option Addr) (n c : Nat) (f : Nat → Nat) (a s h : Int) : FindIs A n c f a s h (finT f n a s h).1 (finT f n a s h).2 (finE f n a s h) := fun w hr => find7_any w A n c f a s h hr
theorem lonV_nat (f : Nat → Nat) (n : Nat) (a p : Int) : ∃ v : Nat, lonV f n a p = (v : Int) := by
  unfold lonV
  split
  · exact ⟨_, rfl⟩
  · exact ⟨0, rfl⟩
set_option maxRecDepth 100000 in
set_option maxHeartbeats 8000000 in
theorem longer_core (A : Option Addr) (n c : Nat) (f : Nat → Nat) (a s h mo h2 s3 d1 k1 d2 k2 d3 k3 d4 k4 v : Nat) (p E1 E2 E3 E4 e : Int) (hE1 : E1 = 0 ∨ E1 = 6) (hE2 : E2 = 0 ∨ E2 = 6) (hE3 : E3 = 0 ∨ E3 = 6) (hn : n ≤ 200) (ha : a ≤ n) (hs1 : 1 ≤ s) (hs2 : s ≤ 32768) (hh : h ≤ 256) (hmo : mo ≤ 100000)
    (hh2 : h2 = min 256 (h + mo)) (hs3 : s3 = min 32768 (s + mo)) (h12 : k1 ≤ k2) (h13 : k1 ≤ k3) (he : e = 0 → 0 ≤ p ∧ p < (a : Int)) (hfin : e = 0 → (a : Int) - p ≤ (s : Int) → 3 ≤ v → v ≤ k4)
    (F1 : FindIs A n c f a s h d1 k1 E1) (F2 : FindIs A n c f a s h2 d2 k2 E2) (F3 : FindIs A n c f a s3 256 d3 k3 E3) (F4 : FindIs A n c f a s 256 d4 k4 E4) (L : LongIs A n c f a p v e) (w : World) (hr : ByR w w.heap.size A n c f) :
    Calls Try.prog 6 #[.slice A n c, .int .i64 (a : Int), .int .i64 (s : Int), .int .i64 (h : Int), .int .i64 (mo : Int), .int .i64 p] w fun e w' => e = .returned (.bool true) ∧ Below w.heap.size w w' := by
  have HR := Lib.hid hr; have HF1 := Lib.hid F1; have HF2 := Lib.hid F2; have HF3 := Lib.hid F3; have HF4 := Lib.hid F4; have HL := Lib.hid L; have HE := Lib.hid he; have HFI := Lib.hid hfin
  have HH2 := Lib.hid hh2; have HS3 := Lib.hid hs3; have HE2 := Lib.hid hE2; have HE3 := Lib.hid hE3
  have hd : decide (200 < (n : Int)) = false := decN (by omega)
  have hm1 : decide ((mo : Int) < 0) = false := decN (by omega)
  have hm2 : decide (100000 < (mo : Int)) = false := decN (by omega)
  obtain ⟨hm, ehm⟩ : ∃ x, x = h + mo := ⟨_, rfl⟩
  have eh : (h : Int) + (mo : Int) = (hm : Int) := by omega
  obtain ⟨sm, esm⟩ : ∃ x, x = s + mo := ⟨_, rfl⟩
  have es : (s : Int) + (mo : Int) = (sm : Int) := by omega
  have hmb : hm ≤ 100256 := by omega
  have smb : sm ≤ 132768 := by omega
  have em1 : (if (hm : Int) < 256 then (hm : Int) else 256) = (h2 : Int) := by split <;> omega
  have em2 : (if (sm : Int) < 32768 then (sm : Int) else 32768) = (s3 : Int) := by split <;> omega
  have y1 : decide ((k2 : Int) < (k1 : Int)) = false := decN (by omega)
  have y2 : decide ((k3 : Int) < (k1 : Int)) = false := decN (by omega)
  have y3 : decide (k2 < k1) = false := decN (by omega)
  have y4 : decide (k3 < k1) = false := decN (by omega)
  clear hr F1 F2 F3 F4 L he hfin hh2 hs3 ehm esm hE2 hE3
  go_enter Try.func6, Try.ntmps6
  go_wp2_with fail
  refine (alive7_any w).mono ?_
  rintro _ w1 ⟨rfl, hb⟩
  have HB1 := Lib.hid hb
  clear hb
  go_wp2_with fail
  refine (HF1.out w1 ((HR.out.below HB1.out (Nat.le_refl _)).more HB1.out.size)).mono ?_
  rintro _ w2 ⟨rfl, hb⟩
  have HB2 := Lib.hid (HB1.out.trans (hb.mono HB1.out.size))
  clear hb HB1
  have e1 : ((0 : Int) != 0) = false := by decide
  have e2 : ((6 : Int) != 0) = true := by decide
  have e3 : ((6 : Int) != 6) = false := by decide
  rcases hE1 with rfl | rfl
  all_goals
    go_wp2_with fail
    refine (HF2.out w2 ((HR.out.below HB2.out (Nat.le_refl _)).more HB2.out.size)).mono ?_
    rintro _ w3 ⟨rfl, hb⟩
    have HB3 := Lib.hid (HB2.out.trans (hb.mono HB2.out.size))
    clear hb HB2
    go_wp2_with fail
    refine (HF3.out w3 ((HR.out.below HB3.out (Nat.le_refl _)).more HB3.out.size)).mono ?_
    rintro _ w4 ⟨rfl, hb⟩
    have HB4 := Lib.hid (HB3.out.trans (hb.mono HB3.out.size))
    clear hb HB3
    rcases HE2.out with rfl | rfl
    all_goals
      rcases HE3.out with rfl | rfl
      all_goals
        go_wp2_with fail
        refine (HL.out w4 ((HR.out.below HB4.out (Nat.le_refl _)).more HB4.out.size)).mono ?_
        rintro _ w5 ⟨rfl, hb⟩
        have HB5 := Lib.hid (HB4.out.trans (hb.mono HB4.out.size))
        clear hb
        go_wp2_with fail
        refine (HF4.out w5 ((HR.out.below HB5.out (Nat.le_refl _)).more HB5.out.size)).mono ?_
        rintro _ w6 ⟨rfl, hb⟩
        have HB6 := Lib.hid (HB5.out.trans (hb.mono HB5.out.size))
        clear hb
        by_cases he0 : e = 0
        · subst he0
          obtain ⟨hp0, hpa⟩ := HE.out rfl
          obtain ⟨P, rfl⟩ := Int.eq_ofNat_of_zero_le hp0
          obtain ⟨g, hg⟩ : ∃ g, g = a - P := ⟨_, rfl⟩
          have eg : (a : Int) - (P : Int) = (g : Int) := by omega
          clear hg
          by_cases hgs : s < g
          · have z1 : decide ((s : Int) < (g : Int)) = true := decY (by omega)
            have z1' : decide (s < g) = true := decY (by omega)
            go_wp2
            go_ret
            exact ⟨rfl, HB6.out⟩
          · have z1 : decide ((s : Int) < (g : Int)) = false := decN (by omega)
            have z1' : decide (s < g) = false := decN (by omega)
            by_cases hv3 : v < 3
            · have z2 : decide ((v : Int) < 3) = true := decY (by omega)
              go_wp2
              go_ret
              exact ⟨rfl, HB6.out⟩
            · have z2 : decide ((v : Int) < 3) = false := decN (by omega)
              have hle := HFI.out rfl (by rw [eg]; omega) (by omega)
              have z3 : decide ((v : Int) ≤ (k4 : Int)) = true := decY (by omega)
              have z3' : decide (v ≤ k4) = true := decY (by omega)
              clear hle
              go_wp2
              go_ret
              exact ⟨rfl, HB6.out⟩
        · have hne : (e != 0) = true := by simpa using he0
          go_wp2
          go_ret
          exact ⟨rfl, HB6.out⟩
set_option maxRecDepth 100000 in
set_option maxHeartbeats 8000000 in
theorem longer_skip (A : Option Addr) (n c : Nat) (f : Nat → Nat) (a s h mo p E : Int) (d k : Nat) (hE : (E ≠ 0 ∧ E ≠ 6) ∨ ((E = 0 ∨ E = 6) ∧ (mo < 0 ∨ 100000 < mo))) (hn : n ≤ 200) (F : FindIs A n c f a s h d k E) (w : World) (hr : ByR w w.heap.size A n c f) :
    Calls Try.prog 6 #[.slice A n c, .int .i64 a, .int .i64 s, .int .i64 h, .int .i64 mo, .int .i64 p] w fun e w' => e = .returned (.bool true) ∧ Below w.heap.size w w' := by
  have HR := Lib.hid hr; have HF := Lib.hid F; have HE := Lib.hid hE
  have hd : decide (200 < (n : Int)) = false := decN (by omega)
  clear hr F hE
  go_enter Try.func6, Try.ntmps6
  go_wp2_with fail
  refine (alive7_any w).mono ?_
  rintro _ w1 ⟨rfl, hb⟩
  have HB1 := Lib.hid hb
  clear hb
  go_wp2_with fail
  refine (HF.out w1 ((HR.out.below HB1.out (Nat.le_refl _)).more HB1.out.size)).mono ?_
  rintro _ w2 ⟨rfl, hb⟩
  have HB2 := Lib.hid (HB1.out.trans (hb.mono HB1.out.size))
  clear hb HB1
  rcases HE.out with ⟨q1, q2⟩ | ⟨q1, q2⟩
  · have e1 : (E != 0) = true := by simpa using q1
    have e2 : (E != 6) = true := by simpa using q2
    clear q1 q2
    go_wp2
    go_ret
    exact ⟨rfl, HB2.out⟩
  · rcases q1 with rfl | rfl
    all_goals
      rcases q2 with q | q
      · have d1 := decY q
        go_wp2
        go_ret
        exact ⟨rfl, HB2.out⟩
      · have d1 : decide (mo < 0) = false := decN (by omega)
        have d2 := decY q
        go_wp2
        go_ret
        exact ⟨rfl, HB2.out⟩
set_option maxRecDepth 100000 in
set_option maxHeartbeats 2000000 in
theorem longer7_law (A : Option Addr) (n c : Nat) (f : Nat → Nat) (a s h mo p : Int) (w : World) (hr : ByR w w.heap.size A n c f) (_ : -9223372036854775808 ≤ a) (_ : a ≤ 9223372036854775807) (_ : -9223372036854775808 ≤ s) (_ : s ≤ 9223372036854775807) (_ : -9223372036854775808 ≤ h) (_ : h ≤ 9223372036854775807)
    (_ : -9223372036854775808 ≤ mo) (_ : mo ≤ 9223372036854775807) (hp1 : -9223372036854775808 ≤ p) (hp2 : p ≤ 9223372036854775807) :
    Calls Try.prog 6 #[.slice A n c, .int .i64 a, .int .i64 s, .int .i64 h, .int .i64 mo, .int .i64 p] w fun e w' => e = .returned (.bool true) ∧ Below w.heap.size w w' := by
  by_cases hn1 : 200 < n
  · have hd : decide (200 < (n : Int)) = true := decY (by omega)
    clear hr
    go_enter Try.func6, Try.ntmps6
    go_wp2_with fail
    refine (alive7_any w).mono ?_
    rintro e w1 ⟨rfl, hb⟩
    have HB1 := Lib.hid hb
    clear hb
    go_wp2
    go_ret
    exact ⟨rfl, HB1.out⟩
  have hn : n ≤ 200 := by omega
  by_cases hE : finE f n a s h = 0 ∨ finE f n a s h = 6
  · by_cases hm : mo < 0 ∨ 100000 < mo
    · exact longer_skip A n c f a s h mo p _ _ _ (.inr ⟨hE, hm⟩) hn (find_is A n c f a s h) w hr
    · obtain ⟨x0, x1, x2, x3, x4, x5, x6⟩ := fin_args hE
      obtain ⟨a, rfl⟩ := Int.eq_ofNat_of_zero_le x1
      obtain ⟨s, rfl⟩ := Int.eq_ofNat_of_zero_le (show 0 ≤ s by omega)
      obtain ⟨h, rfl⟩ := Int.eq_ofNat_of_zero_le x5
      obtain ⟨mo, rfl⟩ := Int.eq_ofNat_of_zero_le (show 0 ≤ mo by omega)
      obtain ⟨t1, q1⟩ := fin_ok (f := f) (n := n) (a := a) (s := s) (h := h) x0 (by omega) (by omega) (by omega) (by omega)
      obtain ⟨t2, q2⟩ := fin_ok (f := f) (n := n) (a := a) (s := s) (h := min 256 (h + mo)) x0 (by omega) (by omega) (by omega) (by omega)
      obtain ⟨t3, q3⟩ := fin_ok (f := f) (n := n) (a := a) (s := min 32768 (s + mo)) (h := 256) x0 (by omega) (by omega) (by omega) (by omega)
      obtain ⟨t4, q4⟩ := fin_ok (f := f) (n := n) (a := a) (s := s) (h := 256) x0 (by omega) (by omega) (by omega) (by omega)
      have m12 := bstN_more (f := f) (L := n) (a := a) (s := s) (s' := s) (Nat.le_refl _) a h (min 256 (h + mo)) 0 0 0 0 (by omega) (Nat.le_refl _)
      have m13 := bstN_more (f := f) (L := n) (a := a) (s := s) (s' := min 32768 (s + mo)) (by omega) a h 256 0 0 0 0 (by omega) (Nat.le_refl _)
      obtain ⟨v, hv⟩ := lonV_nat f n (a : Int) p
      have hl : LongIs A n c f (a : Int) p v (lonE n a p) := fun w hr => by
        refine (long7_any w _ A n c f (a : Int) p hr.1 (by omega) (by omega) hp1 hp2).mono ?_
        rintro x w' ⟨rfl, hd⟩
        rw [hv]
        exact ⟨rfl, hd.below (Below.refl _ _)⟩
      have hlok : lonE n a p = 0 → 0 ≤ p ∧ p < (a : Int) := fun e => by
        unfold lonE at e
        split at e
        · omega
        · split at e
          · rename_i h2; exact ⟨h2.2.2.1, h2.2.2.2⟩
          · omega
      refine longer_core A n c f a s h mo (min 256 (h + mo)) (min 32768 (s + mo)) _ _ _ _ _ _ _ _ v p _ _ _ _ (lonE n a p) q1 q2 q3 hn (by omega) (by omega) (by omega) (by omega) (by omega) rfl rfl ?_ ?_ hlok ?_ (find_is A n c f a s h) (find_is A n c f a s _) (find_is A n c f a _ 256) (find_is A n c f a s 256) hl w hr
      · rw [t1, t2]; exact m12
      · rw [t1]; refine Nat.le_trans m13 ?_
        have := t3
        rw [show ((256 : Nat) : Int) = 256 from rfl] at this
        rw [this]; exact Nat.le_refl _
      · intro e hs h3
        obtain ⟨g1, g2⟩ := hlok e
        obtain ⟨P, rfl⟩ := Int.eq_ofNat_of_zero_le g1
        have hvm : v = matN f n a P := by
          have : lonV f n (a : Int) (P : Int) = (matN f n a P : Nat) := if_pos e
          omega
        have := t4
        rw [show ((256 : Nat) : Int) = 256 from rfl] at this
        rw [this, hvm]
        exact bstN_all (by omega) (by omega) a 256 0 0 (by omega) (by omega)
  · exact longer_skip A n c f a s h mo p _ _ _ (.inl ⟨fun e => hE (.inl e), fun e => hE (.inr e)⟩) hn (find_is A n c f a s h) w hr
-- LAW
set_option maxRecDepth 100000 in
theorem longer7_law_lifted (os : Os) (started : os.Started) (H : Type) (enc : TypeId × Value → H) :
    ReturnsInHanded {} Try.checked os 6 .any (Rows.matchLongerSpec.pre6 enc Try.prog Try.f6 Rows.matchLongerRow.domain false) (Rows.matchLongerSpec.post enc Try.prog Try.f6 false true false false) := by
  refine returnsInHanded_of_change (C := Try.checked) own started (by kernel_rfl) Try.func6
    (ChangeSpec.witness6 (enc := enc) (C := Try.checked) false ⟨#[], #[.slice none 0 0, .int .i64 0, .int .i64 0, .int .i64 0, .int .i64 0, .int .i64 0], []⟩ 8 (by kernel_rfl) (by kernel_rfl) (by kernel_rfl) (by kernel_rfl)) ?_
  intro W base args ds gs before hval0 hW _ _
  have hval : ∀ (j : Nat) t v, Try.f6.params[j]? = some t → args[j]? = some v → Value.okWide Try.prog W .any base t v := hval0
  have hW' := hW
  obtain ⟨p, q, hA0, hV, rfl, _, _⟩ := hW
  have hA : DataW.TrodAll enc Try.prog W 0 (fun _ => true) true Try.f6.params.toList args.toList ds p := hA0
  rw [Try.params6] at hA hval
  obtain ⟨v0, vs0, d0, ds0, p0, q0, hargs, rfl, rfl, h0, r0⟩ := trodAll_cons hA
  obtain ⟨v1, vs1, d1, ds1, p1, q1, rfl, rfl, rfl, h1, r1⟩ := trodAll_cons r0
  obtain ⟨v2, vs2, d2, ds2, p2, q2, rfl, rfl, rfl, h2, r2⟩ := trodAll_cons r1
  obtain ⟨v3, vs3, d3, ds3, p3, q3, rfl, rfl, rfl, h3, r3⟩ := trodAll_cons r2
  obtain ⟨v4, vs4, d4, ds4, p4, q4, rfl, rfl, rfl, h4, r4⟩ := trodAll_cons r3
  obtain ⟨v5, vs5, d5, ds5, p5, q5, rfl, rfl, rfl, h5, r5⟩ := trodAll_cons r4
  obtain ⟨rfl, rfl, rfl⟩ := trodAll_nil r5
  obtain rfl : args = #[v0, v1, v2, v3, v4, v5] := by cases args; simp_all
  obtain ⟨rfl, rfl⟩ := trodVars_none hV
  have k0 := h0
  have lt0 : ∀ x ∈ p0, x.block < W.heap.size := by obtain ⟨m, hm⟩ := k0; exact DataW.trod_lt m _ _ _ hm
  obtain ⟨A0, len0, cap0, rfl⟩ := okWide_slice Try.underlying25 (hval 0 25 v0 rfl rfl)
  obtain ⟨f0, hr0⟩ := open_byr h0
  have k1 := h1
  have lt1 : ∀ x ∈ p1, x.block < W.heap.size := by obtain ⟨m, hm⟩ := k1; exact DataW.trod_lt m _ _ _ hm
  obtain ⟨a1, rfl, rfl, rfl, w1⟩ := open_int Try.underlying3 (hval 1 3 v1 rfl rfl) h1
  have u1 := wf_i64_range w1
  have k2 := h2
  have lt2 : ∀ x ∈ p2, x.block < W.heap.size := by obtain ⟨m, hm⟩ := k2; exact DataW.trod_lt m _ _ _ hm
  obtain ⟨a2, rfl, rfl, rfl, w2⟩ := open_int Try.underlying3 (hval 2 3 v2 rfl rfl) h2
  have u2 := wf_i64_range w2
  have k3 := h3
  have lt3 : ∀ x ∈ p3, x.block < W.heap.size := by obtain ⟨m, hm⟩ := k3; exact DataW.trod_lt m _ _ _ hm
  obtain ⟨a3, rfl, rfl, rfl, w3⟩ := open_int Try.underlying3 (hval 3 3 v3 rfl rfl) h3
  have u3 := wf_i64_range w3
  have k4 := h4
  have lt4 : ∀ x ∈ p4, x.block < W.heap.size := by obtain ⟨m, hm⟩ := k4; exact DataW.trod_lt m _ _ _ hm
  obtain ⟨a4, rfl, rfl, rfl, w4⟩ := open_int Try.underlying3 (hval 4 3 v4 rfl rfl) h4
  have u4 := wf_i64_range w4
  have k5 := h5
  have lt5 : ∀ x ∈ p5, x.block < W.heap.size := by obtain ⟨m, hm⟩ := k5; exact DataW.trod_lt m _ _ _ hm
  obtain ⟨a5, rfl, rfl, rfl, w5⟩ := open_int Try.underlying3 (hval 5 3 v5 rfl rfl) h5
  have u5 := wf_i64_range w5
  clear hA0 hval0
  refine (longer7_law A0 len0 cap0 f0 a1 a2 a3 a4 a5 W hr0 u1.1 u1.2 u2.1 u2.2 u3.1 u3.2 u4.1 u4.2 u5.1 u5.2).mono fun e W' ⟨he, bel⟩ => ?_
  subst he
  exact ⟨_, rfl, _, _, _, [], _, [], hW', trodAll_mk1 (shut_bool Try.underlying4 _), (trodAll_cons_mk (Below.trod laidOut (by kernel_rfl) (of_decide_eq_true (by kernel_rfl)) k0 bel lt0) (trodAll_cons_mk (Below.trod laidOut (by kernel_rfl) (of_decide_eq_true (by kernel_rfl)) k1 bel lt1) (trodAll_cons_mk (Below.trod laidOut (by kernel_rfl) (of_decide_eq_true (by kernel_rfl)) k2 bel lt2) (trodAll_cons_mk (Below.trod laidOut (by kernel_rfl) (of_decide_eq_true (by kernel_rfl)) k3 bel lt3) (trodAll_cons_mk (Below.trod laidOut (by kernel_rfl) (of_decide_eq_true (by kernel_rfl)) k4 bel lt4) (trodAll_cons_mk (Below.trod laidOut (by kernel_rfl) (of_decide_eq_true (by kernel_rfl)) k5 bel lt5) trodAll_mk0)))))), rfl, bel.frame _, fun h => by cases h⟩
theorem longer7_law_holds : Rows.MatchLongerSaid :=
  OpenClaim.holds_of_wide 6 Try.f6 rfl rfl rfl rfl rfl rfl rfl ⟨rfl, rfl, rfl, rfl, rfl⟩ rfl rfl rfl rfl rfl (by kernel_rfl) Try.func6 (by kernel_rfl)
    (of_decide_eq_true (by kernel_rfl)) (by unfold Func.isWrapper; first | (rw [if_pos (by decide +kernel)]; kernel_rfl) | (rw [if_neg (by decide +kernel)]; exact ⟨rfl, rfl⟩))
    (fun os started H enc _ => longer7_law_lifted os started H enc)
#print axioms longer7_law_holds
end Go.Proofs.Ytkgpbdlhjhbijaa
