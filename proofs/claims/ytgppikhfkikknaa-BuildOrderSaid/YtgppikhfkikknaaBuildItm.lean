/-
  Layer 4 (build): the document's own Items.
-/
import Derived.Test.YtgppikhfkikknaaBuildAsk
namespace Go.Proofs.Ytgppikhfkikknaa
open Go.RowKit
/-- Where a symbol is put in. -/
theorem ins_at {F : Nat → Nat} {i : Nat} : ∀ (l : List Nat) (p : Nat), InOrder F l → p ≤ l.length → (p = 0 ∨ F (l.getD (p - 1) 0) ≤ F i) → (∀ j, p ≤ j → j < l.length → F i < F (l.getD j 0)) → insI F i l = l.take p ++ i :: l.drop p
  | [], p, _, hp, _, _ => by rw [show p = 0 by simpa using hp]; rfl
  | j :: l, 0, _, _, _, h2 => by
    have := h2 0 (Nat.le_refl _) (by simp)
    have e0 : (j :: l).getD 0 0 = j := rfl
    rw [e0] at this
    simp only [insI]
    rw [if_neg (by omega)]; rfl
  | j :: l, p + 1, ho, hp, h1, h2 => by
    have e1 : ∀ t, (j :: l).getD (t + 1) 0 = l.getD t 0 := fun t => by simp [List.getD]
    have hp' : p ≤ l.length := by simpa using hp
    have hj : F j ≤ F i := by
      rcases h1 with h1 | h1
      · omega
      · rw [Nat.add_sub_cancel] at h1
        cases p with
        | zero => exact h1
        | succ q =>
          rw [e1] at h1
          have hq : q < l.length := by omega
          have hm : l.getD q 0 ∈ l := by rw [List.getD_eq_getElem?_getD, List.getElem?_eq_getElem hq]; exact List.getElem_mem hq
          have := ahead_iff.1 (ho.1 _ hm)
          omega
    have ih := ins_at l p ho.2 hp' (by
      rcases h1 with h1 | h1
      · omega
      · rw [Nat.add_sub_cancel] at h1
        cases p with
        | zero => exact .inl rfl
        | succ q => rw [e1] at h1; exact .inr h1) (fun t h3 h4 => by have := h2 (t + 1) (by omega) (by simpa using h4); rw [e1] at this; exact this)
    simp only [insI]
    rw [if_pos hj, ih]; rfl
theorem src_take {w : World} {B : Nat} {A : Option Addr} {n : Nat} {ys : List Value} (h : SrcL w B 1 A n ys) {p : Nat} (hp : p ≤ n) : SrcL w B 1 A p (ys.take p) := by
  have hl := h.1
  refine ⟨by rw [List.length_take]; omega, fun hn => ?_⟩
  obtain ⟨b, o, rfl, hb, hc⟩ := h.2 (by omega)
  refine ⟨b, o, rfl, hb, fun j u hu => hc j u ?_⟩
  rw [List.getElem?_take] at hu
  split at hu
  · exact hu
  · cases hu
theorem src_drop {w : World} {B : Nat} {A A2 : Option Addr} {n p c : Nat} {ys : List Value} (h : SrcL w B 1 A n ys) (hp : p ≤ n) (hc : n ≤ c) (hA : (if c = p then A else A.map (fun x => x.add p)) = A2) : SrcL w B 1 A2 (n - p) (ys.drop p) := by
  have hl := h.1
  refine ⟨by rw [List.length_drop]; omega, fun hn => ?_⟩
  obtain ⟨b, o, rfl, hb, hcc⟩ := h.2 (by omega)
  rw [if_neg (by omega)] at hA
  have e : (⟨b, o, none⟩ : Addr).add p = ⟨b, o + p, none⟩ := by unfold Addr.add; split <;> simp_all
  simp only [Option.map_some] at hA
  rw [e] at hA
  refine ⟨b, o + p, hA.symm, hb, fun j u hu => ?_⟩
  rw [List.getElem?_drop] at hu
  rw [Nat.add_assoc]
  exact hcc _ u hu
/-- The three appends of a round. -/
theorem ins_runs (w : World) (base : Nat) (A : Option Addr) (c : Nat) (l : List Nat) (p i : Nat) (hown : w.ownsRow base 3 1 (.slice A l.length c) l.length (intsL (natsI l))) (hp : p ≤ l.length) (hl : l.length ≤ 1000) (hbase : base ≤ w.heap.size)
    (A2 : Option Addr) (hA2 : (if c = p then A else A.map (fun x => x.add p)) = A2) :
    ∃ Aa ca wa Ab cb wb Ac cc wc, (Builtin.append_ #[23, 23] 23 #[.slice none 0 0, .slice A p c]).run Try.prog w = .ok (.slice Aa p ca) wa ∧
      (Builtin.append_ #[23, 23] 23 #[.slice Aa p ca, .slice (some ⟨wa.heap.size, 0, none⟩) 1 1]).run Try.prog (wa.alloc (.cells #[.int .i64 (i : Int)] 3)) = .ok (.slice Ab (p + 1) cb) wb ∧
      (Builtin.append_ #[23, 23] 23 #[.slice Ab (p + 1) cb, .slice A2 (l.length - p) (c - p)]).run Try.prog wb = .ok (.slice Ac (l.length + 1) cc) wc ∧
      wc.ownsRow base 3 1 (.slice Ac (l.length + 1) cc) (l.length + 1) (intsL (natsI (l.take p ++ i :: l.drop p))) ∧ Below w.heap.size w wc := by
  obtain ⟨hc1, hc2, hc3⟩ := own_cap hown
  have hsrc := SrcL.of_own hown
  have e1 : (natsI l).length = l.length := natsI_length l
  obtain ⟨Aa, ca, wa, h1, o1, b1⟩ := run_app (z := .int .i64 0) (by_ := 8) Try.underlying23 infoInt rfl (by decide) w w.heap.size _ (.slice none 0 0) 0 [] (World.ownsRow_nil w _ _ 1) A p c _ (src_take hsrc hp) (fun u hu => intsL_one _ u (List.mem_of_mem_take hu))
    (by unfold maxLen; omega) (by omega) 23 (fun h => by have := hc3 h; omega) (Nat.le_refl _)
  rw [Nat.zero_add, List.nil_append] at o1
  rw [Nat.zero_add] at h1
  have hb1 : Below w.heap.size w (wa.alloc (.cells #[.int .i64 (i : Int)] 3)) := b1.alloc b1.size _
  obtain ⟨Ab, cb, wb, h2, o2, b2⟩ := run_app (z := .int .i64 0) (by_ := 8) Try.underlying23 infoInt rfl (by decide) (wa.alloc (.cells #[.int .i64 (i : Int)] 3)) w.heap.size _ (.slice Aa p ca) p _ (o1.alloc _) _ 1 1 _
    (SrcL.new wa 1 1 #[.int .i64 (i : Int)] 3 rfl) (fun u hu => by simp at hu; subst hu; rfl) (by unfold maxLen; omega) (by omega) 23 (fun h => by cases h) hb1.size
  have hb2 : Below w.heap.size w wb := hb1.trans b2
  have hd := (src_drop hsrc hp hc1 hA2).below hb2 (Nat.le_refl _)
  obtain ⟨Ac, cc, wc, h3, o3, b3⟩ := run_app (z := .int .i64 0) (by_ := 8) Try.underlying23 infoInt rfl (by decide) wb w.heap.size _ (.slice Ab (p + 1) cb) (p + 1) _ o2 A2 (l.length - p) (c - p) _ hd (fun u hu => intsL_one _ u (List.mem_of_mem_drop hu))
    (by unfold maxLen; omega) (by omega) 23 (fun h => by
      by_cases g : c = p
      · omega
      · rw [if_neg g] at hA2
        cases A with
        | none => have := hc3 rfl; omega
        | some a => rw [h] at hA2; cases hA2) hb2.size
  have e2 : p + 1 + (l.length - p) = l.length + 1 := by omega
  rw [e2] at h3 o3
  refine ⟨Aa, ca, wa, Ab, cb, wb, Ac, cc, wc, h1, h2, h3, ?_, hb2.trans b3⟩
  have e3 : (intsL (natsI l)).take p ++ (#[Value.int .i64 (i : Int)] : Array Value).toList ++ (intsL (natsI l)).drop p = intsL (natsI (l.take p ++ i :: l.drop p)) := by
    unfold intsL natsI
    simp [List.map_take, List.map_drop]
  rw [e3] at o3
  have hbase2 : base ≤ w.heap.size := hbase
  rcases o3 with ⟨q1, q2⟩
  refine ⟨q1, ?_⟩
  rcases q2 with q2 | ⟨g, cap, cur, q3, q4, q5⟩
  · exact .inl q2
  · exact .inr ⟨g, cap, cur, q3, by omega, q5⟩
theorem items_le (F : Nat → Nat) (n : Nat) : (itemsL F n).length ≤ n := by rw [items_length]; exact nI_le F n
set_option maxRecDepth 100000 in
set_option maxHeartbeats 4000000 in
theorem items_any (w : World) (A : Option Addr) (c : Nat) (l : List Int) (hr : RdI w w.heap.size A l) (hn : l.length ≤ 400) (hb : ∀ j, j < l.length → -9223372036854775808 ≤ l.getD j 0 ∧ l.getD j 0 ≤ 9223372036854775807) :
    Calls Try.prog 30 #[.slice A l.length c] w fun e w' => ∃ A' c', e = .returned (.slice A' (nI (freqN l) l.length) c') ∧ Below w.heap.size w w' ∧
      w'.ownsRow w.heap.size 3 1 (.slice A' (nI (freqN l) l.length) c') (nI (freqN l) l.length) (intsL (natsI (itemsL (freqN l) l.length))) := by
  have HR := Lib.hid hr
  have HBD := Lib.hid hb
  clear hr hb
  obtain ⟨n, hn0⟩ : ∃ n, n = l.length := ⟨_, rfl⟩
  rw [← hn0] at hn HBD ⊢
  have HN := Lib.hid hn0
  clear hn0
  go_enter Try.func30, Try.ntmps30
  go_wp2
  go_loopw [3, 4, 5, 6] (fun o i _ _ wr => ∃ (k : Nat) (Ao : Option Addr) (co : Nat), k ≤ n ∧ i = .int .i64 k ∧ o = .slice Ao (itemsL (freqN l) k).length co ∧
    wr.ownsRow w.heap.size 3 1 (.slice Ao (itemsL (freqN l) k).length co) (itemsL (freqN l) k).length (intsL (natsI (itemsL (freqN l) k))) ∧ Below w.heap.size w wr) (fun _ i _ _ _ => n - (intOf i).toNat)
  case atStart => exact ⟨0, none, 0, Nat.zero_le _, rfl, rfl, World.ownsRow_nil w _ _ 1, Below.refl _ _⟩
  case round =>
    obtain ⟨k, Ao, co, hk, rfl, rfl, hown, hbw⟩ := hrel
    by_cases hlt : k < n
    · obtain ⟨b, o, rfl, hbl, hc⟩ := (HR.out.below hbw (Nat.le_refl _)).at (k := k) (by rw [← HN.out]; exact hlt)
      have hcell := hc k (by rw [← HN.out]; exact hlt)
      have HC := Lib.hid hc
      clear hc
      obtain ⟨x, hx⟩ : ∃ x, x = l.getD k 0 := ⟨_, rfl⟩
      rw [← hx] at hcell
      have hxb := HBD.out k hlt
      rw [← hx] at hxb
      have HX := Lib.hid hx
      clear hx
      have hfk : freqN l k = x.toNat := by unfold freqN; rw [← HX.out]
      by_cases g : x ≤ 0
      · have HE := Lib.hid (show itemsL (freqN l) (k + 1) = itemsL (freqN l) k by simp only [itemsL]; rw [if_neg (by rw [hfk]; omega)])
        have HO := Lib.hid hown; have HB := Lib.hid hbw
        clear hown hbw hfk
        go_wp2
        go_roundw
        case rel =>
          refine ⟨k + 1, Ao, co, by omega, by go_num, by rw [HE.out], ?_, HB.out⟩
          rw [HE.out]; exact HO.out
        case measure => simp [intOf]; omega
      · have HE := Lib.hid (show itemsL (freqN l) (k + 1) = insI (freqN l) k (itemsL (freqN l) k) by simp only [itemsL]; rw [if_pos (by rw [hfk]; omega)])
        have hd0 : decide (x ≤ 0) = false := by simpa using g
        have hle := items_le (freqN l) k
        have HO := Lib.hid hown; have HB := Lib.hid hbw; have HFK := Lib.hid hfk
        have hsrc := Lib.hid (SrcL.of_own hown)
        obtain ⟨L, hL⟩ : ∃ L, L = itemsL (freqN l) k := ⟨_, rfl⟩
        have HMEM : Hid (∀ j, j < L.length → L.getD j 0 < k) := Lib.hid (fun j hj => by
          have hm : L.getD j 0 ∈ L := by rw [List.getD_eq_getElem?_getD, List.getElem?_eq_getElem hj]; exact List.getElem_mem hj
          rw [hL] at hm ⊢
          exact ((items_mem _ _ _).1 hm).1)
        have HORD := Lib.hid (show InOrder (freqN l) L by rw [hL]; exact items_order _ _)
        rw [← hL] at HO hsrc HE hle ⊢
        clear hown hbw hfk hL
        obtain ⟨m, hm⟩ : ∃ m, m = L.length := ⟨_, rfl⟩
        rw [← hm] at HMEM hle ⊢
        have HM := Lib.hid hm
        have hg2 : 0 < x := by omega
        clear hm g
        go_wp2
        go_loopw [5] (fun a wi => ∃ (p q : Nat), p ≤ m ∧ a = .int .i64 p ∧ wi = wr.drewN q ∧ ∀ j, p ≤ j → j < m → freqN l k < freqN l (L.getD j 0)) (fun a _ => (intOf a).toNat)
        case atStart => exact ⟨m, 0, Nat.le_refl _, rfl, rfl, fun j h1 h2 => absurd h2 (by omega)⟩
        case round =>
          obtain ⟨p, q, hp, rfl, rfl, hall⟩ := hrel
          have HALL := Lib.hid hall
          clear hall
          by_cases hp0 : p = 0
          · subst hp0
            go_wp2
            go_quiet (fail)
            obtain ⟨V, hV⟩ : ∃ V, V = (wr.drewN q).drewN nq := ⟨_, rfl⟩
            have hVo : V.ownsRow w.heap.size 3 1 (.slice Ao L.length co) L.length (intsL (natsI L)) := by rw [hV]; exact HO.out
            have hVb : Below w.heap.size w V := by rw [hV]; exact ⟨HB.out.os, HB.out.tape, HB.out.output, HB.out.size, HB.out.block⟩
            rw [← hV]
            clear hV
            obtain ⟨Aa, ca, wa, Ab, cb, wb, Ac, cc, wc, r1, r2, r3, ho, hbc⟩ := ins_runs V w.heap.size Ao co L 0 k hVo (by omega) (by rw [← HM.out]; omega) hVb.size Ao (by
              cases Ao with
              | none => split <;> rfl
              | some a => split
                          · rfl
                          · simp only [Option.map_some]; rw [show a.add 0 = a by unfold Addr.add; simp])
            rw [Nat.sub_zero, Nat.sub_zero] at r3
            rw [← HM.out] at r3 ho
            have hc1 := (own_cap hVo).1
            rw [← HM.out] at hc1
            have R1 := Lib.hid r1; have R2 := Lib.hid r2; have R3 := Lib.hid r3; have OWN := Lib.hid ho; have HBC := Lib.hid (hVb.trans (hbc.mono hVb.size))
            clear r1 r2 r3 ho hbc hVo hVb
            go_wp2_with (first
              | (at_builtin; refine wpList_append_run rfl (.tmp 39) (.tmp 42) 23 rfl (.slice none 0 0) (.slice Ao 0 co) (.slice Aa 0 ca) wa rfl rfl R1.out ?_)
              | (at_builtin; refine wpList_append_run rfl (.tmp 44) (.tmp 46) 23 rfl (.slice Aa 0 ca) (.slice (some ⟨wa.heap.size, 0, none⟩) 1 1) (.slice Ab (0 + 1) cb) wb rfl rfl R2.out ?_)
              | (at_builtin; refine wpList_append_run rfl (.tmp 48) (.tmp 51) 23 rfl (.slice Ab (0 + 1) cb) (.slice Ao m co) (.slice Ac (m + 1) cc) wc rfl rfl R3.out ?_))
            go_roundw
            case rel =>
              have hins := ins_at L 0 HORD.out (by omega) (.inl rfl) (i := k) (fun j h1 h2 => HALL.out j h1 (by rw [HM.out]; exact h2))
              have hlen : (insI (freqN l) k L).length = m + 1 := by rw [ins_length, HM.out]
              refine ⟨k + 1, Ac, cc, by omega, by go_num, by rw [HE.out, hlen], ?_, HBC.out⟩
              rw [HE.out, hlen, hins]
              exact OWN.out
            case measure => simp [intOf]; omega
          · obtain ⟨g, og, rfl, hgl, hcg⟩ := hsrc.out.2 (by have := HM.out; omega)
            have hj := HMEM.out (p - 1) (by omega)
            have hcj := hcg (p - 1) (.int .i64 ((L.getD (p - 1) 0 : Nat) : Int)) (by rw [intsL_get, ← natsI_get]; rw [List.getElem?_eq_getElem (by rw [natsI_length, ← HM.out]; omega), List.getD_eq_getElem?_getD, List.getElem?_eq_getElem (by rw [natsI_length, ← HM.out]; omega)]; rfl)
            obtain ⟨jj, hjj⟩ : ∃ j, j = L.getD (p - 1) 0 := ⟨_, rfl⟩
            rw [← hjj] at hj hcj
            have hcy := HC.out jj (by rw [← HN.out]; omega)
            obtain ⟨y, hy⟩ : ∃ y, y = l.getD jj 0 := ⟨_, rfl⟩
            rw [← hy] at hcy
            have hyb := HBD.out jj (by omega)
            rw [← hy] at hyb
            have HJJ := Lib.hid hjj; have HY := Lib.hid hy
            obtain ⟨r, hr1⟩ : ∃ r, p = r + 1 := ⟨p - 1, by omega⟩
            subst hr1
            rw [Nat.add_sub_cancel] at hcj
            have hsum : ((r + 1 : Nat) : Int) - 1 = (r : Int) := by omega
            clear hcg hjj hy hp0
            by_cases hxy : x < y
            · go_wp2
              go_quiet (fail)
              go_wp2
              go_roundw
              case rel =>
                refine ⟨r, q + nq, by omega, by first | rfl | go_num, by first | rfl | (rw [World.drewN_drewN]), fun j h1 h2 => ?_⟩
                by_cases e : j = r
                · have h3 := HJJ.out
                  rw [Nat.add_sub_cancel] at h3
                  rw [e, ← h3, HFK.out]
                  unfold freqN
                  rw [← HY.out]; omega
                · exact HALL.out j (by omega) h2
              case measure => first | (simp [intOf]; done) | (simp [intOf]; omega)
            · have dxy : decide (x < y) = false := by simpa using hxy
              go_wp2
              go_quiet (fail)
              obtain ⟨V, hV⟩ : ∃ V, V = (wr.drewN q).drewN nq := ⟨_, rfl⟩
              have hVo : V.ownsRow w.heap.size 3 1 (.slice (some ⟨g, og, none⟩) L.length co) L.length (intsL (natsI L)) := by rw [hV]; exact HO.out
              have hVb : Below w.heap.size w V := by rw [hV]; exact ⟨HB.out.os, HB.out.tape, HB.out.output, HB.out.size, HB.out.block⟩
              rw [← hV]
              clear hV
              obtain ⟨A2, hA2⟩ : ∃ A2, (if co = r + 1 then (some ⟨g, og, none⟩ : Option Addr) else some ⟨g, og + (r + 1), none⟩) = A2 := ⟨_, rfl⟩
              obtain ⟨Aa, ca, wa, Ab, cb, wb, Ac, cc, wc, r1, r2, r3, ho, hbc⟩ := ins_runs V w.heap.size (some ⟨g, og, none⟩) co L (r + 1) k hVo (by rw [← HM.out]; exact hp) (by rw [← HM.out]; omega) hVb.size A2 (by
                rw [← hA2]
                have e : (⟨g, og, none⟩ : Addr).add (r + 1) = ⟨g, og + (r + 1), none⟩ := by unfold Addr.add; split <;> simp_all
                simp only [Option.map_some, e])
              rw [← HM.out] at r3 ho
              have hc1 := (own_cap hVo).1
              rw [← HM.out] at hc1
              have R1 := Lib.hid r1; have R2 := Lib.hid r2; have R3 := Lib.hid r3; have OWN := Lib.hid ho; have HBC := Lib.hid (hVb.trans (hbc.mono hVb.size))
              clear r1 r2 r3 ho hbc hVo hVb
              go_wp2_with (first
                | (at_builtin; refine wpList_append_run rfl (.tmp 39) (.tmp 42) 23 rfl (.slice none 0 0) (.slice (some ⟨g, og, none⟩) (r + 1) co) (.slice Aa (r + 1) ca) wa rfl rfl R1.out ?_)
                | (at_builtin; refine wpList_append_run rfl (.tmp 44) (.tmp 46) 23 rfl (.slice Aa (r + 1) ca) (.slice (some ⟨wa.heap.size, 0, none⟩) 1 1) (.slice Ab (r + 1 + 1) cb) wb rfl rfl R2.out ?_)
                | (at_builtin; refine wpList_append_run rfl (.tmp 48) (.tmp 51) 23 rfl (.slice Ab (r + 1 + 1) cb) (.slice A2 (m - (r + 1)) (co - (r + 1))) (.slice Ac (m + 1) cc) wc rfl rfl R3.out ?_))
              go_roundw
              case rel =>
                have hins := ins_at L (r + 1) HORD.out (by rw [← HM.out]; exact hp) (.inr (by
                  have h3 := HJJ.out
                  rw [← h3, HFK.out]
                  unfold freqN
                  rw [← HY.out]; omega)) (i := k) (fun j h1 h2 => HALL.out j h1 (by rw [HM.out]; exact h2))
                have hlen : (insI (freqN l) k L).length = m + 1 := by rw [ins_length, HM.out]
                refine ⟨k + 1, Ac, cc, by omega, by go_num, by rw [HE.out, hlen], ?_, HBC.out⟩
                rw [HE.out, hlen, hins]
                exact OWN.out
              case measure => simp [intOf]; omega
    · obtain rfl : k = n := by omega
      have HO := Lib.hid hown; have HB := Lib.hid hbw
      have hlen := items_length (freqN l) k
      rw [hlen] at HO
      have HLEN := Lib.hid hlen
      clear hown hbw hlt hk hlen
      go_wp2
      rw [HLEN.out]
      go_ret
      exact ⟨Ao, co, rfl, HB.out, HO.out⟩
end Go.Proofs.Ytgppikhfkikknaa
