/-
  Layer 11 (block), the program's: Long and Best.
-/
import Derived.Test.YtjhljkhgjcckhaaGreatMhbb
namespace Go.Proofs.YtjhljkhgjcckhaaGreat
open Go.RowKit Go.ChangeShapes Go.WideShapes Go.ChangeAt Go.Joins
theorem cst_one (T : Nat → Nat) (f : Nat → Nat) (s d : Nat) : ∀ N, cstN (fun i => T i + if i = s then d else 0) f N = cstN T f N + if s < N then d * f s else 0
  | 0 => by simp [cstN]
  | N + 1 => by
    have ih := cst_one T f s d N
    show cstN (fun i => T i + if i = s then d else 0) f N + (T N + if N = s then d else 0) * f N = cstN T f N + T N * f N + _
    rw [ih, Nat.add_mul]
    by_cases h : N = s
    · subst h; rw [if_pos rfl, if_neg (by omega), if_pos (by omega)]; omega
    · rw [if_neg h]
      by_cases h2 : s < N
      · rw [if_pos h2, if_pos (by omega)]; omega
      · rw [if_neg h2, if_neg (by omega)]; omega
theorem cst_ext {T T' f : Nat → Nat} : ∀ N, (∀ i, i < N → T i = T' i) → cstN T f N = cstN T' f N
  | 0, _ => rfl
  | N + 1, h => by
    show cstN T f N + T N * f N = cstN T' f N + T' N * f N
    rw [cst_ext N (fun i hi => h i (by omega)), h N (by omega)]
/-- A row's end first. -/
theorem snoc_ind {α : Type} {p : List α → Prop} (h0 : p []) (h1 : ∀ l x, p l → p (l ++ [x])) (l : List α) : p l := by
  have : ∀ n (l : List α), l.length = n → p l := by
    intro n
    induction n with
    | zero => intro l h; rw [List.length_eq_zero_iff.1 h]; exact h0
    | succ n ih =>
      intro l h
      have hne : l ≠ [] := by intro e; rw [e] at h; cases h
      rw [← List.dropLast_concat_getLast hne]
      exact h1 _ _ (ih _ (by rw [List.length_dropLast]; omega))
  exact this _ l rfl
/-- What tokens cost by codes: counted by symbols. -/
theorem toks_cost (F G : Nat → Nat) (n m N M : Nat) (hN : 256 < N) (l : List Tok) : (∀ t ∈ l, mayT t = true ∧ t.x < 256 ∧ symA t < N ∧ (t.n ≠ 0 → symB t < M)) →
    bitsT (toksP F n G m l) = cstN (cntA l) F N + cstN (cntB l) G M + extT l := by
  refine snoc_ind (p := fun l => (∀ t ∈ l, mayT t = true ∧ t.x < 256 ∧ symA t < N ∧ (t.n ≠ 0 → symB t < M)) → bitsT (toksP F n G m l) = cstN (cntA l) F N + cstN (cntB l) G M + extT l) ?_ ?_ l
  · intro _
    have e1 : cstN (cntA []) F N = F 256 := by
      have h := cst_one (fun _ => 0) F 256 1 N
      have h0 : ∀ K, cstN (fun _ => 0) F K = 0 := by
        intro K
        induction K with
        | zero => rfl
        | succ K ih => show cstN (fun _ => 0) F K + 0 * F K = 0; rw [ih]; omega
      rw [h0, if_pos hN, Nat.one_mul, Nat.zero_add] at h
      rw [← h]
      exact cst_ext N fun i _ => by simp [cntA]
    have e2 : cstN (cntB []) G M = 0 := by
      have h0 : ∀ K, cstN (cntB []) G K = 0 := by
        intro K
        induction K with
        | zero => rfl
        | succ K ih => show cstN (cntB []) G K + cntB [] K * G K = 0; rw [ih]; simp [cntB]
      exact h0 M
    rw [e1, e2]
    simp [toksP, bitsT, codP, extT]
  · intro l t ih h
    have ih := ih fun u hu => h u (List.mem_append_left _ hu)
    obtain ⟨hmy, hx, hsA, hsB⟩ := h t (by simp)
    have e0 : bitsT (toksP F n G m (l ++ [t])) = bitsT (toksP F n G m l) + bitsT (tokP F n G m t) := by
      unfold toksP; rw [List.flatMap_append, bitsT_app, bitsT_app, bitsT_app]; simp; omega
    have e1 : cstN (cntA (l ++ [t])) F N = cstN (cntA l) F N + F (symA t) := by
      have h := cst_one (cntA l) F (symA t) 1 N
      rw [if_pos hsA, Nat.one_mul] at h
      rw [← h]
      exact cst_ext N fun i _ => by
        rw [cntA_one]
        by_cases e : i = symA t
        · rw [if_pos e, if_pos e.symm]
        · rw [if_neg e, if_neg (fun k => e k.symm)]
    rw [e0, e1, extT_one, ih]
    by_cases h0 : t.n = 0
    · have e2 : cstN (cntB (l ++ [t])) G M = cstN (cntB l) G M := cst_ext M fun i _ => by rw [cntB_one, if_neg (fun k => k.1 h0)]; rfl
      have e3 : tokP F n G m t = [codP F n t.x] := by unfold tokP; rw [if_pos h0]
      have e4 : extK t = 0 := by unfold extK; rw [if_pos h0]
      have e5 : symA t = t.x := by unfold symA; rw [if_pos h0]
      rw [e2, e3, e4, e5]
      simp [bitsT, codP]; omega
    · have e2 : cstN (cntB (l ++ [t])) G M = cstN (cntB l) G M + G (symB t) := by
        have h := cst_one (cntB l) G (symB t) 1 M
        rw [if_pos (hsB h0), Nat.one_mul] at h
        rw [← h]
        exact cst_ext M fun i _ => by
          rw [cntB_one]
          by_cases e : i = symB t
          · rw [if_pos e, if_pos ⟨h0, e.symm⟩]
          · rw [if_neg e, if_neg (fun k => e k.2.symm)]
      have e3 : tokP F n G m t = [codP F n (symA t), ((lgX t.n).toNat, (lgB t.n).toNat), codP G m (symB t), ((frX t.d).toNat, (frB t.d).toNat)] := by
        unfold tokP symA symB; rw [if_neg h0, if_neg h0]
      have e4 : extK t = (lgB t.n).toNat + (frB t.d).toNat := by unfold extK; rw [if_neg h0]
      rw [e2, e3, e4]
      simp [bitsT, codP]; omega
set_option maxRecDepth 100000 in
/-- How long a block is, by what stands ahead and what its symbols cost. -/
theorem opn_bits (k kind n : Nat) (r : Nat → Nat) (l : List Tok) (last : Bool) (hkd : kind ≤ 2) (hl : l.length ≤ 65535) (hok : ∀ t ∈ l, mayT t = true ∧ t.x < 256) :
    bitsT (blkP (k % 8) kind n r l last) = bitsT (opnP k kind n l last) + if kind = 0 then 8 * n else cstN (cntA l) (opnA kind l) (min (opnM kind l) 286) + cstN (cntB l) (opnB kind l) (min (opnN kind l) 30) + extT l := by
  have hc : kind = 0 ∨ kind = 1 ∨ kind = 2 := by omega
  rcases hc with rfl | rfl | rfl
  · rw [sto_bits, if_pos rfl]
    have e : opnP k 0 n l last = [(if last then 1 else 0, 1), (0, 2)] ++ [(0, (8 - (k + 3) % 8) % 8), (n, 16), (65535 - n, 16)] := rfl
    rw [e, bitsT_app]
    have e2 : bitsT [((if last then 1 else 0 : Nat), 1), (0, 2)] = 3 := rfl
    rw [e2]
    have e3 : bitsT [(0, (8 - (k + 3) % 8) % 8), (n, 16), (65535 - n, 16)] = (8 - (k + 3) % 8) % 8 + 32 := by simp [bitsT]
    rw [e3]; unfold padN; omega
  · rw [if_neg (by omega)]
    have e : blkP (k % 8) 1 n r l last = opnP k 1 n l last ++ toksP fixA 288 fixB 32 l := by
      unfold blkP opnP; rw [if_pos rfl, if_pos rfl, List.append_nil]
    rw [e, bitsT_app]
    have hm : min (opnM 1 l) 286 = 286 := rfl
    have hn : min (opnN 1 l) 30 = 30 := rfl
    rw [hm, hn]
    have := toks_cost fixA fixB 288 32 286 30 (by omega) l (fun t ht => by
      obtain ⟨h1, _, h3⟩ := sym_lt (hok t ht).1 (hok t ht).2
      exact ⟨(hok t ht).1, (hok t ht).2, h1, fun h => (h3 h).2.2.2⟩)
    show _ + bitsT (toksP fixA 288 fixB 32 l) = _ + (cstN (cntA l) fixA 286 + cstN (cntB l) fixB 30 + extT l)
    rw [this]
  · rw [if_neg (by omega)]
    have e : blkP (k % 8) 2 n r l last = opnP k 2 n l last ++ toksP (lnA l) (nA l) (lnB l) (nB l) l := by
      unfold blkP opnP; rw [if_neg (show ¬ (2 : Nat) = 1 by omega), if_pos rfl, if_neg (show ¬ (2 : Nat) = 1 by omega), if_pos rfl, List.append_assoc]
    rw [e, bitsT_app]
    obtain ⟨_, _, _, _, a1, a2, b1, b2, hA, hB⟩ := dyn_ok l (by omega)
    have hm : min (opnM 2 l) 286 = nA l := by show min (nA l) 286 = nA l; omega
    have hn : min (opnN 2 l) 30 = nB l := by show min (nB l) 30 = nB l; omega
    rw [hm, hn]
    have := toks_cost (lnA l) (lnB l) (nA l) (nB l) (nA l) (nB l) (by omega) l (fun t ht => by
      obtain ⟨h1, _, h3⟩ := sym_lt (hok t ht).1 (hok t ht).2
      exact ⟨(hok t ht).1, (hok t ht).2, (hA _ h1 (cntA_pos ht)).1, fun h => (hB _ (h3 h).2.2.2 (cntB_pos ht h)).1⟩)
    show _ + bitsT (toksP (lnA l) (nA l) (lnB l) (nB l) l) = _ + (cstN (cntA l) (lnA l) (nA l) + cstN (cntB l) (lnB l) (nB l) + extT l)
    rw [this]
end Go.Proofs.YtjhljkhgjcckhaaGreat

namespace Go.Proofs.YtjhljkhgjcckhaaGreat
open Go.RowKit Go.ChangeShapes Go.WideShapes Go.ChangeAt Go.Joins
theorem built_rowL (k : Int) : Tryz.prog.built 53 [(2, .int .i64 k)] = some #[.slice none 0 0, .int .u64 0, .int .i64 k] := by kernel_rfl
theorem opnM_le (kind : Nat) (l : List Tok) (hl : l.length ≤ 1000000) : opnM kind l ≤ 288 ∧ opnN kind l ≤ 32 := by
  obtain ⟨_, _, _, _, a1, a2, b1, b2, _⟩ := dyn_ok l hl
  unfold opnM opnN
  constructor
  · split
    · omega
    · split <;> omega
  · split
    · omega
    · split <;> omega
set_option maxRecDepth 100000 in
set_option maxHeartbeats 4000000 in
theorem long11_any (w : World) (a kind n gc : Nat) (r : Nat → Nat) (l : List Tok) (ha : a ≤ 7) (hkd : kind ≤ 2) (hn : n ≤ 65535) (hr : ∀ j, r j < 256) (hgc : RowT w gc 317 (cntE l) 90) (hl : l.length ≤ 65535) (hok : ∀ t ∈ l, mayT t = true ∧ t.x < 256) :
    Calls Tryz.prog 36 #[.int .i64 (a : Int), .int .u8 (kind : Int), .int .i64 (n : Int), .pointer (some ⟨gc, 0, none⟩)] w fun e w' => e = .returned (.int .i64 ((bitsT (blkP a kind n r l false) : Nat) : Int)) ∧ Below w.heap.size w w' := by
  have hbb := opn_bits a kind n r l false hkd hl hok
  rw [Nat.mod_eq_of_lt (show a < 8 by omega)] at hbb
  have hble := blkP_bits (a := a) (last := false) hkd hn hr hl hok
  obtain ⟨om, on⟩ := opnM_le kind l (by omega)
  obtain ⟨T, hT⟩ : ∃ T, T = bitsT (blkP a kind n r l false) := ⟨_, rfl⟩
  obtain ⟨O, hO⟩ : ∃ O, O = bitsT (opnP a kind n l false) := ⟨_, rfl⟩
  rw [← hT] at hbb hble ⊢
  rw [← hO] at hbb
  have hOT : O ≤ T := by omega
  obtain ⟨W1, hW1⟩ : ∃ W, W = mkV w #[.slice none 0 0, .int .u64 0, .int .i64 0] #[.slice none 0 0, .int .u64 0, .int .i64 (a : Int)] 53 := ⟨_, rfl⟩
  have b1 : Below w.heap.size w W1 := by rw [hW1]; exact mkV_below _ _ _ _
  have hrow : W1.heap[w.heap.size]? = some (.cells #[.slice none 0 0, .int .u64 0, .int .i64 (a : Int)] 53 (0, 0)) := by rw [hW1]; exact mkV_row w _ _ _
  obtain ⟨S, hS⟩ : ∃ S : Nat → Prop, S = fun j => j < w.heap.size := ⟨_, rfl⟩
  have hra : RowAt W1 S w.heap.size w.heap.size (fun _ => 0) a := by
    refine ⟨⟨fun _ => by show 0 < 256; omega, fun _ _ => rfl, Nat.two_pow_pos _⟩, none, 0, ?_⟩
    rw [show a / 8 = 0 by omega, Nat.mod_eq_of_lt (show a < 8 by omega)]
    exact ⟨Nat.le_refl _, by have := (Array.getElem?_eq_some_iff.1 hrow).1; omega, by rw [hS]; omega, hrow, World.ownsRow_nil _ _ _ _, fun j h => by simp [Value.ownBlock] at h, fun j h => by rw [hS] at h; have := b1.size; omega⟩
  have hSg : S gc := by rw [hS]; exact hgc.lt
  have hgc1 : RowT W1 gc 317 (cntE l) 90 := hgc.below b1 hgc.lt
  have hop := open11_any W1 S w.heap.size w.heap.size (fun _ => 0) a n gc kind l false hra hkd hn (by omega) hSg hgc1 hl hok (by rw [← hO]; omega)
  have hSa : ∀ j, j < w.heap.size → S j := fun j hj => by rw [hS]; exact hj
  have HOP := Lib.hid hop; have HO := Lib.hid hO; have HBB := Lib.hid hbb; have HW1 := Lib.hid hW1; have B1 := Lib.hid b1; have HGC1 := Lib.hid hgc1; have HSG := Lib.hid hSg; have HSA := Lib.hid hSa; have HOK := Lib.hid hok
  clear hop hO hbb hW1 b1 hrow hra hSg hgc1 hgc hSa hS hT hok hr
  go_enter Tryz.func36, Tryz.ntmps36
  go_wp2_with (first
    | (refine wpList_buildTo rfl 53 #[(2, .tmp 13)] rfl (some 14) rfl #[.slice none 0 0, .int .u64 0, .int .i64 (a : Int)] ?_ ?_; focus (simpa [Act.eval] using built_rowL (a : Int)))
    | (refine wpList_store_rowTo rfl _ _ _ rfl rfl w.heap.size #[.slice none 0 0, .int .u64 0, .int .i64 (a : Int)] rfl rfl 53 #[.slice none 0 0, .int .u64 0, .int .i64 0] (heap_alloc_new w _) (szRow _ _ _) rfl (by simp [Value.oneCell']) ?_; change wpList _ _ _ _ _ (mkV w #[.slice none 0 0, .int .u64 0, .int .i64 0] #[.slice none 0 0, .int .u64 0, .int .i64 (a : Int)] 53); rw [← HW1.out])
    | fail)
  refine HOP.out.mono ?_
  rintro e w2 ⟨A1, c1, A2, c2, rfl, hr1, hr2, hrow2, hk2, hb2⟩
  rw [← HO.out] at hrow2
  have hbt := rowbits_any w2 S w.heap.size w.heap.size _ (a + O) hrow2 (by omega)
  have HBT := Lib.hid hbt
  have hgc2 : RowT w2 gc 317 (cntE l) 90 := (hk2 gc HSG.out).trans HGC1.out
  obtain ⟨M, hM⟩ : ∃ M, M = opnM kind l := ⟨_, rfl⟩
  obtain ⟨N, hN⟩ : ∃ N, N = opnN kind l := ⟨_, rfl⟩
  rw [← hM] at hr1 om ⊢
  rw [← hN] at hr2 on ⊢
  have hbb := HBB.out
  rw [← hM, ← hN] at hbb
  have hcb := cbits11_any w2.drew gc l hgc2.drew (by omega) HOK.out A1 M c1 (opnA kind l) A2 N c2 (opnB kind l) hr1 hr2 _ _ rfl rfl
  obtain ⟨C, hC⟩ : ∃ C, C = cstN (cntA l) (opnA kind l) (min M 286) + cstN (cntB l) (opnB kind l) (min N 30) + extT l := ⟨_, rfl⟩
  rw [← hC] at hcb hbb
  have HCB := Lib.hid hcb
  have HB2 := Lib.hid (show Below w.heap.size w w2 from B1.out.trans hb2)
  have HBB2 := Lib.hid hbb
  clear hbt hrow2 hr1 hr2 hgc2 hM hN hC hcb hk2 hb2 HOP HBB hbb
  go_wp2_with fail
  refine HBT.out.mono ?_
  rintro e w3 ⟨rfl, rfl⟩
  have eO : ((a + O : Nat) : Int) - (a : Int) = (O : Int) := by omega
  by_cases hk0 : kind = 0
  · subst hk0
    have hT0 : T = O + 8 * n := by rw [HBB2.out, if_pos rfl]
    clear HBB2 HCB HBT
    subst hT0
    have eO2 : (a : Int) + (O : Int) - (a : Int) = (O : Int) := by omega
    go_wp2
    go_ret
    exact ⟨by first | rfl | go_num, HB2.out.drew⟩
  · have hkn : ((kind : Int) == 0) = false := by rw [beq_eq_false_iff_ne]; omega
    have hT0 : T = O + C := by rw [HBB2.out, if_neg hk0]
    clear HBB2 HBT
    subst hT0
    have eO2 : (a : Int) + (O : Int) - (a : Int) = (O : Int) := by omega
    go_wp2_with fail
    refine HCB.out.mono ?_
    rintro e w4 ⟨rfl, hb4⟩
    have HB4 := Lib.hid (HB2.out.drew.trans (hb4.mono HB2.out.drew.size))
    clear hb4
    go_wp2
    go_ret
    exact ⟨by first | rfl | go_num, HB4.out⟩
set_option maxRecDepth 100000 in
set_option maxHeartbeats 4000000 in
theorem long_con : LongCon := by
  intro w a kind A1 rn rc r A2 m c2 l ha1 ha2 hkd hrr hrn hrt hm2 hin
  obtain ⟨hm, hrt2, _⟩ := hrt
  obtain ⟨V, hV⟩ : ∃ V, V = lngV a kind rn r l := ⟨_, rfl⟩
  obtain ⟨E, hE⟩ : ∃ E, E = lngE a kind rn l := ⟨_, rfl⟩
  rw [← hV, ← hE]
  have hV2 : V = if E = 0 then bitsT (blkP a.toNat kind rn r l false) else 0 := by rw [hV, hE]; rfl
  clear hV
  have HB0 := Lib.hid (Below.refl w.heap.size w)
  by_cases y0 : a < 0
  · have d0 : decide (a < 0) = true := decY0 y0
    obtain rfl : E = 2 := by rw [hE]; unfold lngE; rw [if_pos (.inl y0)]
    obtain rfl : V = 0 := by rw [hV2, if_neg (by omega)]
    clear hrr hrt2 hin hE hV2
    go_enter Tryz.func11, Tryz.ntmps11
    go_wp2
    go_ret2
    exact ⟨rfl, HB0.out⟩
  have d0 : decide (a < 0) = false := decN0 y0
  by_cases y1 : 7 < a
  · have d1 : decide (7 < a) = true := decY0 y1
    obtain rfl : E = 2 := by rw [hE]; unfold lngE; rw [if_pos (.inr y1)]
    obtain rfl : V = 0 := by rw [hV2, if_neg (by omega)]
    clear hrr hrt2 hin hE hV2
    go_enter Tryz.func11, Tryz.ntmps11
    go_wp2
    go_ret2
    exact ⟨rfl, HB0.out⟩
  have d1 : decide (7 < a) = false := decN0 y1
  have hE2 : E = askW kind rn l := by rw [hE]; unfold lngE; rw [if_neg (by omega)]
  clear hE
  obtain ⟨p, rfl⟩ := Int.eq_ofNat_of_zero_le (show 0 ≤ a by omega)
  have hck := check11_any w kind A1 rn rc A2 m c2 l hkd hm hrt2 hm2 hrn hin
  rw [← hE2] at hck
  have HCK := Lib.hid hck
  by_cases he : E = 0
  · subst he
    obtain ⟨k2, n2, l2, hmay⟩ := askW_ok hE2.symm
    have hok : ∀ t ∈ l, mayT t = true ∧ t.x < 256 := fun t ht => ⟨hmay t ht, (hin t ht).1⟩
    rw [if_pos rfl, Int.toNat_natCast] at hV2
    have HOK := Lib.hid hok; have HV2 := Lib.hid hV2; have HRT := Lib.hid hrt2; have HM := Lib.hid hm; have HR8 := Lib.hid hrr.1.1
    have hpp : p ≤ 7 := by omega
    clear hck hE2 hok hV2 hrt2 hm hrr hin hmay
    go_enter Tryz.func11, Tryz.ntmps11
    go_wp2_with fail
    refine HCK.out.mono ?_
    rintro e w1 ⟨rfl, hb1⟩
    have hct := count11_any w1 A2 m c2 l HM.out ((HRT.out.below hb1 (Nat.le_refl _)).more hb1.size) hm2 HOK.out
    have HCT := Lib.hid hct; have HB1 := Lib.hid hb1
    clear hct hb1 HCK
    go_wp2_with fail
    refine HCT.out.mono ?_
    rintro e w2 ⟨rfl, hg, hb2⟩
    have hlg := long11_any w2 p kind rn w1.heap.size r l hpp k2 n2 HR8.out hg l2 HOK.out
    rw [← HV2.out] at hlg
    have HLG := Lib.hid hlg; have HB2 := Lib.hid (HB1.out.trans (hb2.mono HB1.out.size))
    clear hlg hb2 hg HCT
    go_wp2_with fail
    refine HLG.out.mono ?_
    rintro e w3 ⟨rfl, hb3⟩
    have HB3 := Lib.hid (HB2.out.trans (hb3.mono HB2.out.size))
    clear hb3
    go_wp2
    go_ret2
    exact ⟨rfl, HB3.out⟩
  · obtain rfl : V = 0 := by rw [hV2, if_neg he]
    have hen : (E == 0) = false := by rw [beq_eq_false_iff_ne]; exact he
    clear hck hE2 hV2 hrt2 hm hrr hin
    go_enter Tryz.func11, Tryz.ntmps11
    go_wp2_with fail
    refine HCK.out.mono ?_
    rintro e w1 ⟨rfl, hb1⟩
    have HB1 := Lib.hid hb1
    clear hb1
    go_wp2
    go_ret2
    exact ⟨rfl, HB1.out⟩
set_option maxRecDepth 100000 in
set_option maxHeartbeats 4000000 in
theorem best_con : BestCon := by
  intro w a A1 rn rc r A2 m c2 l ha1 ha2 hrr hrn hrt hm2 hin
  obtain ⟨hm, hrt2, _⟩ := hrt
  obtain ⟨V, hV⟩ : ∃ V, V = bestV a rn r l := ⟨_, rfl⟩
  obtain ⟨E, hE⟩ : ∃ E, E = bestE a rn l := ⟨_, rfl⟩
  rw [← hV, ← hE]
  have hV2 : V = if E = 0 then bestK a.toNat rn r l else 0 := by rw [hV, hE]; rfl
  clear hV
  have HB0 := Lib.hid (Below.refl w.heap.size w)
  by_cases y0 : a < 0
  · have d0 : decide (a < 0) = true := decY0 y0
    obtain rfl : E = 2 := by rw [hE]; unfold bestE lngE; rw [if_pos (.inl y0)]
    obtain rfl : V = 0 := by rw [hV2, if_neg (by omega)]
    clear hrr hrt2 hin hE hV2
    go_enter Tryz.func13, Tryz.ntmps13
    go_wp2
    go_ret2
    exact ⟨rfl, HB0.out⟩
  have d0 : decide (a < 0) = false := decN0 y0
  by_cases y1 : 7 < a
  · have d1 : decide (7 < a) = true := decY0 y1
    obtain rfl : E = 2 := by rw [hE]; unfold bestE lngE; rw [if_pos (.inr y1)]
    obtain rfl : V = 0 := by rw [hV2, if_neg (by omega)]
    clear hrr hrt2 hin hE hV2
    go_enter Tryz.func13, Tryz.ntmps13
    go_wp2
    go_ret2
    exact ⟨rfl, HB0.out⟩
  have d1 : decide (7 < a) = false := decN0 y1
  have hE2 : E = askW 0 rn l := by rw [hE]; unfold bestE lngE; rw [if_neg (by omega)]
  clear hE
  obtain ⟨p, rfl⟩ := Int.eq_ofNat_of_zero_le (show 0 ≤ a by omega)
  have hck := check11_any w 0 A1 rn rc A2 m c2 l (by omega) hm hrt2 hm2 hrn hin
  rw [← hE2] at hck
  have HCK := Lib.hid hck
  by_cases he : E = 0
  · subst he
    obtain ⟨_, n2, l2, hmay⟩ := askW_ok hE2.symm
    have hok : ∀ t ∈ l, mayT t = true ∧ t.x < 256 := fun t ht => ⟨hmay t ht, (hin t ht).1⟩
    rw [if_pos rfl, Int.toNat_natCast] at hV2
    have hpp : p ≤ 7 := by omega
    obtain ⟨f, hf⟩ : ∃ f : Nat → Nat, f = fun k => bitsT (blkP p k rn r l false) := ⟨_, rfl⟩
    have hVf : V = shF f 2 := by rw [hV2, hf]; rfl
    have hlong : ∀ (U : World) (gc k : Nat), k ≤ 2 → RowT U gc 317 (cntE l) 90 → Calls Tryz.prog 36 #[.int .i64 (p : Int), .int .u8 (k : Int), .int .i64 (rn : Int), .pointer (some ⟨gc, 0, none⟩)] U fun e w' => e = .returned (.int .i64 ((f k : Nat) : Int)) ∧ Below U.heap.size U w' := fun U gc k hk hg => by
      rw [hf]
      exact long11_any U p k rn gc r l hpp hk n2 hrr.1.1 hg l2 hok
    have hfb : ∀ k, k ≤ 2 → f k ≤ 4320000 := fun k hk => by rw [hf]; exact blkP_bits hk n2 hrr.1.1 l2 hok
    have HOK := Lib.hid hok; have HVF := Lib.hid hVf; have HRT := Lib.hid hrt2; have HM := Lib.hid hm; have HLONG := Lib.hid hlong; have HFB := Lib.hid hfb
    clear hck hE2 hok hV2 hrt2 hm hrr hin hmay hf hVf hlong hfb
    go_enter Tryz.func13, Tryz.ntmps13
    go_wp2_with fail
    refine HCK.out.mono ?_
    rintro e w1 ⟨rfl, hb1⟩
    have hct := count11_any w1 A2 m c2 l HM.out ((HRT.out.below hb1 (Nat.le_refl _)).more hb1.size) hm2 HOK.out
    have HCT := Lib.hid hct; have HB1 := Lib.hid hb1
    clear hct hb1 HCK
    go_wp2_with fail
    refine HCT.out.mono ?_
    rintro e w2 ⟨rfl, hg, hb2⟩
    have hlg := HLONG.out w2 w1.heap.size 0 (by omega) hg
    have HLG := Lib.hid hlg; have HB2 := Lib.hid (HB1.out.trans (hb2.mono HB1.out.size)); have HGC := Lib.hid hg
    clear hlg hb2 hg HCT
    go_wp2_with fail
    refine HLG.out.mono ?_
    rintro e w3 ⟨rfl, hb3⟩
    have HB3 := Lib.hid (HB2.out.trans (hb3.mono HB2.out.size)); have HG3 := Lib.hid (HGC.out.below hb3 HGC.out.lt)
    clear hb3 HLG HGC
    obtain ⟨gc, hgce⟩ : ∃ g, g = w1.heap.size := ⟨_, rfl⟩
    rw [← hgce] at HG3 ⊢
    clear hgce
    obtain ⟨W4, hW4⟩ : ∃ W, W = w3.alloc (.cells #[.int .u8 1, .int .u8 2] 5) := ⟨_, rfl⟩
    have b4 : Below w3.heap.size w3 W4 := by rw [hW4]; exact (Below.refl _ _).alloc (Nat.le_refl _) _
    have hnew : W4.heap[w3.heap.size]? = some (.cells #[.int .u8 1, .int .u8 2] 5 (0, 0)) := by rw [hW4]; exact heap_alloc_new w3 _
    have HW4 := Lib.hid hW4; have HG4 := Lib.hid (HG3.out.below b4 HG3.out.lt); have HB4 := Lib.hid (HB3.out.trans (b4.mono HB3.out.size)); have HN := Lib.hid hnew
    clear hW4 b4 hnew HG3
    go_wp2_with (first | rw [← HW4.out] | fail)
    go_loopw [10, 11, 36] (fun kv nv iv wr => ∃ (i s : Nat), i ≤ 2 ∧ s ≤ 2 ∧ Hid (s = shF f i) ∧ kv = .int .u8 (s : Int) ∧ nv = .int .i64 ((f s : Nat) : Int) ∧ iv = .int .i64 (i : Int) ∧ Hid (Below W4.heap.size W4 wr)) (fun _ _ iv _ => 2 - (intOf iv).toNat)
    case atStart => exact ⟨0, 0, by omega, by omega, Lib.hid rfl, rfl, rfl, rfl, Lib.hid (Below.refl _ _)⟩
    case round =>
      obtain ⟨i, s, hi, hs2, HS, rfl, rfl, rfl, HB⟩ := hrel
      have hlt4 : w3.heap.size < W4.heap.size := (Array.getElem?_eq_some_iff.1 HN.out).1
      by_cases hlt : i < 2
      · have hlti : (i : Int) < 2 := by omega
        have hc0 : wr.cell? ⟨w3.heap.size, i, none⟩ = some (.int .u8 ((i + 1 : Nat) : Int)) := by
          rw [HB.out.cell (p := ⟨w3.heap.size, i, none⟩) hlt4, cell_of_row W4 w3.heap.size i _ _ (0, 0) HN.out]
          rcases i with _ | _ | i
          · rfl
          · rfl
          · omega
        obtain ⟨j, hj⟩ : ∃ j, j = i + 1 := ⟨_, rfl⟩
        rw [← hj] at hc0
        have hsh : shF f j = if f j < f s then j else s := by rw [hj, HS.out]; rfl
        have hlg := HLONG.out wr gc j (by omega) (HG4.out.below HB.out HG4.out.lt)
        have hf1 := HFB.out j (by omega)
        have hf2 := HFB.out s hs2
        obtain ⟨x, hx⟩ : ∃ x, x = f j := ⟨_, rfl⟩
        obtain ⟨y, hy⟩ : ∃ y, y = f s := ⟨_, rfl⟩
        rw [← hx] at hlg hf1 hsh
        rw [← hy] at hf2 hsh ⊢
        have HLG := Lib.hid hlg; have HSH := Lib.hid hsh; have HX := Lib.hid hx; have HY := Lib.hid hy; have HJ := Lib.hid hj
        have hj2 : j ≤ 2 := by omega
        clear hlg hsh hx hy hj
        go_wp2_with fail
        refine HLG.out.mono ?_
        rintro e w5 ⟨rfl, hb5⟩
        have HB5 := Lib.hid (HB.out.trans (hb5.mono HB.out.size))
        clear hb5
        by_cases hxy : x < y
        · have hxi : (x : Int) < (y : Int) := by omega
          go_wp2
          go_roundw
          case rel => exact ⟨i + 1, j, by omega, hj2, Lib.hid (by rw [← HJ.out, HSH.out, if_pos hxy]), rfl, by rw [HX.out], by go_num, HB5⟩
          case measure => simp [intOf]; omega
        · have hxi : ¬ (x : Int) < (y : Int) := by omega
          go_wp2
          go_roundw
          case rel => exact ⟨i + 1, s, by omega, hs2, Lib.hid (by rw [← HJ.out, HSH.out, if_neg hxy]), rfl, by rw [HY.out], by go_num, HB5⟩
          case measure => simp [intOf]; omega
      · obtain rfl : i = 2 := by omega
        have hlti : ¬ ((2 : Nat) : Int) < 2 := by omega
        obtain rfl : s = V := by rw [HS.out, HVF.out]
        have HBF := Lib.hid (HB4.out.trans (HB.out.mono HB4.out.size))
        go_wp2
        go_ret2
        exact ⟨rfl, HBF.out⟩
  · obtain rfl : V = 0 := by rw [hV2, if_neg he]
    have hen : (E == 0) = false := by rw [beq_eq_false_iff_ne]; exact he
    clear hck hE2 hV2 hrt2 hm hrr hin
    go_enter Tryz.func13, Tryz.ntmps13
    go_wp2_with fail
    refine HCK.out.mono ?_
    rintro e w1 ⟨rfl, hb1⟩
    have HB1 := Lib.hid hb1
    clear hb1
    go_wp2
    go_ret2
    exact ⟨rfl, HB1.out⟩
end Go.Proofs.YtjhljkhgjcckhaaGreat

