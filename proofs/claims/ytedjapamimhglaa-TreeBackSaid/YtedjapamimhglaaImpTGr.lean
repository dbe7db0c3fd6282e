/-
  Layer 5 (tree): what the program's Grow answers, for every lengths.
-/
import Derived.Test.YtedjapamimhglaaImpByL
import Derived.Test.YtedjapamimhglaaInRun
import Derived.Test.YtedjapamimhglaaTreeRgr
import Derived.Test.YtedjapamimhglaaCanonKck
import Derived.Deep.DeepCutAuto
namespace Go.Proofs.Ytedjapamimhglaa
open Go.RowKit Go.Shelf
attribute [local go_sem] Oper.semAt_some
/-- How many of some symbols have each length. -/
def cntT (f : Nat → Nat) (L : List Nat) (m : Nat) : Int := ((L.countP fun x => f x == m : Nat) : Int)
theorem countP_row (f : Nat → Nat) (k m : Nat) : ∀ n, (rowM f k n).countP (fun x => f x == m) = if k = m then (rowM f k n).length else 0
  | 0 => by simp [rowM]
  | n + 1 => by
    simp only [rowM, List.countP_append, List.length_append]
    rw [countP_row f k m n]
    by_cases h : f n = k
    · rw [if_pos h]
      by_cases e : k = m
      · simp [e, h]
      · simp [e, h]
    · rw [if_neg h]; simp
theorem countP_sym (f : Nat → Nat) (m n : Nat) : ∀ M, (symL f n M).countP (fun x => f x == m) = if 0 < m ∧ m ≤ M then tcN f m n else 0
  | 0 => by simp [symL]; omega
  | M + 1 => by
    simp only [symL, List.countP_append]
    rw [countP_sym f m n M, countP_row]
    by_cases e : M + 1 = m
    · subst e
      rw [if_neg (by omega), if_pos rfl, if_pos ⟨by omega, Nat.le_refl _⟩, rowM_length f (by omega), Nat.zero_add]
    · rw [if_neg e]
      by_cases h : 0 < m ∧ m ≤ M
      · rw [if_pos h, if_pos ⟨h.1, by omega⟩, Nat.add_zero]
      · rw [if_neg h, if_neg (by omega)]
theorem cntT_all (f : Nat → Nat) (n : Nat) {m : Nat} (hm : m < 16) : cntT f (symL f n 15) m = (tcN f m n : Int) := by
  unfold cntT
  rw [countP_sym]
  by_cases h : 0 < m
  · rw [if_pos ⟨h, by omega⟩]
  · obtain rfl : m = 0 := by omega
    rw [if_neg (by omega), cntN_zero]
theorem sym_take {f : Nat → Nat} {n j : Nat} (h : j < sumC f n 15) : (symL f n 15).take (j + 1) = (symL f n 15).take j ++ [symN f n j] := by
  rw [← symL_length] at h
  rw [List.take_succ_eq_append_getElem h]
  unfold symN
  rw [List.getD_eq_getElem?_getD, List.getElem?_eq_getElem h]; rfl
theorem sym_mem {f : Nat → Nat} {n j : Nat} (h : j < sumC f n 15) : symN f n j < n ∧ 0 < f (symN f n j) ∧ f (symN f n j) ≤ 15 := by
  rw [← symL_length] at h
  have hm : symN f n j ∈ symL f n 15 := by
    unfold symN
    rw [List.getD_eq_getElem?_getD, List.getElem?_eq_getElem h]; exact List.getElem_mem _
  have key : ∀ M x, x ∈ symL f n M → x < n ∧ 0 < f x ∧ f x ≤ M := by
    intro M
    induction M with
    | zero => intro x hx; simp [symL] at hx
    | succ M ih =>
      intro x hx
      simp only [symL, List.mem_append] at hx
      rcases hx with hx | hx
      · have := ih x hx; omega
      · have := (rowM_mem f (M + 1) x n).1 hx; omega
  exact key 15 _ hm
theorem cntT_step {f : Nat → Nat} {n j : Nat} (h : j < sumC f n 15) : (fun m => if m = f (symN f n j) then cntT f ((symL f n 15).take j) (f (symN f n j)) + 1 else cntT f ((symL f n 15).take j) m) = cntT f ((symL f n 15).take (j + 1)) := by
  funext m
  rw [sym_take h]
  unfold cntT
  rw [List.countP_append]
  by_cases e : m = f (symN f n j)
  · subst e; simp
  · rw [if_neg e]
    have : (f (symN f n j) == m) = false := by simp; omega
    simp [List.countP_cons, this]
/-- What stays: all that was there, and the iterator's own slice. -/
def SGr (B b k : Nat) : Prop := k < B ∨ k = b + 1
/-- Between two rounds. -/
def GrI (w u : World) (b : Nat) (f : Nat → Nat) (n j : Nat) (W : World) : Prop :=
  Below w.heap.size w W ∧ KpB (SGr w.heap.size b) u W ∧ u.heap.size ≤ W.heap.size ∧ TreA W w.heap.size (fun _ => 0) (.slice none 0 0) ∧
  ∃ (A : Option Addr) (c : Nat), TreA W b (cntT f ((symL f n 15).take j)) (.slice A j c) ∧ W.ownsRow (b + 2) 3 1 (.slice A j c) j (intsL (natsI ((symL f n 15).take j)))
theorem GrI.own (w u : World) (b : Nat) (f : Nat → Nat) (n : Nat) (hb : w.heap.size < b) (hu : u.heap.size = b + 2) : OwnFrom u.heap.size (GrI w u b f n) := by
  rintro j W W' row ⟨h1, h2, h3, h4, A, c, h5, h6⟩ hgr hr
  have hk : ∀ k, k < u.heap.size → W'.heap[k]? = W.heap[k]? := fun k hk => hgr.block k (by omega) (fun e => by have := (hr k e.symm).1; omega)
  refine ⟨h1.grown hgr ?_ (fun r e => ?_), fun k hS => (hk k ?_).trans (h2 k hS), Nat.le_trans h3 hgr.size, (hk _ (by omega)).trans h4, A, c, (hk _ (by omega)).trans h5, own_grown h6 hgr (fun r e => (hr r e).2)⟩
  · omega
  · have := (hr r e).1; omega
  · rcases hS with hS | hS <;> omega
set_option maxRecDepth 100000 in
set_option maxHeartbeats 4000000 in
theorem tgrow_any (w : World) (A : Option Addr) (n c : Nat) (f : Nat → Nat) (most : Int) (hr : RdB w w.heap.size A n f) (hn : n ≤ 1000000) :
    Calls Try.prog 9 #[.slice A n c, .int .i64 most] w fun e w' => ∃ v, e = .returned (.tuple #[.agg (trA (grC f n most) v), .int .i64 (checkE f n most)]) ∧ RdS w' w'.heap.size v (grS f n most) ∧ Below w.heap.size w w' := by
  have hz := (zero_of_info infoTree).1
  obtain ⟨E, hE⟩ : ∃ E, E = checkE f n most := ⟨_, rfl⟩
  have hb1 := (Below.refl w.heap.size w).alloc (Nat.le_refl _) (.cells (trA (fun _ => 0) (.slice none 0 0)) 25)
  have ht1 : TreA (w.alloc (.cells (trA (fun _ => 0) (.slice none 0 0)) 25)) w.heap.size (fun _ => 0) (.slice none 0 0) := heap_alloc_new w _
  have hck := check_any (w.alloc (.cells (trA (fun _ => 0) (.slice none 0 0)) 25)) A n c f most ((hr.below hb1 (Nat.le_refl _)).more hb1.size) hn
  rw [← hE] at hck ⊢
  have HR := Lib.hid hr; have HCK := Lib.hid hck; have HB1 := Lib.hid hb1; have HT1 := Lib.hid ht1
  clear hr hck hb1 ht1
  by_cases h0 : E = 0
  · have hn320 : n ≤ 320 := (check_ok (hE.symm.trans h0)).2.2.1
    have e1 : (fun m => (tcN f m n : Int)) = grC f n most := by funext m; unfold grC; rw [if_pos (by rw [← hE]; exact h0)]
    have e2 : natsI (symL f n 15) = grS f n most := by unfold grS; rw [if_pos (by rw [← hE]; exact h0)]
    rw [← e1, ← e2]
    clear hE e1 e2
    subst h0
    refine (callsIn_wide (n := 5)).1 ?_
    refine callsIn_of_wp_marks Try.func9 rfl trivial ?_ rfl
    simp only [Try.ntmps9, List.size_toArray, List.length_cons, List.length_nil, Nat.reduceAdd, Nat.reduceSub, Array.replicate_succ, Array.replicate_zero, List.push_toArray, List.append_toArray, List.nil_append, List.cons_append]
    gi_wp2_with fail
    refine ⟨trivial, (callsIn_wide.2 HCK.out).mono ?_⟩
    rintro e w2 ⟨rfl, hb2⟩
    have HT2 := Lib.hid (HT1.out.below hb2 HT1.out.lt)
    have HB2 := Lib.hid (HB1.out.trans (hb2.mono HB1.out.size))
    have hsz2 : w.heap.size < w2.heap.size := by have := hb2.size; simp at this; omega
    clear hb2 HCK HB1 HT1
    gi_wp2_with (refine ⟨trivial, ?_⟩; gi_at_call 27; refine (byl_in _ _ trivial rfl _ _ _ _).mono ?_; rintro e w' ⟨rfl, rfl⟩)
    obtain ⟨u, hu⟩ : ∃ u, u = (w2.alloc (.cells (trA (fun _ => 0) (.slice none 0 0)) 25)).alloc (.cells #[.slice A n c] 29) := ⟨_, rfl⟩
    have husz : u.heap.size = w2.heap.size + 2 := by rw [hu]; simp
    have hbu : Below w.heap.size w u := by rw [hu]; exact (HB2.out.alloc (by omega) _).alloc (by simp; omega) _
    have htu : TreA u w2.heap.size (fun _ => 0) (.slice none 0 0) := by rw [hu]; exact heap_alloc2_old w2 _ _
    have hru : TreA u w.heap.size (fun _ => 0) (.slice none 0 0) := by rw [hu]; exact TreA.alloc (HT2.out.alloc _) _
    have hx3 : u.cell? ⟨w2.heap.size + 1, 0, none⟩ = some (.slice A n c) := by
      rw [hu]
      have h := (Boxed.new (w2.alloc (.cells (trA (fun _ => 0) (.slice none 0 0)) 25)) 29 (.slice A n c)).cell
      rwa [World.size_alloc] at h
    have hrb : RdB u w.heap.size A n f := HR.out.below hbu (Nat.le_refl _)
    rw [← hu]
    have HBU := Lib.hid hbu; have HTU := Lib.hid htu; have HRU := Lib.hid hru; have HRBU := Lib.hid hrb
    clear hu hbu htu hru hrb HT2 HB2
    refine wpIn_range_tied (L := sumC f n 15) rfl (by omega) (gf := 45) (lb := #[.pointer (some ⟨w2.heap.size + 1, 0, none⟩)]) rfl trivial (enters_of Try.func45 (by kernel_rfl) rfl)
      (byl_tied _ _ trivial rfl (by omega) (w2.heap.size + 1) w.heap.size A n c f (SGr w.heap.size w2.heap.size) (.inr rfl) (fun k hk => .inl hk) (by omega) u hx3 (by omega) (by omega) HRBU.out)
      (fun h k => h.tr k) (fun W l ob ob' hl _ _ _ k hS => World.putObj_heap_other (by rcases hS with hS | hS <;> omega)) (fun _ => rfl)
      (GrI w u w2.heap.size f n) (GrI.own w u w2.heap.size f n hsz2 husz) ?start
      (fun j => { tmps := #[.slice A n c, .int .i64 most, undef, undef, .pointer (some ⟨w.heap.size, 0, none⟩), .int .i64 0, .int .i64 0, .pointer (some ⟨w2.heap.size, 0, none⟩), .int .i64 ((symN f n j : Nat) : Int), .int .u8 ((f (symN f n j) : Nat) : Int), .slice A n c, .int .i64 most, .int .i64 0, .int .i64 0, .bool false, undef, undef, .slice A n c, .func (.func 45) #[] #[.pointer (some ⟨w2.heap.size + 1, 0, none⟩)], .int .i64 ((symN f n j : Nat) : Int), .int .u8 ((f (symN f n j) : Nat) : Int), undef, undef, undef, undef, undef, undef, undef, undef, undef, undef, undef, undef, undef, undef], defers := [] }) ?assign ?body ?done
    case start =>
      exact ⟨HBU.out, KpB.refl _ _, Nat.le_refl _, HRU.out, none, 0, by rw [List.take_zero]; exact HTU.out, World.ownsRow_nil _ _ _ 1⟩
    case assign =>
      intro l j W K hK
      simp only [symEnc]
      gi_wp2
      exact hK
    case body =>
      rintro l j W ⟨h1, h2, h3, h4, Ao, co, h5, h6⟩ hj
      obtain ⟨hsn, hk0, hk15⟩ := sym_mem hj
      have hct := cntT_step hj
      have htk := sym_take hj
      have hjn : j ≤ 1000000 := by
        have := sumC_le f n 15; omega
      obtain ⟨y, hy⟩ : ∃ y, y = symN f n j := ⟨_, rfl⟩
      rw [← hy] at hk0 hk15 hct htk hsn ⊢
      obtain ⟨k, hk⟩ : ∃ k, k = f y := ⟨_, rfl⟩
      rw [← hk] at hk0 hk15 hct ⊢
      have c1 := h5.cnt (show k < 16 by omega)
      have f1 := h5.frozen k
      have hcb : 0 ≤ cntT f ((symL f n 15).take j) k ∧ cntT f ((symL f n 15).take j) k ≤ 1000000 := by
        unfold cntT
        have h1 := List.countP_le_length (p := fun x => f x == k) (l := (symL f n 15).take j)
        have h2 := List.length_take_le j (symL f n 15)
        omega
      have hset := h5.setCnt (show k < 16 by omega) (cntT f ((symL f n 15).take j) k + 1)
      rw [hct] at hset
      obtain ⟨x, hx⟩ : ∃ x, x = cntT f ((symL f n 15).take j) k := ⟨_, rfl⟩
      rw [← hx] at c1 hset hcb
      have hown2 := ownsRow_setCell_below h6 (a := ⟨w2.heap.size, k, none⟩) (by show w2.heap.size < _; omega) (.int .i64 (x + 1))
      have hsz : (W.setCell ⟨w2.heap.size, k, none⟩ (.int .i64 (x + 1))).heap.size = W.heap.size := by simp [World.setCell]
      obtain ⟨A', c', w3, hrun, hown3, hb3, hko3⟩ := run_one_g (W.setCell ⟨w2.heap.size, k, none⟩ (.int .i64 (x + 1))) (w2.heap.size + 2) Ao j co _ hown2 (y : Int) hjn (by rw [hsz]; omega)
      rw [hsz] at hrun
      have hs1 := hset.syms
      have ht3 := hset.below hb3 (by omega)
      have hr3 := (h4.other (p := ⟨w2.heap.size, k, none⟩) (by show w.heap.size ≠ w2.heap.size; omega) (.int .i64 (x + 1))).below hb3 (by omega)
      have hbb := (h1.setCell (p := ⟨w2.heap.size, k, none⟩) (by show w.heap.size ≤ w2.heap.size; omega) (.int .i64 (x + 1))).trans (hb3.mono (by omega))
      have hkp : KpB (SGr w.heap.size w2.heap.size) W w3 := fun b hS => by
        have hne : b ≠ w2.heap.size := by rcases hS with hS | hS <;> omega
        have hlt : b < w2.heap.size + 2 := by rcases hS with hS | hS <;> omega
        exact (hb3.block b hlt).trans (Below.heap_setCell W _ _ b hne)
      have hko : KeepsOthers W w3 := (KeepsOthers.setCell W _ _).trans hko3
      have hf3 := ht3.frozen 16
      have hs3 := ht3.syms
      have hsz3 : u.heap.size ≤ w3.heap.size := by have := hb3.size; rw [hsz] at this; omega
      have HSET := Lib.hid ht3; have HR3 := Lib.hid hr3; have HBB := Lib.hid hbb; have HRUN := Lib.hid hrun; have HOWN := Lib.hid hown3; have HKP := Lib.hid hkp; have HKO := Lib.hid hko; have H2 := Lib.hid h2; have HTK := Lib.hid htk
      clear h1 h2 h4 h5 h6 hset hown2 hrun hown3 hb3 hko3 ht3 hr3 hbb hkp hko htk hct hx hy hk hsz hsn
      gi_wp2_with (gi_at_builtin; refine wpListIn_append_run rfl (.tmp 29) (.tmp 31) 23 rfl (.slice Ao j co) (.slice (some ⟨W.heap.size, 0, none⟩) 1 1) (.slice A' (j + 1) c') w3 rfl rfl HRUN.out ?_)
      refine ⟨HKO.out.trans (KeepsOthers.setCell _ _ _), ?_, ?_⟩
      · exact fun b hS => (Below.heap_setCell w3 _ _ b (by show b ≠ w2.heap.size; rcases hS with hS | hS <;> omega)).trans (HKP.out b hS)
      · refine ⟨HBB.out.setCell (p := ⟨w2.heap.size, 16, none⟩) (by show w.heap.size ≤ w2.heap.size; omega) _, fun b hS => ((Below.heap_setCell w3 _ _ b (by show b ≠ w2.heap.size; rcases hS with hS | hS <;> omega)).trans (HKP.out b hS)).trans (H2.out b hS), by rw [show (w3.setCell ⟨w2.heap.size, 16, none⟩ (.slice A' (j + 1) c')).heap.size = w3.heap.size by simp [World.setCell]]; exact hsz3, HR3.out.other (by show w.heap.size ≠ w2.heap.size; omega) _, A', c', HSET.out.setSyms _, ?_⟩
        have e2 : natsI ((symL f n 15).take j) ++ [(y : Int)] = natsI ((symL f n 15).take (j + 1)) := by rw [HTK.out, ← natsI_app]; rfl
        rw [← e2]
        exact ownsRow_setCell_below HOWN.out (by show w2.heap.size < _; omega) _
    case done =>
      rintro D W hD ⟨h1, h2, h3, h4, Ao, co, h5, h6⟩ hK
      rw [List.take_of_length_le (by rw [symL_length]; omega)] at h5 h6
      have h5' : TreA W w2.heap.size (fun m => (tcN f m n : Int)) (.slice Ao (sumC f n 15) co) := by
        have e := trA_ext (.slice Ao (sumC f n 15) co) (fun m hm => cntT_all f n (m := m) hm)
        unfold TreA at h5 ⊢
        rw [e] at h5; exact h5
      have H1 := Lib.hid h1; have H2 := Lib.hid h2; have H4 := Lib.hid h4; have H5 := Lib.hid h5'; have H6 := Lib.hid h6; have HK := Lib.hid hK
      clear h1 h2 h4 h5 h5' h6 hK
      gi_wp2_with (first
        | (refine wpListIn_load_row rfl _ _ rfl w2.heap.size rfl _ (trA (fun m => (tcN f m n : Int)) (.slice Ao (sumC f n 15) co)) (0, 0) _ H5.out Try.underlying25 rfl (by rw [trA_size]; exact szTree) ?_)
        | (refine wpListIn_store_row rfl _ _ _ rfl rfl w.heap.size (trA (fun m => (tcN f m n : Int)) (.slice Ao (sumC f n 15) co)) rfl rfl _ (trA (fun _ => 0) (.slice none 0 0)) H4.out (by rw [trA_size]; exact szTree) (by rw [trA_size, trA_size]) (trA_one _ _ rfl) ?_))
      have hD2 : D ≠ w.heap.size := by omega
      have hT := setRow_tre (d := fun m => (tcN f m n : Int)) (v := .slice Ao (sumC f n 15) co) H4.out
      obtain ⟨Y, hY⟩ : ∃ Y, Y = W.setRow w.heap.size (trA (fun m => (tcN f m n : Int)) (.slice Ao (sumC f n 15) co)) := ⟨_, rfl⟩
      have hYo : ∀ k, k ≠ w.heap.size → Y.heap[k]? = W.heap[k]? := fun k hk => by rw [hY]; exact setRow_other _ _ _ _ hk
      have hYB : Below w.heap.size w Y := by rw [hY]; exact below_setRowT H1.out (Nat.le_refl _) _
      rw [← hY] at hT ⊢
      have hKY : Y.heap[D]? = some (.deferred (some [])) := (hYo D hD2).trans HK.out
      refine ⟨by simp, .inl ⟨_, _, rfl, run_takeDeferred hKY, ?_⟩⟩
      refine ⟨_, (cell_tree rfl _ _ w.heap.size _ _ rfl ?_).trans rfl, .slice Ao (sumC f n 15) co, rfl, ?_, ?_⟩
      · exact (World.putObj_heap_other (by omega)).trans hT
      · have ho : OwnS (Y.putObj D (.deferred none)) (w2.heap.size + 2) (.slice Ao (sumC f n 15) co) (natsI (symL f n 15)) := by
          unfold OwnS
          rw [natsI_length, symL_length]
          have h0 : Y.ownsRow (w2.heap.size + 2) 3 1 (.slice Ao (sumC f n 15) co) (sumC f n 15) (intsL (natsI (symL f n 15))) := ownsRow_same H6.out (fun g hg => hYo g (by omega))
          exact own_grown h0 (grownBy_putObj' Y D _) (fun r e => by cases e; exact ⟨_, hKY, rfl⟩)
        exact ho.rd
      · exact hYB.grown (grownBy_putObj' Y D _) hYB.size (fun r e => by cases e; omega)
  · have hne : (E != 0) = true := by simpa using h0
    have e1 : grC f n most = fun _ => 0 := by funext m; unfold grC; rw [if_neg (by rw [← hE]; exact h0)]
    have e2 : grS f n most = [] := by unfold grS; rw [if_neg (by rw [← hE]; exact h0)]
    rw [e1, e2]
    clear hE h0 e1 e2
    go_enter Try.func9, Try.ntmps9
    go_wp2_with fail
    refine HCK.out.mono ?_
    rintro e w2 ⟨rfl, hb2⟩
    have HT2 := Lib.hid (HT1.out.below hb2 HT1.out.lt)
    have HB2 := Lib.hid (HB1.out.trans (hb2.mono HB1.out.size))
    clear hb2
    have hs1 := fun (v : Value) (h : v.oneCell' = true) => trA_one (fun _ => 0) v h
    go_wp2_with (refine wpList_store_rowT rfl _ _ _ rfl w.heap.size (trA (fun _ => 0) (.slice none 0 0)) rfl rfl 25 (trA (fun _ => 0) (.slice none 0 0)) HT2.out (by rw [trA_size]; exact szTree) rfl (hs1 _ rfl) ?_)
    refine bodyPost_ret (v := .tuple #[.agg (trA (fun _ => 0) (.slice none 0 0)), .int .i64 E]) ((cell_tree rfl _ _ w.heap.size _ _ rfl (setRow_tre HT2.out)).trans rfl) rfl ⟨_, rfl, ⟨none, 0, rfl, SrcL.none_ _ _ _ _, fun _ => rfl, Nat.le_refl _, by unfold maxLen; omega⟩, below_setRowT HB2.out (Nat.le_refl _) _⟩
end Go.Proofs.Ytedjapamimhglaa
