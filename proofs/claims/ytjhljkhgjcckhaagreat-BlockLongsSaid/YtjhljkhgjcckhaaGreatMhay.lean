/-
  Layer 11 (block), the program's row of bits: runs put by a code.
-/
import Derived.Test.YtjhljkhgjcckhaaGreatMhaf
import Derived.Test.YtjhljkhgjcckhaaGreatMhai
import Derived.Test.YtjhljkhgjcckhaaGreatMhaw
import Derived.Test.YtjhljkhgjcckhaaGreatMhax
namespace Go.Proofs.YtjhljkhgjcckhaaGreat
open Go.RowKit Go.ChangeShapes Go.WideShapes Go.ChangeAt Go.Joins
theorem bits10_any (w : World) (s : Int) : Calls Tryz.prog 91 #[.int .i64 s] w fun e w' => e = .returned (.tuple #[.int .i64 (bitV s), .int .i64 (bitE s)]) ∧ Below w.heap.size w w' :=
  (lbits10_any w s).mono fun _ _ ⟨a, b⟩ => ⟨a, b ▸ Below.refl _ _⟩
end Go.Proofs.YtjhljkhgjcckhaaGreat

namespace Go.Proofs.YtjhljkhgjcckhaaGreat
open Go.RowKit Go.ChangeShapes Go.WideShapes Go.ChangeAt Go.Joins
theorem quiet_callm {C : World → Prop} {K : Act → Prop} {a : Act} {o : Oper} (f : FuncId) (r : Value) (x : Operand) (xs : Array Operand) (ts : Array TypeId) (ho : o.op = .call { callee := .value x, args := xs, argTypes := ts }) (d : Option Tmp) (hd : o.dst = d) (hv : a.eval x = .func (.func f) #[r] #[])
    (eg : ∀ args w, (callFunc f args).run Tryz.prog w = .ok (.enter f args) w) (args : Array Value) (hx : #[r] ++ xs.map a.eval = args) (v : Value) (hc : ∀ w, C w → Calls Tryz.prog f args w fun e w' => e = .returned v ∧ C w') (hk : K (a.put d v)) : o.quiet Tryz.prog a C K := by
  subst hd
  have hall : ∀ (ρ : Operand → Value) (w : World), ρ x = .func (.func f) #[r] #[] → #[r] ++ xs.map ρ = args → (execOp ρ o).run Tryz.prog w = .ok (.enter f args) w := by
    intro ρ w h1 h2
    simp [execOp, ho, resolve, invoke, h1, h2, go_sem, eg, Deferred.ofValue]
  exact ⟨v, fun w hw => by unfold Oper.quietAt; rw [hall _ w hv hx]; exact ⟨rfl, hc w hw⟩, hk⟩
theorem RowC.kept {S : Nat → Prop} {w w' : World} {g n : Nat} {x l : Nat → Nat} (h : RowC w g n x l) (hk : KpB S w w') (hS : S g) : RowC w' g n x l := by
  obtain ⟨cur, h1, h2⟩ := h; exact ⟨cur, (hk g hS).trans h1, h2⟩
theorem RdU.rangeS {S : Nat → Prop} {w w' : World} {B : Nat} {A : Option Addr} {l : List (Int × Int)} (h : RdU w B A l) (hk : KpB S w w') {b o : Nat} (hA : A = some ⟨b, o, none⟩) (hS : S b) {j : Nat} (hj : j < l.length) : w'.rangeAt b (o + j * 2) (runC (l.getD j run0)) :=
  fun i v hv => (hk.cell (p := ⟨b, o + j * 2 + i, none⟩) hS).trans (h.range hA hj i v hv)
set_option maxRecDepth 100000 in
set_option maxHeartbeats 4000000 in
theorem runs11_any (w : World) (S : Nat → Prop) (B g : Nat) (f : Nat → Nat) (K : Nat) (A2 : Option Addr) (m c2 : Nat) (l : List (Int × Int)) (F : Nat → Nat) (gk ck : Nat) (h : RowAt w S B g f K) (hm : m = l.length) (hr : RdU w w.heap.size A2 l) (hS : InS S A2 m) (hm2 : m ≤ 1000)
    (hrc : RowC w gk 19 (codeB F 19) F) (hSk : S gk) (hF : checkE F 19 15 = 0) (hl : ∀ r ∈ l, 0 ≤ r.1 ∧ r.1 ≤ 18 ∧ 0 ≤ r.2 ∧ FitN (r.2.toNat, (bitV r.1).toNat)) (hk : K + bitsT (l.flatMap (runP F)) ≤ 16000000) :
    Calls Tryz.prog 63 #[.pointer (some ⟨g, 0, none⟩), .slice A2 m c2, .func (.func 26) #[.slice (some ⟨gk, 0, none⟩) 19 ck] #[]] w fun e w' => e = .returned (.tuple #[]) ∧ RowAt w' S B g (putsF f K (l.flatMap (runP F))) (K + bitsT (l.flatMap (runP F))) ∧ KpB S w w' ∧ Below B w w' := by
  have H := Lib.hid h; have HM := Lib.hid hm; have HR := Lib.hid hr; have HS := Lib.hid hS; have HRC := Lib.hid hrc; have HSK := Lib.hid hSk; have HF := Lib.hid hF; have HL := Lib.hid hl; have HK := Lib.hid hk
  clear h hm hr hS hrc hSk hF hl hk
  go_enter Tryz.func63, Tryz.ntmps63
  go_wp2_with fail
  go_loopw [12] (fun iv wr => ∃ i : Nat, i ≤ m ∧ iv = .int .i64 (i : Int) ∧ Hid (RowAt wr S B g (putsF f K ((l.take i).flatMap (runP F))) (K + bitsT ((l.take i).flatMap (runP F)))) ∧ Hid (KpB S w wr) ∧ Hid (Below B w wr)) (fun iv _ => m - (intOf iv).toNat)
  case atStart => exact ⟨0, Nat.zero_le _, rfl, Lib.hid H.out, Lib.hid (KpB.refl _ _), Lib.hid (Below.refl _ _)⟩
  case round =>
    obtain ⟨i, hi, rfl, HRA, HKP, HB⟩ := hrel
    by_cases hlt : i < m
    · have hlti : (i : Int) < (m : Int) := by omega
      have hil : i < l.length := by rw [← HM.out]; exact hlt
      obtain ⟨b, o, rfl, hbl, hc⟩ := HR.out.at hil
      have hSb : S b := HS.out b o (by omega) rfl
      have hrg := HR.out.rangeS HKP.out rfl hSb hil
      obtain ⟨s0, s18, x0, hfit⟩ := HL.out _ (run_mem hil)
      have hstep := runP_take (F := F) hil
      have hle : bitsT ((l.take (i + 1)).flatMap (runP F)) ≤ bitsT (l.flatMap (runP F)) := by
        have e : l.flatMap (runP F) = (l.take (i + 1)).flatMap (runP F) ++ (l.drop (i + 1)).flatMap (runP F) := by rw [← List.flatMap_append, List.take_append_drop]
        rw [e, bitsT_app]; omega
      obtain ⟨⟨s, x⟩, ht⟩ : ∃ t, t = l.getD i run0 := ⟨_, rfl⟩
      rw [← ht] at hrg s0 s18 x0 hfit hstep
      dsimp only at s0 s18 x0 hfit
      obtain ⟨q, rfl⟩ := Int.eq_ofNat_of_zero_le s0
      obtain ⟨y, rfl⟩ := Int.eq_ofNat_of_zero_le x0
      have hbv : bitV ((q : Nat) : Int) = ((bitsR (q : Int) : Nat) : Int) := by unfold bitV; rw [if_pos (by omega)]
      obtain ⟨bb, hbb⟩ : ∃ b, b = bitsR (q : Int) := ⟨_, rfl⟩
      rw [← hbb] at hbv
      have hb7 : bb ≤ 7 := by rw [hbb]; exact bitsR_le' _
      rw [hbv, Int.toNat_natCast, Int.toNat_natCast] at hfit
      have hy : y < 128 := by
        have := hfit.1
        have e : (2 : Nat) ^ bb ≤ 2 ^ 7 := Nat.pow_le_pow_right (by omega) hb7
        have e2 : (2 : Nat) ^ 7 = 128 := rfl
        dsimp only at this; omega
      have hrp : runP F ((q : Int), (y : Int)) = [codP F 19 q, (y, bb)] := by unfold runP; rw [hbv, Int.toNat_natCast, Int.toNat_natCast, Int.toNat_natCast]
      rw [hrp] at hstep
      obtain ⟨⟨Z, Y⟩, hZY⟩ : ∃ t, t = codP F 19 q := ⟨_, rfl⟩
      obtain ⟨G, hG⟩ : ∃ G, G = putsF f K ((l.take i).flatMap (runP F)) := ⟨_, rfl⟩
      obtain ⟨k, hkk⟩ : ∃ k, k = K + bitsT ((l.take i).flatMap (runP F)) := ⟨_, rfl⟩
      have hra := HRA.out
      rw [← hG, ← hkk] at hra
      obtain ⟨W3, hW3⟩ : ∃ W3, W3 = mkV wr #[.int .i64 0, .int .i64 0] #[.int .i64 (q : Int), .int .i64 (y : Int)] 141 := ⟨_, rfl⟩
      have hb3 : Below wr.heap.size wr W3 := by rw [hW3]; exact mkV_below _ _ _ _
      have hrow : W3.heap[wr.heap.size]? = some (.cells #[.int .i64 (q : Int), .int .i64 (y : Int)] 141 (0, 0)) := by rw [hW3]; exact mkV_row wr _ _ _
      have hs3 : wr.heap.size < W3.heap.size := (Array.getElem?_eq_some_iff.1 hrow).1
      have y0 : W3.cell? ⟨wr.heap.size, 0, none⟩ = some (.int .i64 (q : Int)) := (cell_of_row W3 _ 0 _ _ (0, 0) hrow).trans rfl
      have y1 : W3.cell? ⟨wr.heap.size, 1, none⟩ = some (.int .i64 (y : Int)) := (cell_of_row W3 _ 1 _ _ (0, 0) hrow).trans rfl
      have hbt := fun V : World => bits10_any V ((q : Nat) : Int)
      rw [hbv] at hbt
      have hZfit : FitN (Z, Y) := by
        obtain ⟨h1, h2⟩ := code_fits HF.out (show q < 19 by omega)
        rw [hZY]
        exact ⟨turnN_lt _ _, by show F q ≤ 16; omega⟩
      have hkeq : k + bitsT [(Z, Y), (y, bb)] = K + bitsT ((l.take (i + 1)).flatMap (runP F)) := by rw [hstep, bitsT_app, hkk, hZY]; omega
      have hGeq : putsF G k [(Z, Y), (y, bb)] = putsF f K ((l.take (i + 1)).flatMap (runP F)) := by rw [hstep, putsF_app, hG, hkk, hZY]
      have hkb : k + bitsT [(Z, Y), (y, bb)] ≤ 16000000 := by have := HK.out; omega
      have hrcW := HRC.out.kept HKP.out HSK.out
      have hgk : gk < wr.heap.size := hrcW.lt
      have hkS := hra.top
      have HRA2 := Lib.hid (hra.after hb3); have HKP3 := Lib.hid (HKP.out.tr (KpB.below hkS hb3)); have HB3 := Lib.hid (HB.out.trans (hb3.mono hra.size)); have HRC3 := Lib.hid (hrcW.below hb3 hgk); have HW3 := Lib.hid hW3; have HRG := Lib.hid (show wr.rangeAt b (o + i * 2) [.int .i64 (q : Int), .int .i64 (y : Int)] from hrg)
      have HBT := Lib.hid hbt; have HZF := Lib.hid hZfit; have HKE := Lib.hid hkeq; have HGE := Lib.hid hGeq; have HZY := Lib.hid hZY; have HFT := Lib.hid hfit
      have hq19 : q < 19 := by omega
      have hbi : (bb : Int) ≤ 7 := by omega
      clear hrg hb3 hrow hW3 hbt hZfit hkeq hGeq hZY hfit hra hrcW hkS hstep hle ht hc hbl hSb s0 s18 x0 hbv hbb hrp hG hkk HRA
      go_wp2_with (first
        | refine wpList_load_mid rfl _ _ rfl b (o + i * 2) rfl [.int .i64 (q : Int), .int .i64 (y : Int)] _ HRG.out Tryz.underlying141 rfl szRun ?_
        | (refine wpList_store_rowTo rfl _ _ _ rfl rfl wr.heap.size #[.int .i64 (q : Int), .int .i64 (y : Int)] rfl rfl 141 #[.int .i64 0, .int .i64 0] (heap_alloc_new wr _) szRun rfl (by simp [Value.oneCell']) ?_; change wpList _ _ _ _ _ (mkV wr #[.int .i64 0, .int .i64 0] #[.int .i64 (q : Int), .int .i64 (y : Int)] 141); rw [← HW3.out])
        | fail)
      refine (HBT.out W3).mono ?_
      rintro e w4 ⟨rfl, hb4⟩
      have hs4 : wr.heap.size < w4.heap.size := by have := hb4.size; omega
      have x0 : ∀ p : After w4.heap.size w4, p.w.cell? ⟨wr.heap.size, 0, none⟩ = some (.int .i64 (q : Int)) := fun p => (p.h.cell (p := ⟨wr.heap.size, 0, none⟩) hs4).trans ((hb4.cell (p := ⟨wr.heap.size, 0, none⟩) hs3).trans y0)
      have x1 : ∀ p : After w4.heap.size w4, p.w.cell? ⟨wr.heap.size, 1, none⟩ = some (.int .i64 (y : Int)) := fun p => (p.h.cell (p := ⟨wr.heap.size, 1, none⟩) hs4).trans ((hb4.cell (p := ⟨wr.heap.size, 1, none⟩) hs3).trans y1)
      have hrc4 := HRC3.out.below hb4 HRC3.out.lt
      have T1 : Hid (∀ V, Below w4.heap.size w4 V → Calls Tryz.prog 26 #[.slice (some ⟨gk, 0, none⟩) 19 ck, .int .i64 (q : Int)] V fun e w' => e = .returned (.agg #[.int .u32 (Z : Int), .int .i64 (Y : Int)]) ∧ Below w4.heap.size w4 w') := Lib.hid fun V hV => by
        have h1 := of11_any V gk 19 ck F q (hrc4.below hV hrc4.lt) HF.out hq19 (by omega)
        rw [← HZY.out] at h1
        exact h1.mono fun _ _ ⟨e, b⟩ => ⟨e, hV.trans (b.mono hV.size)⟩
      have HRA4 := Lib.hid (HRA2.out.after hb4); have HKP4 := Lib.hid (HKP3.out.tr (KpB.below HRA2.out.top hb4)); have HB4 := Lib.hid (HB3.out.trans (hb4.mono HRA2.out.size))
      clear hb4 y0 y1 hs3 hrc4 HRA2 HKP3 HB3 HRC3
      go_wp2
      refine wp_split_after1 9 w4.heap.size w4 (Below.refl _ _) (by kernel_rfl) (by kernel_rfl) (.tmp 0) (.pointer (some ⟨g, 0, none⟩)) rfl (some 22) rfl rfl rfl rfl (by kernel_rfl) (fun _ _ _ h => h) ?_
      simp only [List.take_succ_cons, List.take_zero, List.drop_succ_cons, List.drop_zero, Act.put, List.setIfInBounds_toArray, List.set_cons_zero, List.set_cons_succ]
      repeat (first
        | (go_big_quiet_want; refine quiet_build 84 #[(0, .tmp 29), (1, .tmp 30)] rfl (some 31) rfl #[.int .u32 (y : Int), .int .i64 (bb : Int)] (by simpa [Act.eval] using built_numP (y : Int) (bb : Int)) ?_; go_big_quiet_on; simp only [Act.put, List.setIfInBounds_toArray, List.set_cons_zero, List.set_cons_succ])
        | (go_big_quiet_want; refine quiet_callm 26 (.slice (some ⟨gk, 0, none⟩) 19 ck) (.tmp 23) #[.tmp 25] #[3] rfl (some 26) rfl (by simp [Act.eval]) (enters_of Tryz.func26 (by kernel_rfl) rfl) #[.slice (some ⟨gk, 0, none⟩) 19 ck, .int .i64 (q : Int)] (by simp [Act.eval]) (.agg #[.int .u32 (Z : Int), .int .i64 (Y : Int)]) (fun V ⟨p, hp⟩ => by rw [hp]; exact call_after T1.out p) ?_; go_big_quiet_on; simp only [Act.put, List.setIfInBounds_toArray, List.set_cons_zero, List.set_cons_succ])
        | (go_big_quiet_step (fail)))
      refine wpQuiet_nil ?_
      rintro V ⟨⟨V, hV⟩, rfl⟩
      have hrv := HRA4.out.after hV
      have hput := put_lit V S B g G k [(Z, Y), (y, bb)] 2 rfl #[.int .u32 (Z : Int), .int .i64 (Y : Int), .int .u32 (y : Int), .int .i64 (bb : Int)] rfl hrv (by omega) (fun z hz => by
        simp only [List.mem_cons, List.not_mem_nil, or_false] at hz
        rcases hz with rfl | rfl
        · exact HZF.out
        · exact HFT.out) hkb
      rw [HKE.out, HGE.out] at hput
      have HPUT := Lib.hid hput; have HKPV := Lib.hid (HKP4.out.tr (KpB.below HRA4.out.top hV)); have HBV := Lib.hid (HB4.out.trans (hV.mono HRA4.out.size))
      clear hput hrv hV x0 x1 T1
      go_wp2_with fail
      refine HPUT.out.mono ?_
      rintro e w5 ⟨rfl, h1, h2, h3⟩
      have H1 := Lib.hid h1; have H2 := Lib.hid (HKPV.out.tr h2); have H3 := Lib.hid (HBV.out.trans h3)
      clear h1 h2 h3
      go_wp2
      go_roundw
      case rel => exact ⟨i + 1, by omega, by go_num, H1, H2, H3⟩
      case measure => simp [intOf]; omega
    · obtain rfl : i = m := by omega
      have hlti : ¬ (i : Int) < (i : Int) := by omega
      have hr := HRA.out
      rw [HM.out, List.take_length] at hr
      have HRR := Lib.hid hr
      clear hr HRA
      go_wp2
      go_end0
      exact ⟨rfl, HRR.out, HKP.out, HB.out⟩
end Go.Proofs.YtjhljkhgjcckhaaGreat

