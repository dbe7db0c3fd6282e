/-
  Layer 10 (runs): the lengths that runs make: the document's own.
-/
import Derived.Test.YtgkbnmknlmapdaaRunRst
import Derived.Test.YtgkbnmknlmapdaaLst
namespace Go.Proofs.Ytgkbnmknlmapdaa
open Go.RowKit Go.ChangeShapes Go.WideShapes Go.ChangeAt Go.Joins
theorem strR_step {N : Nat} {l : List (Int × Int)} {i : Nat} (h : i < l.length) (out : List Nat) : strR N (l.drop i) out =
    if (l.getD i run0).1 < 0 ∨ 18 < (l.getD i run0).1 ∨ (l.getD i run0).2 < 0 ∨ (2 ^ bitsR (l.getD i run0).1 : Nat) ≤ (l.getD i run0).2 then (8, []) else
      if ((l.getD i run0).1 = 16 ∧ out = []) ∨ N < out.length + timesR (l.getD i run0).1 (l.getD i run0).2 then (100, []) else strR N (l.drop (i + 1)) (out ++ List.replicate (timesR (l.getD i run0).1 (l.getD i run0).2) (valR (l.getD i run0).1 out)) := by
  have e : l.drop i = l.getD i run0 :: l.drop (i + 1) := by
    rw [List.drop_eq_getElem_cons h, List.getD_eq_getElem?_getD, List.getElem?_eq_getElem h]; rfl
  rw [e]
  obtain ⟨s, x⟩ := l.getD i run0
  rfl
theorem rep_one (out : List Nat) (k v : Nat) : bytesL (out.length + k) (lst (out ++ List.replicate k v)) = bytesL (out.length + k) (lst (out ++ List.replicate (k + 1) v)) ∧ lst (out ++ List.replicate (k + 1) v) (out.length + k) = v := by
  have h := lst_one (out ++ List.replicate k v) v
  have e : out ++ List.replicate k v ++ [v] = out ++ List.replicate (k + 1) v := by rw [List.append_assoc, List.replicate_succ']
  rw [e, List.length_append, List.length_replicate] at h
  exact h
theorem bitsR_le (s : Int) : bitsR s ≤ 7 := by
  unfold bitsR
  split
  · omega
  · split
    · omega
    · split <;> omega
theorem timesR_le {s x : Int} (h : x < 128) : timesR s x ≤ 139 := by
  unfold timesR
  split
  · omega
  · split <;> omega
theorem valR_lt {s : Int} {out : List Nat} (h : ∀ x ∈ out, x < 256) : valR s out < 256 := by
  unfold valR
  split
  · cases hl : out.getLast? with
    | none => show 0 < 256; omega
    | some z => exact h z (List.mem_of_getLast? hl)
  · split <;> omega
theorem last_lst (out : List Nat) : out.getLast?.getD 0 = lst out (out.length - 1) := by
  unfold lst
  rw [List.getLast?_eq_getElem?, List.getD_eq_getElem?_getD]
set_option maxRecDepth 100000 in
set_option maxHeartbeats 8000000 in
theorem rstr10_any (w : World) (A : Option Addr) (m c : Nat) (l : List (Int × Int)) (n : Int) (hr : RuR w w.heap.size A m c l) (hm : m ≤ 1000000) :
    Calls Try.prog 16 #[.slice A m c, .int .i64 n] w fun e w' => ∃ A' n' c', e = .returned (.tuple #[.slice A' n' c', .int .i64 (strO l n).1]) ∧ n' = (strO l n).2.length ∧ ByR w' w'.heap.size A' n' c' (lst (strO l n).2) ∧ Below w.heap.size w w' ∧ NewB w' w.heap.size A' n' := by
  obtain ⟨hml, hrd, _⟩ := hr
  obtain ⟨O, hO⟩ : ∃ O, O = strO l n := ⟨_, rfl⟩
  rw [← hO]
  unfold strO at hO
  have HT := Lib.hid hrd; have HM := Lib.hid hml; have HO := Lib.hid hO
  have hnl : ∀ j, lst [] j < 256 := fun j => by unfold lst; simp
  have HB := Lib.hid (Below.refl w.heap.size w)
  clear hrd hO hml
  by_cases y0 : n < 0
  · have d0 : decide (n < 0) = true := decY0 y0
    obtain rfl : O = (2, []) := by rw [HO.out, if_pos (.inl y0)]
    go_enter Try.func16, Try.ntmps16
    go_wp2
    go_ret2
    exact ⟨none, 0, 0, rfl, rfl, ByR.nil _ _ _ hnl, HB.out, NewB.nil _ _ _⟩
  have d0 : decide (n < 0) = false := decN0 y0
  by_cases y1 : 320 < n
  · have d1 : decide (320 < n) = true := decY0 y1
    obtain rfl : O = (2, []) := by rw [HO.out, if_pos (.inr y1)]
    go_enter Try.func16, Try.ntmps16
    go_wp2
    go_ret2
    exact ⟨none, 0, 0, rfl, rfl, ByR.nil _ _ _ hnl, HB.out, NewB.nil _ _ _⟩
  have d1 : decide (320 < n) = false := decN0 y1
  obtain ⟨N, rfl⟩ := Int.eq_ofNat_of_zero_le (show 0 ≤ n by omega)
  have hO2 : O = strR N l [] := by rw [HO.out, if_neg (by omega), Int.toNat_natCast]
  have HO2 := Lib.hid hO2
  have hN : N ≤ 320 := by omega
  clear hO2 HO HB
  go_enter Try.func16, Try.ntmps16
  go_wp2
  go_loopw [6, 7] (fun ov iv wr => ∃ (i q : Nat) (At : Option Addr) (ct : Nat) (L : List Nat), i ≤ m ∧ q ≤ N ∧ ov = .slice At q ct ∧ iv = .int .i64 (i : Int) ∧ Hid (q = L.length) ∧ Hid (strR N (l.drop i) L = O) ∧ Hid (∀ x ∈ L, x < 256) ∧ Hid (wr.ownsRow w.heap.size 5 1 (.slice At q ct) q (bytesL q (lst L))) ∧ Hid (Below w.heap.size w wr)) (fun _ iv _ => m - (intOf iv).toNat)
  case atStart => exact ⟨0, 0, none, 0, [], Nat.zero_le _, Nat.zero_le _, rfl, rfl, Lib.hid rfl, Lib.hid HO2.out.symm, Lib.hid (fun x hx => by cases hx), Lib.hid (World.ownsRow_nil _ _ _ _), Lib.hid (Below.refl _ _)⟩
  case round =>
    obtain ⟨i, q, At, ct, L, hi, hqN, rfl, rfl, HQ, HP, HL, HW, HB⟩ := hrel
    by_cases hlt : i < m
    · have hlti : (i : Int) < (m : Int) := by omega
      have hil : i < l.length := by rw [← HM.out]; exact hlt
      have htw := HT.out.below HB.out (Nat.le_refl _)
      obtain ⟨b, o, rfl, hbl, hc⟩ := htw.at hil
      obtain ⟨c0, c1⟩ := hc i hil
      have hrg := htw.range rfl hil
      have hstep := strR_step (N := N) hil L
      rw [HP.out] at hstep
      obtain ⟨t, ht⟩ : ∃ t, t = l.getD i run0 := ⟨_, rfl⟩
      rw [← ht] at c0 c1 hrg hstep
      obtain ⟨s, x⟩ := t
      dsimp only at c0 c1 hstep
      have HRG := Lib.hid hrg; have HSTEP := Lib.hid hstep
      have HBI := Lib.hid (rbits10_any wr s)
      clear hc htw hrg hstep ht hil
      have c1d : wr.drew.cell? ⟨b, o + i * 2 + 1, none⟩ = some (.int .i64 x) := c1
      by_cases s0 : s < 0 ∨ 18 < s
      · have hst := HSTEP.out
        rw [if_pos (by rcases s0 with h | h; exact .inl h; exact .inr (.inl h))] at hst
        subst hst
        have e1 : bitE s = 2 := by unfold bitE; rw [if_neg (by omega)]
        rw [e1] at HBI
        obtain ⟨bv, hbv⟩ : ∃ bv, bv = bitV s := ⟨_, rfl⟩
        rw [← hbv] at HBI
        clear HSTEP e1 hbv s0
        go_wp2_with fail
        refine HBI.out.mono ?_
        rintro e w2 ⟨rfl, rfl⟩
        go_wp2
        go_quiet (fail)
        have HB := Lib.hid (show Below w.heap.size w (wr.drewN nq) from ⟨HB.out.os, HB.out.tape, HB.out.output, HB.out.size, HB.out.block⟩)
        go_wp2
        go_ret2
        exact ⟨none, 0, 0, rfl, rfl, ByR.nil _ _ _ hnl, HB.out, NewB.nil _ _ _⟩
      have e1 : bitE s = 0 := by unfold bitE; rw [if_pos (by omega)]
      have e2 : bitV s = (bitsR s : Nat) := by unfold bitV; rw [if_pos (by omega)]
      rw [e1, e2] at HBI
      have hkl := bitsR_le s
      obtain ⟨k, hk⟩ : ∃ k, k = bitsR s := ⟨_, rfl⟩
      have hst := HSTEP.out
      rw [← hk] at HBI hkl hst
      have HPW : Hid (∀ w, Calls Try.prog 22 #[.int .i64 (k : Int)] w fun e w' => e = .returned (.int .i64 (p2U k : Int)) ∧ w = w') := Lib.hid fun w => rpower10_any w k hkl
      have hp2 : ((2 ^ k : Nat) : Int) = (p2U k : Int) := rfl
      rw [hp2] at hst
      obtain ⟨p, hp⟩ : ∃ p, p = p2U k := ⟨_, rfl⟩
      rw [← hp] at HPW hst
      have HST := Lib.hid hst; have HKP := Lib.hid hp; have HKE := Lib.hid hk
      clear HSTEP e1 e2 hst hp2 hp hk
      by_cases x0 : x < 0
      · have dx : decide (x < 0) = true := decY0 x0
        have hst := HST.out
        rw [if_pos (.inr (.inr (.inl x0)))] at hst
        subst hst
        clear HST x0
        go_wp2_with fail
        refine HBI.out.mono ?_
        rintro e w2 ⟨rfl, rfl⟩
        go_wp2
        go_quiet (fail)
        have HB := Lib.hid (show Below w.heap.size w (wr.drewN nq) from ⟨HB.out.os, HB.out.tape, HB.out.output, HB.out.size, HB.out.block⟩)
        go_wp2
        go_ret2
        exact ⟨none, 0, 0, rfl, rfl, ByR.nil _ _ _ hnl, HB.out, NewB.nil _ _ _⟩
      have dx : decide (x < 0) = false := decN0 x0
      by_cases x1 : (p : Int) ≤ x
      · have dx1 : decide ((p : Int) ≤ x) = true := decY0 x1
        have hst := HST.out
        rw [if_pos (.inr (.inr (.inr x1)))] at hst
        subst hst
        clear HST x0 x1
        go_wp2_with fail
        refine HBI.out.mono ?_
        rintro e w2 ⟨rfl, rfl⟩
        go_wp2
        go_quiet ((go_at_call 22; exact Calls.quiet_of_same ((HPW.out _).mono fun _ _ ⟨a, b⟩ => ⟨a, b.symm⟩)))
        have HB := Lib.hid (show Below w.heap.size w (wr.drewN nq) from ⟨HB.out.os, HB.out.tape, HB.out.output, HB.out.size, HB.out.block⟩)
        go_wp2
        go_ret2
        exact ⟨none, 0, 0, rfl, rfl, ByR.nil _ _ _ hnl, HB.out, NewB.nil _ _ _⟩
      have dx1 : decide ((p : Int) ≤ x) = false := decN0 x1
      have hst := HST.out
      rw [if_neg (by omega)] at hst
      have hp128 : p ≤ 128 := by rw [HKP.out]; exact p2U_le hkl
      have htl : timesR s x ≤ 139 := timesR_le (by omega)
      obtain ⟨X, rfl⟩ := Int.eq_ofNat_of_zero_le (show 0 ≤ x by omega)
      have hXl : X ≤ 1000 := by have h := HKP.out; have h2 := p2U_le hkl; omega
      obtain ⟨T, hT⟩ : ∃ T, T = timesR s (X : Int) := ⟨_, rfl⟩
      rw [← hT] at htl hst
      have HTM : Hid (∀ w, Calls Try.prog 23 #[.agg #[.int .i64 s, .int .i64 (X : Int)]] w fun e w' => e = .returned (.tuple #[.int .i64 (T : Int), .bool (s == 16)]) ∧ Below w.heap.size w w') := Lib.hid fun w => by rw [hT]; exact rtimes10_any w s X hXl
      have HST2 := Lib.hid hst
      clear HST hst hT x0
      have hq0 : (L = []) ↔ q = 0 := by rw [HQ.out]; exact List.length_eq_zero_iff.symm
      obtain ⟨V, hV⟩ : ∃ V, V = valR s L := ⟨_, rfl⟩
      rw [← hV] at HST2
      have hV8 : V < 256 := by rw [hV]; exact valR_lt HL.out
      unfold valR at hV
      have HV := Lib.hid hV; have HQ0 := Lib.hid hq0
      clear hV hq0
      have hsr : 0 ≤ s ∧ s ≤ 18 := by omega
      have hlr : ∀ j, ∀ x ∈ L ++ List.replicate j V, x < 256 := fun j y hy => by
        rcases List.mem_append.1 hy with hy | hy
        · exact HL.out y hy
        · rw [List.mem_replicate] at hy; rw [hy.2]; exact hV8
      have HLR := Lib.hid hlr
      clear hlr
      by_cases hs16 : s = 16
      · have e16 : (s == 16) = true := by simp [hs16]
        rw [e16] at HTM
        by_cases hq : q = 0
        · have hst := HST2.out
          rw [if_pos (.inl ⟨hs16, HQ0.out.2 hq⟩)] at hst
          subst hst
          have eq0 : ((q : Int) == 0) = true := by simp [hq]
          clear HST2 hs16 hq HQ0 hsr
          go_wp2_with fail
          refine HBI.out.mono ?_
          rintro e w2 ⟨rfl, rfl⟩
          go_wp2
          go_quiet ((go_at_call 22; exact Calls.quiet_of_same ((HPW.out _).mono fun _ _ ⟨a, b⟩ => ⟨a, b.symm⟩)))
          have HRD : Hid ((wr.drewN nq).rangeAt b (o + i * 2) (runC (s, (X : Int)))) := Lib.hid HRG.out
          go_wp2_with (refine wpList_load_mid rfl _ _ rfl b (o + i * 2) rfl (runC (s, (X : Int))) _ HRD.out Try.underlying25 rfl szRun ?_)
          refine (HTM.out _).mono ?_
          rintro e w3 ⟨rfl, hb3⟩
          have HB3 := Lib.hid (show Below w.heap.size w w3 from (show Below w.heap.size w (wr.drewN nq) from ⟨HB.out.os, HB.out.tape, HB.out.output, HB.out.size, HB.out.block⟩).trans (hb3.mono HB.out.size))
          have HW3 : Hid (w3.ownsRow w.heap.size 5 1 (.slice At q ct) q (bytesL q (lst L))) := Lib.hid (own_keep (show (wr.drewN nq).ownsRow w.heap.size 5 1 (.slice At q ct) q (bytesL q (lst L)) from HW.out) hb3)
          have z0 : w3.cell? ⟨b, o + i * 2, none⟩ = some (.int .i64 s) := (hb3.cell (p := ⟨b, o + i * 2, none⟩) (by show b < wr.heap.size; have := HB.out.size; omega)).trans c0
          clear hb3
          go_wp2
          go_ret2
          exact ⟨none, 0, 0, rfl, rfl, ByR.nil _ _ _ hnl, HB3.out, NewB.nil _ _ _⟩
        have eq0 : ((q : Int) == 0) = false := by simp [hq]
        by_cases hro : N < q + T
        · have hst := HST2.out
          rw [if_pos (.inr (by rw [← HQ.out]; exact hro))] at hst
          subst hst
          obtain ⟨qt, hqt⟩ : ∃ qt, qt = q + T := ⟨_, rfl⟩
          have eqt : (q : Int) + (T : Int) = (qt : Int) := by omega
          rw [← hqt] at hro
          have dr : (N : Int) < (qt : Int) := by omega
          clear HST2 hs16 HQ0 hsr hqt
          go_wp2_with fail
          refine HBI.out.mono ?_
          rintro e w2 ⟨rfl, rfl⟩
          go_wp2
          go_quiet ((go_at_call 22; exact Calls.quiet_of_same ((HPW.out _).mono fun _ _ ⟨a, b⟩ => ⟨a, b.symm⟩)))
          have HRD : Hid ((wr.drewN nq).rangeAt b (o + i * 2) (runC (s, (X : Int)))) := Lib.hid HRG.out
          go_wp2_with (refine wpList_load_mid rfl _ _ rfl b (o + i * 2) rfl (runC (s, (X : Int))) _ HRD.out Try.underlying25 rfl szRun ?_)
          refine (HTM.out _).mono ?_
          rintro e w3 ⟨rfl, hb3⟩
          have HB3 := Lib.hid (show Below w.heap.size w w3 from (show Below w.heap.size w (wr.drewN nq) from ⟨HB.out.os, HB.out.tape, HB.out.output, HB.out.size, HB.out.block⟩).trans (hb3.mono HB.out.size))
          have HW3 : Hid (w3.ownsRow w.heap.size 5 1 (.slice At q ct) q (bytesL q (lst L))) := Lib.hid (own_keep (show (wr.drewN nq).ownsRow w.heap.size 5 1 (.slice At q ct) q (bytesL q (lst L)) from HW.out) hb3)
          have z0 : w3.cell? ⟨b, o + i * 2, none⟩ = some (.int .i64 s) := (hb3.cell (p := ⟨b, o + i * 2, none⟩) (by show b < wr.heap.size; have := HB.out.size; omega)).trans c0
          clear hb3
          go_wp2
          go_ret2
          exact ⟨none, 0, 0, rfl, rfl, ByR.nil _ _ _ hnl, HB3.out, NewB.nil _ _ _⟩
        have hst := HST2.out
        rw [if_neg (by rintro (⟨_, g⟩ | g); exact hq (HQ0.out.1 g); rw [← HQ.out] at g; exact hro g)] at hst
        have HNX := Lib.hid hst.symm
        have hv := HV.out
        rw [if_pos hs16, last_lst, ← HQ.out] at hv
        obtain ⟨z, hz⟩ : ∃ z, z = q - 1 := ⟨_, rfl⟩
        have ez : (q : Int) - 1 = (z : Int) := by omega
        have hzq : (z : Int) < (q : Int) := by omega
        have hz0 : (0 : Int) ≤ (z : Int) := by omega
        rw [← hz] at hv
        have HV3 := Lib.hid hv
        obtain ⟨qt, hqt⟩ : ∃ qt, qt = q + T := ⟨_, rfl⟩
        have eqt : (q : Int) + (T : Int) = (qt : Int) := by omega
        have dr : ¬ (N : Int) < (qt : Int) := by omega
        have dr2 : decide (N < qt) = false := decN0 (by omega)
        have hqtl : q + T ≤ N := by omega
        clear HST2 hs16 HQ0 hst hv hz hqt hro
        go_wp2_with fail
        refine HBI.out.mono ?_
        rintro e w2 ⟨rfl, rfl⟩
        go_wp2
        go_quiet ((go_at_call 22; exact Calls.quiet_of_same ((HPW.out _).mono fun _ _ ⟨a, b⟩ => ⟨a, b.symm⟩)))
        have HRD : Hid ((wr.drewN nq).rangeAt b (o + i * 2) (runC (s, (X : Int)))) := Lib.hid HRG.out
        go_wp2_with (refine wpList_load_mid rfl _ _ rfl b (o + i * 2) rfl (runC (s, (X : Int))) _ HRD.out Try.underlying25 rfl szRun ?_)
        refine (HTM.out _).mono ?_
        rintro e w3 ⟨rfl, hb3⟩
        have HB3 := Lib.hid (show Below w.heap.size w w3 from (show Below w.heap.size w (wr.drewN nq) from ⟨HB.out.os, HB.out.tape, HB.out.output, HB.out.size, HB.out.block⟩).trans (hb3.mono HB.out.size))
        have HW3 : Hid (w3.ownsRow w.heap.size 5 1 (.slice At q ct) q (bytesL q (lst L))) := Lib.hid (own_keep (show (wr.drewN nq).ownsRow w.heap.size 5 1 (.slice At q ct) q (bytesL q (lst L)) from HW.out) hb3)
        have z0 : w3.cell? ⟨b, o + i * 2, none⟩ = some (.int .i64 s) := (hb3.cell (p := ⟨b, o + i * 2, none⟩) (by show b < wr.heap.size; have := HB.out.size; omega)).trans c0
        clear hb3
        obtain ⟨b2, o2, rfl, _, hcc⟩ := (ByR.of_own HW3.out (lst_lt HL.out)).1.2 (by omega)
        have z9 := hcc z (by omega)
        rw [← HV3.out] at z9
        clear hcc
        obtain ⟨wo, rfl⟩ : ∃ wo : World, wo = wr := ⟨_, rfl⟩
        go_wp2
        go_loopw [6, 13] (fun ov kv wr => ∃ (j p : Nat) (Ai : Option Addr) (ci : Nat), j ≤ T ∧ p = q + j ∧ ov = .slice Ai p ci ∧ kv = .int .i64 (j : Int) ∧ Hid (wr.ownsRow w.heap.size 5 1 (.slice Ai p ci) p (bytesL p (lst (L ++ List.replicate j V)))) ∧ Hid (Below w.heap.size w wr)) (fun _ kv _ => T - (intOf kv).toNat)
        case atStart => exact ⟨0, q, some ⟨b2, o2, none⟩, ct, Nat.zero_le _, rfl, rfl, rfl, Lib.hid (by rw [List.replicate_zero, List.append_nil]; exact HW3.out), HB3⟩
        case round =>
          obtain ⟨j, p, Ai, ci, hj, hpj, rfl, rfl, HWI, HBI⟩ := hrel
          by_cases hjl : j < T
          · have hjli : (j : Int) < (T : Int) := by omega
            obtain ⟨r1, r2⟩ := rep_one L j V
            rw [← HQ.out, ← hpj] at r1 r2
            obtain ⟨A', c', w', hr2, ho2, hb2⟩ := run_oneB wr w.heap.size Ai p ci (lst (L ++ List.replicate (j + 1) V)) (lst_lt (HLR.out _)) (by rw [← r1]; exact HWI.out) V r2.symm (by omega) HBI.out.size
            have HR2 := Lib.hid hr2; have HO2' := Lib.hid ho2; have HB2 := Lib.hid (HBI.out.trans hb2)
            have hpj2 : p + 1 = q + (j + 1) := by omega
            have HPJ := Lib.hid hpj2
            have hpb : p ≤ 1000 := by omega
            clear hr2 ho2 hb2 r1 r2 hpj hpj2
            go_wp2_with (at_builtin; refine wpList_append_run rfl (.tmp 101) (.tmp 103) 23 rfl (.slice Ai p ci) (.slice (some ⟨wr.heap.size, 0, none⟩) 1 1) (.slice A' (p + 1) c') w' rfl rfl HR2.out ?_)
            go_roundw
            case rel =>
              exact ⟨j + 1, p + 1, A', c', by omega, HPJ.out, rfl, by go_num, HO2', HB2⟩
            case measure => simp [intOf]; omega
          · obtain rfl : j = T := by omega
            have hjli : ¬ (j : Int) < (j : Int) := by omega
            have hqq : p = (L ++ List.replicate j V).length := by rw [List.length_append, List.length_replicate, ← HQ.out]; exact hpj
            have HQQ := Lib.hid hqq
            have hpN : p ≤ N := by omega
            clear hqq
            go_wp2
            go_roundw
            case rel => exact ⟨i + 1, p, Ai, ci, L ++ List.replicate j V, by omega, hpN, rfl, by go_num, HQQ, HNX, HLR.out j |> Lib.hid, HWI, HBI⟩
            case measure => simp [intOf]; omega
      · have e16 : (s == 16) = false := by simp [hs16]
        rw [e16] at HTM
        by_cases hro : N < q + T
        · have hst := HST2.out
          rw [if_pos (.inr (by rw [← HQ.out]; exact hro))] at hst
          subst hst
          obtain ⟨qt, hqt⟩ : ∃ qt, qt = q + T := ⟨_, rfl⟩
          have eqt : (q : Int) + (T : Int) = (qt : Int) := by omega
          rw [← hqt] at hro
          have dr : (N : Int) < (qt : Int) := by omega
          clear HST2 HQ0 hqt
          go_wp2_with fail
          refine HBI.out.mono ?_
          rintro e w2 ⟨rfl, rfl⟩
          go_wp2
          go_quiet ((go_at_call 22; exact Calls.quiet_of_same ((HPW.out _).mono fun _ _ ⟨a, b⟩ => ⟨a, b.symm⟩)))
          have HRD : Hid ((wr.drewN nq).rangeAt b (o + i * 2) (runC (s, (X : Int)))) := Lib.hid HRG.out
          go_wp2_with (refine wpList_load_mid rfl _ _ rfl b (o + i * 2) rfl (runC (s, (X : Int))) _ HRD.out Try.underlying25 rfl szRun ?_)
          refine (HTM.out _).mono ?_
          rintro e w3 ⟨rfl, hb3⟩
          have HB3 := Lib.hid (show Below w.heap.size w w3 from (show Below w.heap.size w (wr.drewN nq) from ⟨HB.out.os, HB.out.tape, HB.out.output, HB.out.size, HB.out.block⟩).trans (hb3.mono HB.out.size))
          have HW3 : Hid (w3.ownsRow w.heap.size 5 1 (.slice At q ct) q (bytesL q (lst L))) := Lib.hid (own_keep (show (wr.drewN nq).ownsRow w.heap.size 5 1 (.slice At q ct) q (bytesL q (lst L)) from HW.out) hb3)
          have z0 : w3.cell? ⟨b, o + i * 2, none⟩ = some (.int .i64 s) := (hb3.cell (p := ⟨b, o + i * 2, none⟩) (by show b < wr.heap.size; have := HB.out.size; omega)).trans c0
          clear hb3
          go_wp2
          go_ret2
          exact ⟨none, 0, 0, rfl, rfl, ByR.nil _ _ _ hnl, HB3.out, NewB.nil _ _ _⟩
        have hst := HST2.out
        rw [if_neg (by rintro (⟨g, _⟩ | g); exact hs16 g; rw [← HQ.out] at g; exact hro g)] at hst
        have HNX := Lib.hid hst.symm
        have hv := HV.out
        rw [if_neg hs16] at hv
        obtain ⟨qt, hqt⟩ : ∃ qt, qt = q + T := ⟨_, rfl⟩
        have eqt : (q : Int) + (T : Int) = (qt : Int) := by omega
        have dr : ¬ (N : Int) < (qt : Int) := by omega
        have dr2 : decide (N < qt) = false := decN0 (by omega)
        have hqtl : q + T ≤ N := by omega
        by_cases h16 : s < 16
        · rw [if_pos h16] at hv
          have hsV : s = (V : Int) := by omega
          subst hsV
          have hmm : (V : Int) % 256 = (V : Int) := by omega
          have hmw : IntKind.u8.wrap (V : Int) = (V : Int) := by rw [IntKind.wrap_u8]; omega
          clear HST2 HQ0 hst hv hqt hro hs16
          go_wp2_with fail
          refine HBI.out.mono ?_
          rintro e w2 ⟨rfl, rfl⟩
          go_wp2
          go_quiet ((go_at_call 22; exact Calls.quiet_of_same ((HPW.out _).mono fun _ _ ⟨a, b⟩ => ⟨a, b.symm⟩)))
          have HRD : Hid ((wr.drewN nq).rangeAt b (o + i * 2) (runC ((V : Int), (X : Int)))) := Lib.hid HRG.out
          go_wp2_with (refine wpList_load_mid rfl _ _ rfl b (o + i * 2) rfl (runC ((V : Int), (X : Int))) _ HRD.out Try.underlying25 rfl szRun ?_)
          refine (HTM.out _).mono ?_
          rintro e w3 ⟨rfl, hb3⟩
          have HB3 := Lib.hid (show Below w.heap.size w w3 from (show Below w.heap.size w (wr.drewN nq) from ⟨HB.out.os, HB.out.tape, HB.out.output, HB.out.size, HB.out.block⟩).trans (hb3.mono HB.out.size))
          have HW3 : Hid (w3.ownsRow w.heap.size 5 1 (.slice At q ct) q (bytesL q (lst L))) := Lib.hid (own_keep (show (wr.drewN nq).ownsRow w.heap.size 5 1 (.slice At q ct) q (bytesL q (lst L)) from HW.out) hb3)
          have z0 : w3.cell? ⟨b, o + i * 2, none⟩ = some (.int .i64 (V : Int)) := (hb3.cell (p := ⟨b, o + i * 2, none⟩) (by show b < wr.heap.size; have := HB.out.size; omega)).trans c0
          clear hb3
          obtain ⟨wo, rfl⟩ : ∃ wo : World, wo = wr := ⟨_, rfl⟩
          go_wp2
          go_loopw [6, 13] (fun ov kv wr => ∃ (j p : Nat) (Ai : Option Addr) (ci : Nat), j ≤ T ∧ p = q + j ∧ ov = .slice Ai p ci ∧ kv = .int .i64 (j : Int) ∧ Hid (wr.ownsRow w.heap.size 5 1 (.slice Ai p ci) p (bytesL p (lst (L ++ List.replicate j V)))) ∧ Hid (Below w.heap.size w wr)) (fun _ kv _ => T - (intOf kv).toNat)
          case atStart => exact ⟨0, q, At, ct, Nat.zero_le _, rfl, rfl, rfl, Lib.hid (by rw [List.replicate_zero, List.append_nil]; exact HW3.out), HB3⟩
          case round =>
            obtain ⟨j, p, Ai, ci, hj, hpj, rfl, rfl, HWI, HBI⟩ := hrel
            by_cases hjl : j < T
            · have hjli : (j : Int) < (T : Int) := by omega
              obtain ⟨r1, r2⟩ := rep_one L j V
              rw [← HQ.out, ← hpj] at r1 r2
              obtain ⟨A', c', w', hr2, ho2, hb2⟩ := run_oneB wr w.heap.size Ai p ci (lst (L ++ List.replicate (j + 1) V)) (lst_lt (HLR.out _)) (by rw [← r1]; exact HWI.out) V r2.symm (by omega) HBI.out.size
              have HR2 := Lib.hid hr2; have HO2' := Lib.hid ho2; have HB2 := Lib.hid (HBI.out.trans hb2)
              have hpj2 : p + 1 = q + (j + 1) := by omega
              have HPJ := Lib.hid hpj2
              have hpb : p ≤ 1000 := by omega
              clear hr2 ho2 hb2 r1 r2 hpj hpj2
              go_wp2_with (at_builtin; refine wpList_append_run rfl (.tmp 101) (.tmp 103) 23 rfl (.slice Ai p ci) (.slice (some ⟨wr.heap.size, 0, none⟩) 1 1) (.slice A' (p + 1) c') w' rfl rfl HR2.out ?_)
              go_roundw
              case rel =>
                exact ⟨j + 1, p + 1, A', c', by omega, HPJ.out, rfl, by go_num, HO2', HB2⟩
              case measure => simp [intOf]; omega
            · obtain rfl : j = T := by omega
              have hjli : ¬ (j : Int) < (j : Int) := by omega
              have hqq : p = (L ++ List.replicate j V).length := by rw [List.length_append, List.length_replicate, ← HQ.out]; exact hpj
              have HQQ := Lib.hid hqq
              have hpN : p ≤ N := by omega
              clear hqq
              go_wp2
              go_roundw
              case rel => exact ⟨i + 1, p, Ai, ci, L ++ List.replicate j V, by omega, hpN, rfl, by go_num, HQQ, HNX, HLR.out j |> Lib.hid, HWI, HBI⟩
              case measure => simp [intOf]; omega
        · rw [if_neg h16] at hv
          subst hv
          clear HST2 HQ0 hst hqt hro
          go_wp2_with fail
          refine HBI.out.mono ?_
          rintro e w2 ⟨rfl, rfl⟩
          go_wp2
          go_quiet ((go_at_call 22; exact Calls.quiet_of_same ((HPW.out _).mono fun _ _ ⟨a, b⟩ => ⟨a, b.symm⟩)))
          have HRD : Hid ((wr.drewN nq).rangeAt b (o + i * 2) (runC (s, (X : Int)))) := Lib.hid HRG.out
          go_wp2_with (refine wpList_load_mid rfl _ _ rfl b (o + i * 2) rfl (runC (s, (X : Int))) _ HRD.out Try.underlying25 rfl szRun ?_)
          refine (HTM.out _).mono ?_
          rintro e w3 ⟨rfl, hb3⟩
          have HB3 := Lib.hid (show Below w.heap.size w w3 from (show Below w.heap.size w (wr.drewN nq) from ⟨HB.out.os, HB.out.tape, HB.out.output, HB.out.size, HB.out.block⟩).trans (hb3.mono HB.out.size))
          have HW3 : Hid (w3.ownsRow w.heap.size 5 1 (.slice At q ct) q (bytesL q (lst L))) := Lib.hid (own_keep (show (wr.drewN nq).ownsRow w.heap.size 5 1 (.slice At q ct) q (bytesL q (lst L)) from HW.out) hb3)
          have z0 : w3.cell? ⟨b, o + i * 2, none⟩ = some (.int .i64 s) := (hb3.cell (p := ⟨b, o + i * 2, none⟩) (by show b < wr.heap.size; have := HB.out.size; omega)).trans c0
          clear hb3
          obtain ⟨wo, rfl⟩ : ∃ wo : World, wo = wr := ⟨_, rfl⟩
          go_wp2
          go_loopw [6, 13] (fun ov kv wr => ∃ (j p : Nat) (Ai : Option Addr) (ci : Nat), j ≤ T ∧ p = q + j ∧ ov = .slice Ai p ci ∧ kv = .int .i64 (j : Int) ∧ Hid (wr.ownsRow w.heap.size 5 1 (.slice Ai p ci) p (bytesL p (lst (L ++ List.replicate j 0)))) ∧ Hid (Below w.heap.size w wr)) (fun _ kv _ => T - (intOf kv).toNat)
          case atStart => exact ⟨0, q, At, ct, Nat.zero_le _, rfl, rfl, rfl, Lib.hid (by rw [List.replicate_zero, List.append_nil]; exact HW3.out), HB3⟩
          case round =>
            obtain ⟨j, p, Ai, ci, hj, hpj, rfl, rfl, HWI, HBI⟩ := hrel
            by_cases hjl : j < T
            · have hjli : (j : Int) < (T : Int) := by omega
              obtain ⟨r1, r2⟩ := rep_one L j 0
              rw [← HQ.out, ← hpj] at r1 r2
              obtain ⟨A', c', w', hr2, ho2, hb2⟩ := run_oneB wr w.heap.size Ai p ci (lst (L ++ List.replicate (j + 1) 0)) (lst_lt (HLR.out _)) (by rw [← r1]; exact HWI.out) 0 r2.symm (by omega) HBI.out.size
              have HR2 := Lib.hid hr2; have HO2' := Lib.hid ho2; have HB2 := Lib.hid (HBI.out.trans hb2)
              have hpj2 : p + 1 = q + (j + 1) := by omega
              have HPJ := Lib.hid hpj2
              have hpb : p ≤ 1000 := by omega
              clear hr2 ho2 hb2 r1 r2 hpj hpj2
              go_wp2_with (at_builtin; refine wpList_append_run rfl (.tmp 101) (.tmp 103) 23 rfl (.slice Ai p ci) (.slice (some ⟨wr.heap.size, 0, none⟩) 1 1) (.slice A' (p + 1) c') w' rfl rfl HR2.out ?_)
              go_roundw
              case rel =>
                exact ⟨j + 1, p + 1, A', c', by omega, HPJ.out, rfl, by go_num, HO2', HB2⟩
              case measure => simp [intOf]; omega
            · obtain rfl : j = T := by omega
              have hjli : ¬ (j : Int) < (j : Int) := by omega
              have hqq : p = (L ++ List.replicate j 0).length := by rw [List.length_append, List.length_replicate, ← HQ.out]; exact hpj
              have HQQ := Lib.hid hqq
              have hpN : p ≤ N := by omega
              clear hqq
              go_wp2
              go_roundw
              case rel => exact ⟨i + 1, p, Ai, ci, L ++ List.replicate j 0, by omega, hpN, rfl, by go_num, HQQ, HNX, HLR.out j |> Lib.hid, HWI, HBI⟩
              case measure => simp [intOf]; omega
    · obtain rfl : i = m := by omega
      have hlti : ¬ (i : Int) < (i : Int) := by omega
      have hfin := HP.out
      have hdr : l.drop i = [] := List.drop_eq_nil_of_le (by rw [← HM.out]; exact Nat.le_refl _)
      rw [hdr] at hfin
      simp only [strR] at hfin
      rw [← HQ.out] at hfin
      by_cases hqn : q = N
      · rw [if_pos hqn] at hfin
        subst hfin
        have dq : ((q : Int) != (N : Int)) = false := by simp; omega
        have hby := ByR.of_own HW.out (lst_lt HL.out)
        have HBY := Lib.hid hby
        have hnew : NewB wr w.heap.size At q := fun h0 => by
          obtain ⟨g, cap, hv, hge, hlt⟩ := HW.out.form h0
          rcases HW.out.2 with ⟨hv2, _⟩ | ⟨g2, cap2, cur, hv2, hg2, hh2, _⟩
          · rw [hv2] at hv; cases hv
          · injection hv2 with h1 _ _
            exact ⟨g2, 0, cur, h1, hg2, hh2⟩
        have HNEW := Lib.hid hnew
        clear hby hnew hqn hdr
        go_wp2
        go_ret2
        exact ⟨At, q, ct, rfl, HQ.out, HBY.out, HB.out, HNEW.out⟩
      · rw [if_neg hqn] at hfin
        subst hfin
        have dq : ((q : Int) != (N : Int)) = true := by simp; omega
        clear hqn hdr
        go_wp2
        go_ret2
        exact ⟨none, 0, 0, rfl, rfl, ByR.nil _ _ _ hnl, HB.out, NewB.nil _ _ _⟩
end Go.Proofs.Ytgkbnmknlmapdaa
