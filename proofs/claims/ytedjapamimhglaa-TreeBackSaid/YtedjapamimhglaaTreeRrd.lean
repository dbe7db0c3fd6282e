/-
  Layer 5 (tree): what the document's own Read answers.
-/
import Derived.Test.YtedjapamimhglaaTreeRdn
import Derived.Test.YtedjapamimhglaaCanonMade
import Derived.BigQuiet
namespace Go.Proofs.Ytedjapamimhglaa
open Go.RowKit
theorem shr_u32 (x d : Nat) : ((x : Int) / 2 ^ d : Int) = ((x / 2 ^ d : Nat) : Int) := by rw [Int.natCast_ediv, Int.natCast_pow]; rfl
def RdOut (p : Nat × Nat × Int) : Value := .tuple #[.int .i64 (p.1 : Int), .int .i64 (p.2.1 : Int), .int .i64 p.2.2]
set_option maxRecDepth 100000 in
set_option maxHeartbeats 4000000 in
theorem rread_any (w : World) (A : Option Addr) (N c : Nat) (f : Nat → Nat) (hr : RdC w w.heap.size A N (codeB f N) f) (h15 : ∀ i, i < N → f i ≤ 15) (hN : N ≤ 1000) (Ab : Option Addr) (l cb : Nat) (g : Nat → Nat) (hg : RdB w w.heap.size Ab l g) (hl : l ≤ 1000000) (at_ : Nat) (hat : at_ ≤ 9223372036854775807) :
    Calls Try.prog 36 #[.slice A N c, .slice Ab l cb, .int .i64 (at_ : Int)] w fun e w' => e = .returned (RdOut (readR f N g l at_ 17 0)) ∧ Below w.heap.size w w' := by
  have HR := Lib.hid hr; have H15 := Lib.hid h15; have HG := Lib.hid hg
  clear hr h15 hg
  obtain ⟨P, hP⟩ : ∃ P, P = readR f N g l at_ 17 0 := ⟨_, rfl⟩
  rw [← hP]
  have HP := Lib.hid hP
  clear hP
  go_enter Try.func36, Try.ntmps36
  go_wp2
  go_loopw [2, 9, 10, 11, 12, 13, 14, 15] (fun a v n _ _ _ _ _ wr => ∃ k : Nat, k ≤ 15 ∧ n = .int .i64 k ∧ a = .int .i64 ((at_ + k : Nat) : Int) ∧ v = .int .u32 (bvN g at_ k : Nat) ∧ (0 < k → at_ + k ≤ 8 * l) ∧ P = readR f N g l at_ (17 - k) k ∧ Below w.heap.size w wr) (fun _ _ n _ _ _ _ _ _ => 16 - (intOf n).toNat)
  case atStart => exact ⟨0, by omega, rfl, rfl, rfl, by omega, HP.out, Below.refl _ _⟩
  case round =>
    obtain ⟨k, hk, rfl, rfl, rfl, hin, hp, hb⟩ := hrel
    obtain ⟨wo, rfl⟩ : ∃ wo : World, wo = wr := ⟨_, rfl⟩
    have hv := bvN_lt g at_ k
    have hpw : (2 : Nat) ^ k ≤ 2 ^ 15 := Nat.pow_le_pow_right (by omega) hk
    have h215 : (2 : Nat) ^ 15 = 32768 := rfl
    have hbs := Lib.hid (show bvN g at_ (k + 1) = 2 * bvN g at_ k + bitAt g (at_ + k) from rfl)
    have hrs : readR f N g l at_ (17 - k) k = match fndN f N (bvN g at_ k) k N with
      | some i => (i, at_ + k, 0)
      | none => if morN f N (bvN g at_ k) k N = false then (0, 0, 50) else if 8 * l ≤ at_ + k then (0, 0, 10) else readR f N g l at_ (17 - (k + 1)) (k + 1) := by
      rw [show 17 - k = (17 - (k + 1)) + 1 by omega]; rfl
    obtain ⟨v, hvv⟩ : ∃ v, v = bvN g at_ k := ⟨_, rfl⟩
    rw [← hvv] at hv hbs hrs ⊢
    have HVV := Lib.hid hvv
    have hv2 : v < 32768 := by omega
    have HPP := Lib.hid (hp.trans hrs); have HB := Lib.hid hb
    clear hvv hv hpw h215 hrs hp hb
    go_wp2
    go_loopw [11, 12, 13] (fun mo i _ wi => ∃ j : Nat, j ≤ N ∧ i = .int .i64 j ∧ mo = .bool (morN f N v k j) ∧ fndN f N v k j = none ∧ Below w.heap.size w wi) (fun _ i _ _ => N - (intOf i).toNat)
    case atStart => exact ⟨0, Nat.zero_le _, rfl, rfl, rfl, HB.out⟩
    case round =>
      obtain ⟨j, hj, rfl, rfl, hfn, hb⟩ := hrel
      by_cases hlt : j < N
      · obtain ⟨b, o, rfl, hbl, hc⟩ := (HR.out.below hb (Nat.le_refl _)).at (by omega)
        obtain ⟨c1, c2⟩ := hc j hlt
        have hm15 := H15.out j hlt
        have hx32 := HR.out.1.1 j
        have hmr := Lib.hid (show morN f N v k (j + 1) = (morN f N v k j || onB f N v k j) from rfl)
        have hkeep := Lib.hid (fun hb => fndN_keep hfn (hb : isB f N v k j = true) N hlt)
        have hmore := Lib.hid (fun hb => fndN_more hfn (hb : isB f N v k j = false))
        have his : isB f N v k j = decide (0 < k ∧ f j = k ∧ codeB f N j = v) := rfl
        have hon : onB f N v k j = decide (k < f j ∧ codeB f N j / 2 ^ (f j - k) = v) := rfl
        obtain ⟨M, hM⟩ : ∃ M, M = morN f N v k j := ⟨_, rfl⟩
        rw [← hM] at hmr ⊢
        obtain ⟨x, hx⟩ : ∃ x, x = codeB f N j := ⟨_, rfl⟩
        obtain ⟨m, hm⟩ : ∃ m, m = f j := ⟨_, rfl⟩
        rw [← hx] at c1 hx32 his hon
        rw [← hm] at c2 hm15 his hon
        have HBW := Lib.hid hb
        have hblt : b < wr.heap.size := Nat.lt_of_lt_of_le hbl hb.size
        clear hfn hb hc hM hx hm
        by_cases hm0 : m = 0
        · have hI := Lib.hid (his.trans (decide_eq_false (by omega)))
          have hO := Lib.hid (hon.trans (decide_eq_false (by omega)))
          subst hm0
          clear his hon
          go_wp2
          go_roundw
          case rel => exact ⟨j + 1, by omega, by go_num, by rw [hmr.out, hO.out, Bool.or_false], hmore.out hI.out, HBW.out.alloc HBW.out.size _⟩
          case measure => simp [intOf]; omega
        · have hmz : ((m : Int) == 0) = false := by simp; omega
          have hmz2 : (m == 0) = false := by simpa using hm0
          by_cases hmk : m < k
          · have hI := Lib.hid (his.trans (decide_eq_false (by omega)))
            have hO := Lib.hid (hon.trans (decide_eq_false (by omega)))
            have hd1 : decide ((m : Int) < (k : Int)) = true := by simp; omega
            have hd2 : decide (m < k) = true := by simpa using hmk
            clear his hon
            go_wp2
            go_roundw
            case rel => exact ⟨j + 1, by omega, by go_num, by rw [hmr.out, hO.out, Bool.or_false], hmore.out hI.out, HBW.out.alloc HBW.out.size _⟩
            case measure => simp [intOf]; omega
          · have hd1 : decide ((m : Int) < (k : Int)) = false := by simp; omega
            have hd2 : decide (m < k) = false := by simpa using hmk
            by_cases hme : m = k
            · subst hme
              have hO := Lib.hid (hon.trans (decide_eq_false (by omega)))
              have hmm : ((m : Int) == (m : Int)) = true := by simp
              have hmm2 : (m == m) = true := by simp
              have hgt : decide ((m : Int) < (m : Int)) = false := by simp
              have h0m : decide (0 < (m : Int)) = true := by simp; omega
              have h0m2 : decide (0 < m) = true := by simp; omega
              by_cases hxv : x = v
              · subst hxv
                have hI := (his.trans (decide_eq_true ⟨by omega, rfl, rfl⟩))
                have hPf : P = (j, at_ + m, 0) := by rw [HPP.out, hkeep.out hI]
                have hxx : ((x : Int) == (x : Int)) = true := by simp
                have hxx2 : (x == x) = true := by simp
                have HPF := Lib.hid hPf
                clear his hon hI hPf
                go_wp2
                go_ret3
                exact ⟨by rw [HPF.out]; rfl, HBW.out.alloc HBW.out.size _⟩
              · have hI := Lib.hid (his.trans (decide_eq_false (by omega)))
                have hxx : ((x : Int) == (v : Int)) = false := by simp; omega
                have hxx2 : (x == v) = false := by simpa using hxv
                clear his hon
                cases M
                all_goals
                  go_wp2
                  go_roundw
                  case rel => exact ⟨j + 1, by omega, by go_num, by rw [hmr.out, hO.out]; rfl, hmore.out hI.out, HBW.out.alloc HBW.out.size _⟩
                  case measure => simp [intOf]; omega
            · have hI := Lib.hid (his.trans (decide_eq_false (by omega)))
              have hme1 : ((m : Int) == (k : Int)) = false := by simp; omega
              have hme2 : (m == k) = false := by simpa using hme
              have hgt : decide ((k : Int) < (m : Int)) = true := by simp; omega
              have hgt2 : decide (k < m) = true := by simp; omega
              have hdd : (m : Int) - (k : Int) = ((m - k : Nat) : Int) := by omega
              have hO := Lib.hid (hon.trans (by rw [decide_eq_decide]; exact ⟨fun h => h.2, fun h => ⟨by omega, h⟩⟩ : _ = decide (x / 2 ^ (m - k) = v)))
              clear his hon
              cases M
              · have hval := Lib.hid (show ((x : Int) / 2 ^ (m - k) == (v : Int)) = morN f N v k (j + 1) by
                  rw [hmr.out, hO.out, Bool.false_or, shr_u32]
                  generalize x / 2 ^ (m - k) = y
                  rw [Bool.eq_iff_iff]; simp; omega)
                go_wp2
                go_roundw
                case rel => exact ⟨j + 1, by omega, by go_num, by rw [hval.out], hmore.out hI.out, HBW.out.alloc HBW.out.size _⟩
                case measure => simp [intOf]; omega
              · go_wp2
                go_roundw
                case rel => exact ⟨j + 1, by omega, by go_num, by rw [hmr.out]; rfl, hmore.out hI.out, HBW.out.alloc HBW.out.size _⟩
                case measure => simp [intOf]; omega
      · obtain rfl : j = N := by omega
        have hPn : P = if morN f j v k j = false then (0, 0, 50) else if 8 * l ≤ at_ + k then (0, 0, 10) else readR f j g l at_ (17 - (k + 1)) (k + 1) := by rw [HPP.out, hfn]
        have HBW := Lib.hid hb
        clear hfn hb hlt hj
        cases hM : morN f j v k j with
        | false =>
          rw [hM] at hPn
          have hPf : P = (0, 0, 50) := by rw [hPn]; rfl
          have HPF := Lib.hid hPf
          clear hPn hPf hM
          go_wp2
          go_ret3
          exact ⟨by rw [HPF.out]; rfl, HBW.out⟩
        | true =>
          have hk15 : k < 15 := by
            rcases Nat.lt_or_ge k 15 with h | h
            · exact h
            · rw [mor_last H15.out h] at hM; cases hM
          rw [hM, if_neg (by decide)] at hPn
          have htk := rtake_any wr w.heap.size Ab l cb g ((at_ + k : Nat) : Int) 1 (HG.out.below HBW.out (Nat.le_refl _)) (by omega)
          by_cases hend : 8 * l ≤ at_ + k
          · have hPf : P = (0, 0, 10) := by rw [hPn, if_pos hend]
            have hbig : ((at_ + k : Nat) : Int) ≤ 9223372036854775807 := by
              rcases Nat.eq_zero_or_pos k with h | h
              · omega
              · have := hin h; omega
            have htk := htk hbig
            have e1 : takeE l ((at_ + k : Nat) : Int) 1 = 10 := by unfold takeE; rw [if_neg (by omega), if_pos (by omega)]
            have e2 : takeV g l ((at_ + k : Nat) : Int) 1 = 0 := by unfold takeV; rw [if_neg (by omega), if_pos (by omega)]
            rw [e1, e2] at htk
            have HTK := Lib.hid htk
            have HPF := Lib.hid hPf
            clear hPn hPf hM htk e1 e2 hend hin
            go_wp2_with fail
            refine HTK.out.mono ?_
            rintro e w' ⟨rfl, rfl⟩
            go_wp2
            go_ret3
            exact ⟨by rw [HPF.out]; rfl, HBW.out⟩
          · have hPf : P = readR f j g l at_ (17 - (k + 1)) (k + 1) := by rw [hPn, if_neg hend]
            have htk := htk (by omega)
            have e1 : takeE l ((at_ + k : Nat) : Int) 1 = 0 := by unfold takeE; rw [if_neg (by omega), if_neg (by omega)]
            have e2 : takeV g l ((at_ + k : Nat) : Int) 1 = bitAt g (at_ + k) := by
              unfold takeV; rw [if_neg (by omega), if_neg (by omega), Int.toNat_natCast]
              show numN g (at_ + k) 1 = _
              simp [numN]
            rw [e1, e2] at htk
            have hbl := bitAt_lt g (at_ + k)
            obtain ⟨t, ht⟩ : ∃ t, t = bitAt g (at_ + k) := ⟨_, rfl⟩
            rw [← ht] at htk hbl hbs
            have HTK := Lib.hid htk
            have HPF := Lib.hid hPf
            have hcast : ((at_ + k : Nat) : Int) + 1 = ((at_ + (k + 1) : Nat) : Int) := by omega
            have hin2 : at_ + k < 8 * l := by omega
            have HC := Lib.hid hcast
            clear hPn hPf hM htk e1 e2 ht hend hin hcast
            go_wp2_with fail
            refine HTK.out.mono ?_
            rintro e w' ⟨rfl, rfl⟩
            go_wp2
            go_roundw
            case rel => exact ⟨k + 1, by omega, by go_num, val_int (by omega), val_int (by rw [hbs.out]; omega), fun _ => by omega, HPF.out, HBW.out⟩
            case measure => simp [intOf]; omega
end Go.Proofs.Ytedjapamimhglaa
