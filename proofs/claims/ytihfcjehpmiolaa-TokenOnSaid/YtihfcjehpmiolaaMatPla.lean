/-
  Layer 7 (match): the program's iterator over the earlier places at which three bytes match, the nearest first.
-/
import Derived.Test.YtihfcjehpmiolaaMatLib
import Derived.Test.YtihfcjehpmiolaaRangeS
import Derived.Test.YtihfcjehpmiolaaKeeps
import Derived.Test.YtihfcjehpmiolaaInRun
import Derived.Sort.QuietIn
namespace Go.Proofs.Ytihfcjehpmiolaa
open Go.RowKit Go.Shelf
attribute [local go_sem] Oper.semAt_some
theorem wide_fn (f : FuncId) : Fence.wide.fn f = True := rfl
attribute [local simp] wide_fn
theorem rd_part {w : World} {B n c lo hi : Nat} {ad : Addr} {A2 : Option Addr} {f : Nat → Nat} (h : RdB w B (some ad) n f) (hlo : lo ≤ hi) (hhi : hi ≤ n) (hc : n ≤ c) (hA : (if c = lo then (some ad : Option Addr) else some (ad.add lo)) = A2) : RdB w B A2 (hi - lo) (fun k => f (k + lo)) := by
  refine ⟨fun j => h.1 _, fun hn => ?_⟩
  obtain ⟨b, o, e, hb, hcc⟩ := h.2 (by omega)
  cases e
  rw [if_neg (by omega)] at hA
  have e : (⟨b, o, none⟩ : Addr).add lo = ⟨b, o + lo, none⟩ := by unfold Addr.add; split <;> simp_all
  rw [e] at hA
  refine ⟨b, o + lo, hA.symm, hb, fun j hj => ?_⟩
  have := hcc (j + lo) (by omega)
  rw [show o + lo + j = o + (j + lo) by omega]
  exact this
theorem mat3 {f : Nat → Nat} {L a q : Nat} (h : a + 3 ≤ L) : 3 ≤ matN f L a q ↔ ∀ i, i < 3 → f (q + i) = f (a + i) := by
  obtain ⟨h1, h2, h3⟩ := matN_spec f L a q
  constructor
  · intro h i hi; exact (h2 i (by omega)).2
  · intro hh
    rcases Nat.lt_or_ge (matN f L a q) 3 with g | g
    · rcases h3 with h3 | h3
      · omega
      · exact absurd ⟨by omega, hh _ g⟩ h3
    · exact g
theorem mat_few {f : Nat → Nat} {L a q : Nat} (h : a ≤ L) (h3 : L - a < 3) : ¬ 3 ≤ matN f L a q := by
  have := matN_end (f := f) (p := q) h; omega
theorem mat_first {f : Nat → Nat} {L a q : Nat} (h : f q ≠ f a) : ¬ 3 ≤ matN f L a q := by
  intro h3
  obtain ⟨h1, h2, _⟩ := matN_spec f L a q
  exact h (h2 0 (by omega)).2
/-- Is the place that stands j + 1 ahead one that is looked at? -/
def okP (f : Nat → Nat) (n a j : Nat) : Prop := 3 ≤ matN f n a (a - 1 - j)
def encP (a j : Nat) : Array Value := #[.int .i64 ((a - 1 - j : Nat) : Int)]
theorem skips {J : Nat → World → Prop} {ok : Nat → Prop} {L : Nat} (h : ∀ j W1, J j W1 → j < L → ¬ ok j → J (j + 1) W1) {j : Nat} {W : World} (hJ : J j W) : ∀ d, j + d ≤ L → (∀ i, j ≤ i → i < j + d → ¬ ok i) → J (j + d) W
  | 0, _, _ => hJ
  | d + 1, h1, h2 => h (j + d) W (skips h hJ d (by omega) fun i hi hi2 => h2 i hi (by omega)) (by omega) (h2 (j + d) (by omega) (by omega))
set_option maxRecDepth 100000 in
set_option maxHeartbeats 4000000 in
theorem places1_in (fu : Nat) (hn : 1 ≤ fu) (l Bb Ba Bs B : Nat) (A : Option Addr) (n c a z : Nat) (f : Nat → Nat) (S : Nat → Prop) (hS : S Bb ∧ S Ba ∧ S Bs) (hS2 : ∀ k, k < B → S k) (hlen : n ≤ 1000000) (_hcm : c ≤ maxLen) (ha : a ≤ n) (hnc : n ≤ c) (hz : z ≤ 1000000)
    (J Jx : Nat → World → Prop)
    (hsk : ∀ j W1, J j W1 → j < min z a → ¬ okP f n a j → J (j + 1) W1)
    (hY : ∀ j W1, J j W1 → j < min z a → okP f n a j → YieldAt Fence.wide (fu - 1) Try.prog l (encP a j) W1 fun e W' => (e = .returned (.bool true) ∧ J (j + 1) W' ∧ KpB S W1 W') ∨ (e = .returned (.bool false) ∧ Jx j W'))
    (hd : ∀ W1 W2 j, J j W1 → (∃ t, W2 = W1.drewN t) → J j W2)
    (W : World) (hBb : W.cell? ⟨Bb, 0, none⟩ = some (.slice A n c)) (hBa : W.cell? ⟨Ba, 0, none⟩ = some (.int .i64 (a : Int))) (hBs : W.cell? ⟨Bs, 0, none⟩ = some (.int .i64 (z : Int))) (hr : RdB W B A n f) (h0 : J 0 W) :
    CallsIn Fence.wide fu Try.prog 40 #[.func (.yield l) #[] #[], .pointer (some ⟨Bb, 0, none⟩), .pointer (some ⟨Ba, 0, none⟩), .pointer (some ⟨Bs, 0, none⟩)] W fun e W' => (∃ v, e = .returned v) ∧ (J (min z a) W' ∨ ∃ j, j < min z a ∧ Jx j W') := by
  obtain ⟨M, hM⟩ : ∃ M, M = min (n - a) 258 := ⟨_, rfl⟩
  have hmo := most_any W A n c a ha hlen
  rw [← hM] at hmo
  have HMO := Lib.hid hmo
  refine callsIn_of_wp Try.func40 rfl trivial ?_ rfl
  simp only [Try.ntmps40, List.size_toArray, List.length_cons, List.length_nil, Nat.reduceAdd, Nat.reduceSub, Array.replicate_succ, Array.replicate_zero, List.push_toArray, List.append_toArray, List.nil_append, List.cons_append]
  have HR := Lib.hid hr; have HS := Lib.hid hS2; have HM := Lib.hid hM; have HY := Lib.hid hY; have HSK := Lib.hid hsk; have HD := Lib.hid hd
  clear hr hS2 hM hmo hY hsk hd
  by_cases hm3 : M < 3
  · have hfew : ∀ i, ¬ okP f n a i := fun i => mat_few ha (by have := HM.out; omega)
    have hJL := skips HSK.out h0 (min z a) (by omega) (fun i _ _ => hfew i)
    rw [Nat.zero_add] at hJL
    have HJL := Lib.hid hJL
    have hmi : (M : Int) < 3 := by omega
    clear hfew hJL
    gi_wp2_with (gi_at_call 39; refine (callsIn_wide.2 HMO.out).mono ?_; rintro e w' ⟨rfl, rfl⟩)
    refine bodyPost_ret (results_none rfl _ _ _) rfl ?_
    exact ⟨⟨_, rfl⟩, .inl HJL.out⟩
  · have hmi : ¬ (M : Int) < 3 := by omega
    have ha3 : a + 3 ≤ n := by have := HM.out; omega
    obtain ⟨ad, rfl⟩ : ∃ ad, A = some ad := by
      obtain ⟨b, o, h, _⟩ := HR.out.2 (by omega)
      exact ⟨_, h⟩
    obtain ⟨A1, hA1⟩ : ∃ A1, (if c = a then (some ad : Option Addr) else some (ad.add a)) = A1 := ⟨_, rfl⟩
    have hbeg := rd_part (hi := a + 3) HR.out (by omega) ha3 hnc hA1
    obtain ⟨b1, o1, rfl, hb1, hc1⟩ := hbeg.2 (by omega)
    obtain ⟨low, hlo⟩ : ∃ low, low = a - z := ⟨_, rfl⟩
    obtain ⟨L, hL⟩ : ∃ L, L = min z a := ⟨_, rfl⟩
    have eL : L = a - low := by omega
    have hla : low ≤ a := by omega
    have hlow : (if (a : Int) - (z : Int) < 0 then 0 else (a : Int) - (z : Int)) = (low : Int) := by split <;> omega
    have e3 : a + 3 - a = 3 := by omega
    rw [e3] at hbeg
    rw [← hL] at HY HSK ⊢
    have HBEG := Lib.hid hbeg; have HA1 := Lib.hid hA1
    clear hbeg hc1 hb1 hL hlo
    gi_wp2_with (gi_at_call 39; refine (callsIn_wide.2 HMO.out).mono ?_; rintro e w' ⟨rfl, rfl⟩)
    gi_region
    simp only [e3]
    have hjd := HD.out _ _ _ h0 ⟨1, rfl⟩
    change J 0 W.drew at hjd
    have hkd : KpB S W W.drew := KpB.refl S W
    obtain ⟨V, hV⟩ : ∃ V, V = W.drew := ⟨_, rfl⟩
    rw [← hV] at hjd hkd ⊢
    have vBa := (hkd.cell (p := ⟨Ba, 0, none⟩) hS.2.1).trans hBa
    have HJ0 := Lib.hid hjd; have HK0 := Lib.hid hkd
    clear hV hjd hkd h0 hlow e3 HMO hA1
    gi_wp2
    gi_loopw [7] (fun kv wr => ∃ j : Nat, j ≤ L ∧ kv = .int .i64 ((a - j : Nat) : Int) ∧ Hid (J j wr) ∧ Hid (KpB S W wr)) (fun kv _ => (intOf kv).toNat)
    case atStart => exact ⟨0, Nat.zero_le _, rfl, HJ0, HK0⟩
    case round =>
      obtain ⟨j, hj, rfl, HJ, HK⟩ := hrel
      obtain ⟨g, hg⟩ : ∃ g, g = a - j := ⟨_, rfl⟩
      rw [← hg]
      have hgl : low ≤ g := by omega
      have hga : g ≤ a := by omega
      have c1 := (HK.out.cell (p := ⟨Bb, 0, none⟩) hS.1).trans hBb
      have c2 := (HK.out.cell (p := ⟨Ba, 0, none⟩) hS.2.1).trans hBa
      have HRW := Lib.hid (HR.out.kept HK.out HS.out)
      have HBW := Lib.hid (HBEG.out.kept HK.out HS.out)
      obtain ⟨b2, o2, hb2, _, hc2⟩ := HBW.out.2 (by omega)
      injection hb2 with hb2
      injection hb2 with hb2 ho2 _
      subst hb2; subst ho2
      have c3 : wr.cell? ⟨b1, o1, none⟩ = some (.int .u8 (f a : Int)) := by have h := hc2 0 (by omega); simpa using h
      have hpart := rd_part (hi := g) HRW.out hgl (by omega) hnc (if_neg (by omega))
      obtain ⟨R, hR⟩ : ∃ R, R = lstI (fun k => f (k + low)) (f a) (g - low) := ⟨_, rfl⟩
      have hlb := fun (t cc : Nat) => lastb_any (wr.drewN t) B (some (ad.add low)) (g - low) cc (fun k => f (k + low)) (f a) hpart (by omega)
      rw [← hR] at hlb
      have hsp := lstI_spec (fun k => f (k + low)) (f a) (g - low)
      rw [← hR] at hsp
      have HLB := Lib.hid hlb; have HSP := Lib.hid hsp; have HG := Lib.hid hg; have HEL := Lib.hid eL
      have hgi : (low : Int) ≤ (g : Int) := by omega
      have hgc : (g : Int) ≤ (c : Int) := by omega
      clear hlb hsp hpart hc2 hR hg eL
      clear vBa
      gi_wp2
      gi_quiet ((gi_at_call 41; exact CallsIn.quiet_of_same (callsIn_wide.2 (HLB.out _ _))))
      have hjd := HD.out _ _ _ HJ.out ⟨nq, rfl⟩
      have hkd : KpB S W (wr.drewN nq) := HK.out
      have hrv : RdB (wr.drewN nq) B (some ad) n f := HRW.out
      have hbv : RdB (wr.drewN nq) B (some ⟨b1, o1, none⟩) 3 (fun k => f (k + a)) := HBW.out
      have v1 : (wr.drewN nq).cell? ⟨Bb, 0, none⟩ = some (.slice (some ad) n c) := c1
      obtain ⟨V, hV⟩ : ∃ V, V = wr.drewN nq := ⟨_, rfl⟩
      rw [← hV] at hjd hkd hrv hbv v1 ⊢
      have HJV := Lib.hid hjd; have HKV := Lib.hid hkd
      clear hjd hkd hV HJ HK HRW HBW HLB c1 c2 c3
      rcases HSP.out with ⟨rfl, hno⟩ | ⟨m, rfl, hm, hfm, hlast⟩
      · have hnone : ∀ i, j ≤ i → i < L → ¬ okP f n a i := fun i h1 h2 => by
          have hg' := HG.out; have hL' := HEL.out
          have h := hno (a - 1 - i - low) (by omega)
          refine mat_first ?_
          rw [show a - 1 - i = a - 1 - i - low + low by omega]
          exact h
        have hJL := skips HSK.out HJV.out (L - j) (by omega) (fun i h1 h2 => hnone i h1 (by omega))
        rw [show j + (L - j) = L by omega] at hJL
        have HJL := Lib.hid hJL
        clear hno hnone hJL hrv hbv v1
        gi_wp2
        refine bodyPost_ret (results_none rfl _ _ _) rfl ?_
        exact ⟨⟨_, rfl⟩, .inl HJL.out⟩
      · obtain ⟨p, hp⟩ : ∃ p, p = low + m := ⟨_, rfl⟩
        have ep : (low : Int) + (m : Int) = (p : Int) := by omega
        have hpg : p < g := by omega
        have hpn : p < n := by omega
        obtain ⟨js, hjs⟩ : ∃ js, js = a - 1 - p := ⟨_, rfl⟩
        have hjj : j ≤ js ∧ js < L ∧ a - 1 - js = p ∧ a - (js + 1) = p := by
          have hg' := HG.out; have hL' := HEL.out; omega
        have hJs := skips HSK.out HJV.out (js - j) (by omega) (fun i h1 h2 => by
          have hg' := HG.out; have hL' := HEL.out
          refine mat_first ?_
          have h := hlast (a - 1 - i - low) (by omega) (by omega)
          rw [show a - 1 - i = a - 1 - i - low + low by omega]
          exact h)
        rw [show j + (js - j) = js by omega] at hJs
        have hrp := rd_part (hi := n) hrv (show p ≤ n by omega) (Nat.le_refl _) hnc (if_neg (by omega))
        have hhp := hasp_any V B (some (ad.add p)) (some ⟨b1, o1, none⟩) (n - p) (c - p) 3 (c - a) (fun k => f (k + p)) (fun k => f (k + a)) hrp hbv (by omega) (by omega)
        have hlt8 : ∀ k, f k < 256 := HR.out.1
        have hm0 : ¬ (m : Int) < 0 := by omega
        have hpc : (p : Int) ≤ (n : Int) := by omega
        by_cases hpre : ∀ i, i < 3 → f (i + p) = f (i + a)
        · have hok : okP f n a js := by
            unfold okP; rw [hjj.2.2.1, mat3 ha3]
            intro i hi; rw [Nat.add_comm p i, Nat.add_comm a i]; exact hpre i hi
          rw [strL_yes hpre] at hhp
          obtain ⟨fn, tmps, assign, body, hy, hR⟩ := HY.out _ _ hJs hjj.2.1 hok
          have hen : encP a js = #[.int .i64 (p : Int)] := by unfold encP; rw [hjj.2.2.1]
          rw [hen] at hy
          have HHP := Lib.hid hhp; have HRR := Lib.hid hR
          have HJJ := Lib.hid hjj
          clear hhp hR hrp hbv hrv hok hlast hfm hen hJs hpre hlt8 hp hjs hjj
          gi_wp2_with (gi_at_call 42; refine (callsIn_wide.2 HHP.out).mono ?_; rintro e w' ⟨rfl, rfl⟩)
          refine HRR.out.mono ?_
          rintro e W3 (⟨rfl, hJ3, hk3⟩ | ⟨rfl, hX⟩)
          · have HJ3 := Lib.hid hJ3; have HK3 := Lib.hid (HKV.out.tr hk3)
            clear hJ3 hk3
            gi_wp2
            go_roundw
            case rel => exact ⟨js + 1, HJJ.out.2.1, by rw [HJJ.out.2.2.2], HJ3, HK3⟩
            case measure => simp [intOf]; omega
          · have HX := Lib.hid hX
            clear hX
            gi_wp2
            refine bodyPost_ret (results_none rfl _ _ _) rfl ?_
            exact ⟨⟨_, rfl⟩, .inr ⟨js, HJJ.out.2.1, HX.out⟩⟩
        · have hok : ¬ okP f n a js := by
            unfold okP; rw [hjj.2.2.1, mat3 ha3]
            intro h; refine hpre fun i hi => ?_
            have := h i hi
            rw [Nat.add_comm p i, Nat.add_comm a i] at this; exact this
          rw [strL_no (fun k => hlt8 _) (fun k => hlt8 _) hpre] at hhp
          have hJ3 := HSK.out _ _ hJs hjj.2.1 hok
          have HHP := Lib.hid hhp; have HJJ := Lib.hid hjj; have HJ3 := Lib.hid hJ3
          clear hhp hrp hbv hrv hok hlast hfm hJs hpre hlt8 hp hjs hjj hJ3
          gi_wp2_with (gi_at_call 42; refine (callsIn_wide.2 HHP.out).mono ?_; rintro e w' ⟨rfl, rfl⟩)
          all_goals (try refine ⟨(fun f h => by cases h), ?_⟩)
          all_goals (try gi_wp2)
          go_roundw
          case rel => exact ⟨js + 1, HJJ.out.2.1, by rw [HJJ.out.2.2.2], HJ3, HKV⟩
          case measure => simp [intOf]; omega
theorem places1_some (fu : Nat) (hn : 1 ≤ fu) (Bb Ba Bs B : Nat) (A : Option Addr) (n c a z : Nat) (f : Nat → Nat) (S : Nat → Prop) (hS : S Bb ∧ S Ba ∧ S Bs) (hS2 : ∀ k, k < B → S k) (hlen : n ≤ 1000000) (hcm : c ≤ maxLen) (ha : a ≤ n) (hnc : n ≤ c) (hz : z ≤ 1000000)
    (w : World) (hBb : w.cell? ⟨Bb, 0, none⟩ = some (.slice A n c)) (hBa : w.cell? ⟨Ba, 0, none⟩ = some (.int .i64 (a : Int))) (hBs : w.cell? ⟨Bs, 0, none⟩ = some (.int .i64 (z : Int))) (hBw : Bb < w.heap.size ∧ Ba < w.heap.size ∧ Bs < w.heap.size) (hB : B ≤ w.heap.size) (hr : RdB w B A n f) :
    SeqSome Fence.wide fu Try.prog 40 #[.pointer (some ⟨Bb, 0, none⟩), .pointer (some ⟨Ba, 0, none⟩), .pointer (some ⟨Bs, 0, none⟩)] (encP a) (okP f n a) (KpB S) (min z a) w := fun l J Jx W hW hsk hY hd _ h0 =>
  places1_in fu hn l Bb Ba Bs B A n c a z f S hS hS2 hlen hcm ha hnc hz J Jx hsk hY hd W ((hW.cell hBw.1).trans hBb) ((hW.cell hBw.2.1).trans hBa) ((hW.cell hBw.2.2).trans hBs) (hr.below hW hB) h0
set_option maxHeartbeats 1000000 in
theorem places_in (n : Nat) (A : Option Addr) (len cap : Nat) (a z : Nat) (w : World) :
    CallsIn Fence.wide n Try.prog 37 #[.slice A len cap, .int .i64 (a : Int), .int .i64 (z : Int)] w fun e w' => e = .returned (.func (.func 40) #[] #[.pointer (some ⟨w.heap.size, 0, none⟩), .pointer (some ⟨w.heap.size + 1, 0, none⟩), .pointer (some ⟨w.heap.size + 2, 0, none⟩)]) ∧
      w' = ((w.alloc (.cells #[.slice A len cap] 22)).alloc (.cells #[.int .i64 (a : Int)] 3)).alloc (.cells #[.int .i64 (z : Int)] 3) := by
  refine callsIn_of_wp Try.func37 rfl trivial ?_ rfl
  simp only [Try.ntmps37, List.size_toArray, List.length_cons, List.length_nil, Nat.reduceAdd, Nat.reduceSub, Array.replicate_succ, Array.replicate_zero, List.push_toArray, List.append_toArray, List.nil_append, List.cons_append]
  gi_wp2
  go_ret
  exact ⟨rfl, rfl⟩
end Go.Proofs.Ytihfcjehpmiolaa
