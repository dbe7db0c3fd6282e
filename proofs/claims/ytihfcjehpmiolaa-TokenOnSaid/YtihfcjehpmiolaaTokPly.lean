/-
  Layer 8 (token): a copy's bytes (the document's own).
-/
import Derived.Test.YtihfcjehpmiolaaTokMem
import Derived.Test.YtihfcjehpmiolaaSlideNum
import Derived.Great.BuildSlice
namespace Go.Proofs.Ytihfcjehpmiolaa
open Go.RowKit Go.ChangeShapes Go.WideShapes Go.ChangeAt Go.Joins
theorem own_keep {w w' : World} {base sz n : Nat} {e : TypeId} {v : Value} {xs : List Value} (h : w.ownsRow base e sz v n xs) (hb : Below w.heap.size w w') : w'.ownsRow base e sz v n xs := by
  obtain ⟨h1, h2⟩ := h
  refine ⟨h1, ?_⟩
  rcases h2 with h2 | ⟨g, cap, cur, hv, hg, hh, r⟩
  · exact .inl h2
  · exact .inr ⟨g, cap, cur, hv, hg, (hb.block g (Array.getElem?_eq_some_iff.1 hh).1).trans hh, r⟩
set_option maxRecDepth 100000 in
set_option maxHeartbeats 4000000 in
theorem rcopied_any (w : World) (A : Option Addr) (n c : Nat) (f : Nat → Nat) (d k : Nat) (hr : ByR w w.heap.size A n c f) (hd : 1 ≤ d) (hdn : d ≤ n) (hn : n ≤ 1000000) (hk : k ≤ 1000000) :
    Calls Try.prog 27 #[.slice A n c, .int .i64 (d : Int), .int .i64 (k : Int)] w fun e w' => ∃ A' c', e = .returned (.slice A' k c') ∧ ByR w' w'.heap.size A' k c' (copF n f d) ∧ Below w.heap.size w w' := by
  obtain ⟨A1, c1, w1, hrun, hown, hb1, _⟩ := run_twin w w.heap.size A n c f hr.1 (by omega) 22 hr.2.1
  obtain ⟨G, hG⟩ : ∃ G, G = cat f n (copF n f d) := ⟨_, rfl⟩
  have hG6 : ∀ j, G j < 256 := by rw [hG]; exact cat_lt hr.1.1 (copF_lt hr.1.1)
  have hown' : w1.ownsRow w.heap.size 5 1 (.slice A1 n c1) n (bytesL n G) := by
    rw [← bytesL_ext (f := f) (g := G) (fun j hj => by rw [hG]; unfold cat; rw [if_pos hj])]; exact hown
  have hGa : ∀ i, G (n + i - d) = G (n + i) := fun i => by
    rw [hG, ← cop_ahead hd hdn]
    unfold cat; rw [if_neg (by omega)]; congr 1; omega
  have hF : ∀ j, copF n f d j = G (j + n) := fun j => by rw [hG]; unfold cat; rw [if_neg (by omega)]; congr 1; omega
  have HRUN := Lib.hid hrun; have HOWN := Lib.hid hown'; have HB1 := Lib.hid hb1; have HG6 := Lib.hid hG6; have HGA := Lib.hid hGa; have HF := Lib.hid hF; have HR := Lib.hid hr
  clear hrun hown hown' hb1 hG6 hGa hF hG hr
  go_enter Try.func27, Try.ntmps27
  go_wp2_with (at_builtin; refine wpList_append_run rfl (.const (.slice none 0 0)) (.tmp 9) 22 rfl (.slice none 0 0) (.slice A n c) (.slice A1 n c1) w1 rfl rfl HRUN.out ?_)
  go_loopw [7, 8] (fun ov iv wr => ∃ (i q : Nat) (At : Option Addr) (ct : Nat), i ≤ k ∧ q = n + i ∧ ov = .slice At q ct ∧ iv = .int .i64 (i : Int) ∧ Hid (wr.ownsRow w.heap.size 5 1 (.slice At q ct) q (bytesL q G)) ∧ Hid (Below w.heap.size w wr)) (fun _ iv _ => k - (intOf iv).toNat)
  case atStart => exact ⟨0, n, A1, c1, Nat.zero_le _, rfl, rfl, rfl, HOWN, HB1⟩
  case round =>
    obtain ⟨i, q, At, ct, hi, hq, rfl, rfl, HO, HB⟩ := hrel
    have hby := ByR.of_own HO.out HG6.out
    obtain ⟨b, o, rfl, hbl, hc⟩ := hby.1.2 (by omega)
    by_cases hlt : i < k
    · have hlti : (i : Int) < (k : Int) := by omega
      obtain ⟨p, hp⟩ : ∃ p, p = q - d := ⟨_, rfl⟩
      have ep : (q : Int) - (d : Int) = (p : Int) := by omega
      have x1 := hc p (by omega)
      have hga := HGA.out i
      rw [show n + i - d = p by omega, show n + i = q by omega] at hga
      rw [hga] at x1
      obtain ⟨A', c', w', hr2, ho2, hb2⟩ := run_oneB wr w.heap.size (some ⟨b, o, none⟩) q ct G HG6.out HO.out (G q) rfl (by omega) HB.out.size
      obtain ⟨u, hu⟩ : ∃ u, u = G q := ⟨_, rfl⟩
      rw [← hu] at x1 hr2
      have hpq : p < q := by omega
      have hpi : (p : Int) < (q : Int) := by omega
      have hp0 : (0 : Int) ≤ (p : Int) := by omega
      have hqb : q ≤ 2000000 := by omega
      have HR2 := Lib.hid hr2; have HO2 := Lib.hid ho2; have HB2 := Lib.hid (HB.out.trans hb2)
      have hq1 : q + 1 = n + (i + 1) := by omega
      have HQ1 := Lib.hid hq1
      clear hr2 ho2 hb2 hc hby hga hu hp hq hq1
      go_wp2_with (at_builtin; refine wpList_append_run rfl (.tmp 16) (.tmp 24) 22 rfl (.slice (some ⟨b, o, none⟩) q ct) (.slice (some ⟨wr.heap.size, 0, none⟩) 1 1) (.slice A' (q + 1) c') w' rfl rfl HR2.out ?_)
      go_roundw
      case rel => exact ⟨i + 1, q + 1, A', c', by omega, HQ1.out, rfl, by go_num, HO2, HB2⟩
      case measure => simp [intOf]; omega
    · obtain rfl : i = k := by omega
      have hlti : ¬ (i : Int) < (i : Int) := by omega
      obtain ⟨A2, hA2⟩ : ∃ A2, (if ct = n then (some ⟨b, o, none⟩ : Option Addr) else some ((⟨b, o, none⟩ : Addr).add n)) = A2 := ⟨_, rfl⟩
      have hdr := hby.drop (p := n) (by omega) hA2
      have eqk : q - n = i := by omega
      rw [eqk] at hdr
      have hfin : ByR wr wr.heap.size A2 i (ct - n) (copF n f d) := hdr.ext (copF_lt HR.out.1.1) (fun j hj => (HF.out j).symm)
      have hadd : (⟨b, o, none⟩ : Addr).add n = ⟨b, o + n, none⟩ := by unfold Addr.add; split <;> simp_all
      rw [hadd] at hA2
      have hqc : q ≤ ct := hby.2.2.1
      have hnq : (n : Int) ≤ (q : Int) := by omega
      have HFIN := Lib.hid hfin
      clear hdr hfin hc hby hq hadd
      go_wp2
      go_ret
      exact ⟨A2, ct - n, rfl, HFIN.out, HB.out⟩
end Go.Proofs.Ytihfcjehpmiolaa
