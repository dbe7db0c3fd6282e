/-
  Layer 8 (token): the statements' own style, tells and alive.
-/
import Derived.Test.YtihfcjehpmiolaaTokImpl
import Derived.Deep.DeepCutAuto
import Derived.BigRegion
namespace Go.Proofs.Ytihfcjehpmiolaa
open Go.RowKit Go.ChangeShapes Go.WideShapes Go.ChangeAt Go.Joins
set_option maxRecDepth 100000 in
set_option maxHeartbeats 1000000 in
theorem style8_any (w : World) (z : Bool) : Calls Try.prog 11 #[.bool z] w fun e w' => e = .returned (.agg #[.int .i64 32, .int .i64 9, .int .i64 100, .bool z]) ∧ Below w.heap.size w w' := by
  have hb : Try.prog.built 32 [(0, .int .i64 32), (1, .int .i64 9), (2, .int .i64 100), (3, .bool z)] = some #[.int .i64 32, .int .i64 9, .int .i64 100, .bool z] := by kernel_rfl
  go_enter Try.func11, Try.ntmps11
  go_wp2
  obtain ⟨V, hV⟩ : ∃ V, V = w.alloc (.cells #[.int .i64 32, .int .i64 9, .int .i64 100, .bool z] 32) := ⟨_, rfl⟩
  have hp : V.heap[w.heap.size]? = some (.cells #[.int .i64 32, .int .i64 9, .int .i64 100, .bool z] 32 (0, 0)) := by rw [hV]; exact heap_alloc_new w _
  have e0 : V.cell? ⟨w.heap.size, 0, none⟩ = some (.int .i64 32) := (cell_of_row V _ 0 _ _ (0, 0) hp).trans rfl
  have e1 : V.cell? ⟨w.heap.size, 1, none⟩ = some (.int .i64 9) := (cell_of_row V _ 1 _ _ (0, 0) hp).trans rfl
  have e2 : V.cell? ⟨w.heap.size, 2, none⟩ = some (.int .i64 100) := (cell_of_row V _ 2 _ _ (0, 0) hp).trans rfl
  have e3 : V.cell? ⟨w.heap.size, 3, none⟩ = some (.bool z) := (cell_of_row V _ 3 _ _ (0, 0) hp).trans rfl
  have hb1 : Below w.heap.size w V := by rw [hV]; exact (Below.refl _ _).alloc (Nat.le_refl _) _
  rw [← hV]
  exact bodyPost_ret (v := .agg #[.int .i64 32, .int .i64 9, .int .i64 100, .bool z]) (by simp [results, Try.results11, go_sem, e0, e1, e2, e3]) rfl ⟨rfl, hb1⟩
/-- What the statements say of a token. -/
def sayN (t : Tok) : List Nat := if 0 < t.n then [64 + t.n.toNat, 64 + t.d.toNat] else [t.x]
def saysN : List Tok → List Nat
  | [] => []
  | t :: l => sayN t ++ saysN l
theorem saysN_app : ∀ l m, saysN (l ++ m) = saysN l ++ saysN m
  | [], _ => rfl
  | t :: l, m => by simp [saysN, saysN_app l m]
def strL (L : List Nat) : ByteArray := strB L.length (lst L)
theorem strL_eq (L : List Nat) : strL L = ⟨(L.map UInt8.ofNat).toArray⟩ := by
  unfold strL strB strOfNums
  congr 1
  congr 1
  apply List.ext_getElem?
  intro j
  simp [lst]
  rcases Nat.lt_or_ge j L.length with h | h
  · simp [h]
  · simp [h]
theorem strL_app (L M : List Nat) : strL L ++ strL M = strL (L ++ M) := by
  rw [strL_eq, strL_eq, strL_eq]
  apply ByteArray.ext
  simp
theorem strL_size (L : List Nat) : (strL L).size = L.length := by rw [strL_eq]; simp [ByteArray.size]
theorem strL_byte (L : List Nat) (h : ∀ x ∈ L, x < 256) (j : Nat) (hj : j < (strL L).data.size) : ((strL L).data[j].toNat : Nat) = lst L j := by
  have hj2 : j < L.length := by have h2 : (strL L).data.size = L.length := strL_size L; omega
  have e : (strL L).data[j]? = some (UInt8.ofNat (lst L j)) := by
    rw [strL_eq]; simp [lst, hj2]
  rw [Array.getElem?_eq_getElem hj] at e
  injection e with e
  rw [e]
  have := lst_lt h j
  simp; omega
/-- string([]byte{..}) of a new row. -/
theorem str_new (w : World) (L : List Nat) (hL : ∀ x ∈ L, x < 256) (cs : Array Value) (hcs : cs = (bytesL L.length (lst L)).toArray) :
    (convert 22 9 (.slice (some ⟨w.heap.size, 0, none⟩) L.length L.length)).run Try.prog (w.alloc (.cells cs 5)) = .ok (.string (strL L)) (w.alloc (.cells cs 5)) := by
  have h := (row_new w L.length (lst L) cs hcs).rd (lst_lt hL)
  exact run_str h L.length
theorem str_newD (w : World) (L : List Nat) (hL : ∀ x ∈ L, x < 256) (cs : Array Value) (hcs : cs = (bytesL L.length (lst L)).toArray) :
    (convert 22 9 (.slice (some ⟨w.heap.size, 0, none⟩) L.length L.length)).run Try.prog (w.alloc (.cells cs 5)).drew = .ok (.string (strL L)) (w.alloc (.cells cs 5)).drew := by
  have h : RdB (w.alloc (.cells cs 5)).drew _ _ _ _ := (row_new w L.length (lst L) cs hcs).rd (lst_lt hL)
  exact run_str h L.length
/-- []byte(s) -/
theorem strbytes_any (w : World) (T : List Nat) (hT : ∀ x ∈ T, x < 256) (hn : T.length ≤ 1000000) : ∃ c w', (convert 9 22 (.string (strL T))).run Try.prog w = .ok (.slice (some ⟨w.heap.size, 0, none⟩) T.length c) w' ∧ ByR w' w'.heap.size (some ⟨w.heap.size, 0, none⟩) T.length c (lst T) ∧ Below w.heap.size w w' := by
  have hr := run_bytes_of_string (P := Try.prog) w 9 22 5 (strL T) Try.underlying9 Try.underlying22 Try.underlying5
  rw [strL_size] at hr
  have hge := grownCap_ge w T.length 0 5
  have hle := grownCap_le_maxLen w T.length 0 5 (by unfold maxLen; omega)
  obtain ⟨c, hc⟩ : ∃ c, c = grownCap w T.length 0 5 := ⟨_, rfl⟩
  rw [← hc] at hr hge hle
  refine ⟨c, _, hr, ⟨⟨lst_lt hT, fun _ => ⟨w.heap.size, 0, rfl, by simp, fun j hj => ?_⟩⟩, (fun h => by cases h), by omega, by omega⟩, ((Below.refl w.heap.size w).drew.alloc (Nat.le_refl _) _)⟩
  have hrow : (w.drew.alloc (.cells (bytesRow (strL T) c) 5 ((bytesRow (strL T) c).size, (bytesRow (strL T) c).size + 1))).heap[w.heap.size]? = some (.cells (bytesRow (strL T) c) 5 ((bytesRow (strL T) c).size, (bytesRow (strL T) c).size + 1)) := heap_alloc_new w.drew _
  rw [cell_of_row _ _ _ _ _ _ hrow, Nat.zero_add]
  have hjs : j < (strL T).data.size := by have h2 : (strL T).data.size = T.length := strL_size T; omega
  rw [bytesRow_at _ _ _ hjs, strL_byte T hT j hjs]
set_option maxRecDepth 100000 in
set_option maxHeartbeats 4000000 in
theorem tells_yes (w : World) (T M : List Nat) (a : Nat) (z : Bool) (l : List Tok) (hT : ∀ x ∈ T, x < 256) (hn : T.length ≤ 100) (ha : a ≤ 100) (hE : cutE T.length a 32 9 100 = 0) (hl : cutV (lst T) T.length a 32 9 100 z = l) (hs : saysN l = M) (hlim : ∀ t ∈ l, t.x < 256 ∧ 0 ≤ t.n ∧ t.n ≤ 100 ∧ 0 ≤ t.d ∧ t.d ≤ 100) (hln : l.length ≤ 100) :
    Calls Try.prog 12 #[.string (strL T), .int .i64 (a : Int), .bool z, .string (strL M)] w fun e w' => e = .returned (.bool true) ∧ Below w.heap.size w w' := by
  obtain ⟨c, w1, hrun, hby, hb1⟩ := strbytes_any w T hT (by omega)
  obtain ⟨N, hN⟩ : ∃ N, N = T.length := ⟨_, rfl⟩
  have hcu := fun (u : World) (hu : ByR u u.heap.size (some ⟨w.heap.size, 0, none⟩) T.length c (lst T)) => cut8_any u (some ⟨w.heap.size, 0, none⟩) T.length c (lst T) (a : Int) 32 9 100 z hu (by omega) (by omega)
  rw [hE, hl] at hcu
  rw [← hN] at hrun hby hcu
  obtain ⟨ZT, hZT⟩ : ∃ ZT, ZT = strL T := ⟨_, rfl⟩
  obtain ⟨ZM, hZM⟩ : ∃ ZM, ZM = strL M := ⟨_, rfl⟩
  rw [← hZT] at hrun ⊢
  rw [← hZM]
  have HRUN := Lib.hid hrun; have HBY := Lib.hid hby; have HB1 := Lib.hid hb1; have HCU := Lib.hid hcu; have HS := Lib.hid hs; have HLIM := Lib.hid hlim; have HZM := Lib.hid hZM
  have hrun' := hrun
  clear hrun hby hb1 hcu hT hn hE hl hs hlim hZT hN hZM
  go_enter Try.func12, Try.ntmps12
  go_wp2_with fail
  refine (style8_any w1 z).mono ?_
  rintro e w2 ⟨rfl, hb2⟩
  have HB2 := Lib.hid (HB1.out.trans (hb2.mono HB1.out.size))
  have HY2 := Lib.hid ((HBY.out.below hb2 (Nat.le_refl _)).more hb2.size)
  clear hb2 hrun' HRUN HB1 HBY
  go_wp2_with fail
  refine (HCU.out w2 HY2.out).mono ?_
  rintro e w3 ⟨A', n', c', rfl, ht, hb3⟩
  have HB3 := Lib.hid (HB2.out.trans (hb3.mono HB2.out.size)); have HT := Lib.hid ht
  obtain ⟨hnl, _⟩ := ht
  have hn100 : n' ≤ 100 := by omega
  have HNL := Lib.hid hnl
  clear hb3 hnl HB2 HY2 HCU
  go_wp2
  go_loopw [11, 12] (fun sv iv wr => ∃ (i : Nat) (S : ByteArray), i ≤ n' ∧ sv = .string S ∧ iv = .int .i64 (i : Int) ∧ S.size ≤ 2 * i ∧ Hid (S = strL (saysN (l.take i))) ∧ Hid (Below w3.heap.size w3 wr)) (fun _ iv _ => n' - (intOf iv).toNat)
  case atStart => exact ⟨0, ⟨#[]⟩, Nat.zero_le _, rfl, rfl, Nat.le_refl _, Lib.hid rfl, Lib.hid (Below.refl _ _)⟩
  case round =>
    obtain ⟨i, S, hi, rfl, rfl, hSs, HSS, HB⟩ := hrel
    by_cases hlt : i < n'
    · have hlti : (i : Int) < (n' : Int) := by omega
      have hil : i < l.length := by rw [← HNL.out]; exact hlt
      obtain ⟨b, o, rfl, hbl, hc⟩ := (HT.out.2.1.below HB.out (Nat.le_refl _)).at hil
      obtain ⟨c0, c1, c2⟩ := hc i hil
      have hlm := HLIM.out (l.getD i tok0) (by rw [List.getD_eq_getElem?_getD, List.getElem?_eq_getElem hil]; exact List.getElem_mem hil)
      have htk : l.take (i + 1) = l.take i ++ [l.getD i tok0] := by
        rw [List.take_succ_eq_append_getElem hil, List.getD_eq_getElem?_getD, List.getElem?_eq_getElem hil]; rfl
      obtain ⟨t, hte⟩ : ∃ t, t = l.getD i tok0 := ⟨_, rfl⟩
      rw [← hte] at c0 c1 c2 hlm htk
      have hsay : saysN (l.take (i + 1)) = saysN (l.take i) ++ sayN t := by rw [htk, saysN_app]; simp [saysN]
      obtain ⟨tx, td, tn⟩ := t
      obtain ⟨h1, h2, h3, h4, h5⟩ := hlm
      replace c0 : wr.cell? ⟨b, o + i * 3, none⟩ = some (.int .u8 (tx : Int)) := c0
      replace c1 : wr.cell? ⟨b, o + i * 3 + 1, none⟩ = some (.int .i64 td) := c1
      replace c2 : wr.cell? ⟨b, o + i * 3 + 2, none⟩ = some (.int .i64 tn) := c2
      replace h1 : tx < 256 := h1
      replace h2 : 0 ≤ tn := h2
      replace h3 : tn ≤ 100 := h3
      replace h4 : 0 ≤ td := h4
      replace h5 : td ≤ 100 := h5
      have HSAY := Lib.hid hsay
      clear hc htk hte hsay hil
      by_cases hn0 : 0 < tn
      · obtain ⟨p, hp⟩ : ∃ p, p = 64 + tn.toNat := ⟨_, rfl⟩
        obtain ⟨q, hq⟩ : ∃ q, q = 64 + td.toNat := ⟨_, rfl⟩
        have ep : 64 + tn = (p : Int) := by omega
        have eq : 64 + td = (q : Int) := by omega
        have hpb : p < 256 := by omega
        have hqb : q < 256 := by omega
        have hsy : sayN ⟨tx, td, tn⟩ = [p, q] := by unfold sayN; rw [if_pos hn0, ← hp, ← hq]
        have HSY := Lib.hid hsy
        have hcs := str_newD wr [p, q] (fun x hx => by simp at hx; omega) #[.int .u8 (p : Int), .int .u8 (q : Int)] rfl
        replace hcs : (convert 22 9 (.slice (some ⟨wr.heap.size, 0, none⟩) 2 2)).run Try.prog (wr.alloc (.cells #[.int .u8 (p : Int), .int .u8 (q : Int)] 5)).drew = .ok (.string (strL [p, q])) (wr.alloc (.cells #[.int .u8 (p : Int), .int .u8 (q : Int)] 5)).drew := hcs
        obtain ⟨Z, hZ⟩ : ∃ Z, Z = strL [p, q] := ⟨_, rfl⟩
        have hZs : Z.size = 2 := by rw [hZ]; exact strL_size _
        have hst2 : S ++ Z = strL (saysN (l.take (i + 1))) := by rw [HSAY.out, HSY.out, ← strL_app, HSS.out, hZ]
        rw [← hZ] at hcs
        have z3 : ¬ (9223372036854775807 : Int) < (S.size : Int) + (Z.size : Int) := by omega
        have z4 : ¬ 9223372036854775807 < S.size + Z.size := by omega
        have hsz : (S ++ Z).size ≤ 2 * (i + 1) := by rw [ByteArray.size_append]; omega
        have HST2 := Lib.hid hst2
        have HB' : Hid (Below w3.heap.size w3 (wr.alloc (.cells #[.int .u8 (p : Int), .int .u8 (q : Int)] 5)).drew) := Lib.hid (HB.out.alloc HB.out.size _).drew
        clear hp hq hsy hst2 hZ hZs h2 h3 h4 h5 hSs
        go_wp2
        go_region
        go_wp2
        go_roundw
        case rel => exact ⟨i + 1, S ++ Z, by omega, rfl, by go_num, hsz, HST2, HB'⟩
        case measure => simp [intOf]; omega
      · have hsy : sayN ⟨tx, td, tn⟩ = [tx] := by unfold sayN; rw [if_neg hn0]
        have hcs := str_new wr [tx] (fun x hx => by simp at hx; omega) #[.int .u8 (tx : Int)] rfl
        replace hcs : (convert 22 9 (.slice (some ⟨wr.heap.size, 0, none⟩) 1 1)).run Try.prog (wr.alloc (.cells #[.int .u8 (tx : Int)] 5)) = .ok (.string (strL [tx])) (wr.alloc (.cells #[.int .u8 (tx : Int)] 5)) := hcs
        obtain ⟨Z, hZ⟩ : ∃ Z, Z = strL [tx] := ⟨_, rfl⟩
        have hZs : Z.size = 1 := by rw [hZ]; exact strL_size _
        have hst2 : S ++ Z = strL (saysN (l.take (i + 1))) := by rw [HSAY.out, hsy, ← strL_app, HSS.out, hZ]
        rw [← hZ] at hcs
        have z3 : ¬ (9223372036854775807 : Int) < (S.size : Int) + (Z.size : Int) := by omega
        have z4 : ¬ 9223372036854775807 < S.size + Z.size := by omega
        have hsz : (S ++ Z).size ≤ 2 * (i + 1) := by rw [ByteArray.size_append]; omega
        have HST2 := Lib.hid hst2
        have HB' : Hid (Below w3.heap.size w3 (wr.alloc (.cells #[.int .u8 (tx : Int)] 5))) := Lib.hid (HB.out.alloc HB.out.size _)
        clear hsy hst2 hZ hZs h3 h4 h5 hSs
        go_wp2
        go_roundw
        case rel => exact ⟨i + 1, S ++ Z, by omega, rfl, by go_num, hsz, HST2, HB'⟩
        case measure => simp [intOf]; omega
    · obtain rfl : i = n' := by omega
      have hlti : ¬ (i : Int) < (i : Int) := by omega
      have hfin : S = ZM := by rw [HSS.out, HZM.out, List.take_of_length_le (by rw [← HNL.out]; exact Nat.le_refl _), HS.out]
      subst hfin
      go_wp2
      go_ret
      exact ⟨rfl, HB3.out.trans (HB.out.mono HB3.out.size)⟩
theorem tells_0 (w : World) : Calls Try.prog 12 #[.string ⟨#[97, 98, 99, 97, 98, 99, 97, 98]⟩, .int .i64 0, .bool false, .string ⟨#[97, 98, 99, 69, 67]⟩] w fun e w' => e = .returned (.bool true) ∧ Below w.heap.size w w' := by
  have h := tells_yes w [97, 98, 99, 97, 98, 99, 97, 98] [97, 98, 99, 69, 67] 0 false _ (by decide) (by decide) (by decide) (by decide +kernel) rfl (by decide +kernel) (by decide +kernel) (by decide +kernel)
  rw [show strL [97, 98, 99, 97, 98, 99, 97, 98] = ⟨#[97, 98, 99, 97, 98, 99, 97, 98]⟩ from by decide +kernel, show strL [97, 98, 99, 69, 67] = ⟨#[97, 98, 99, 69, 67]⟩ from by decide +kernel] at h
  exact h
theorem tells_1 (w : World) : Calls Try.prog 12 #[.string ⟨#[97, 98, 99, 97, 98, 99]⟩, .int .i64 3, .bool false, .string ⟨#[67, 67]⟩] w fun e w' => e = .returned (.bool true) ∧ Below w.heap.size w w' := by
  have h := tells_yes w [97, 98, 99, 97, 98, 99] [67, 67] 3 false _ (by decide) (by decide) (by decide) (by decide +kernel) rfl (by decide +kernel) (by decide +kernel) (by decide +kernel)
  rw [show strL [97, 98, 99, 97, 98, 99] = ⟨#[97, 98, 99, 97, 98, 99]⟩ from by decide +kernel, show strL [67, 67] = ⟨#[67, 67]⟩ from by decide +kernel] at h
  exact h
theorem tells_2 (w : World) : Calls Try.prog 12 #[.string ⟨#[120, 97, 98, 99, 121, 98, 99, 100, 101, 122, 97, 98, 99, 100, 101]⟩, .int .i64 0, .bool false, .string ⟨#[120, 97, 98, 99, 121, 98, 99, 100, 101, 122, 67, 73, 100, 101]⟩] w fun e w' => e = .returned (.bool true) ∧ Below w.heap.size w w' := by
  have h := tells_yes w [120, 97, 98, 99, 121, 98, 99, 100, 101, 122, 97, 98, 99, 100, 101] [120, 97, 98, 99, 121, 98, 99, 100, 101, 122, 67, 73, 100, 101] 0 false _ (by decide) (by decide) (by decide) (by decide +kernel) rfl (by decide +kernel) (by decide +kernel) (by decide +kernel)
  rw [show strL [120, 97, 98, 99, 121, 98, 99, 100, 101, 122, 97, 98, 99, 100, 101] = ⟨#[120, 97, 98, 99, 121, 98, 99, 100, 101, 122, 97, 98, 99, 100, 101]⟩ from by decide +kernel, show strL [120, 97, 98, 99, 121, 98, 99, 100, 101, 122, 67, 73, 100, 101] = ⟨#[120, 97, 98, 99, 121, 98, 99, 100, 101, 122, 67, 73, 100, 101]⟩ from by decide +kernel] at h
  exact h
theorem tells_3 (w : World) : Calls Try.prog 12 #[.string ⟨#[120, 97, 98, 99, 121, 98, 99, 100, 101, 122, 97, 98, 99, 100, 101]⟩, .int .i64 0, .bool true, .string ⟨#[120, 97, 98, 99, 121, 98, 99, 100, 101, 122, 97, 68, 70]⟩] w fun e w' => e = .returned (.bool true) ∧ Below w.heap.size w w' := by
  have h := tells_yes w [120, 97, 98, 99, 121, 98, 99, 100, 101, 122, 97, 98, 99, 100, 101] [120, 97, 98, 99, 121, 98, 99, 100, 101, 122, 97, 68, 70] 0 true _ (by decide) (by decide) (by decide) (by decide +kernel) rfl (by decide +kernel) (by decide +kernel) (by decide +kernel)
  rw [show strL [120, 97, 98, 99, 121, 98, 99, 100, 101, 122, 97, 98, 99, 100, 101] = ⟨#[120, 97, 98, 99, 121, 98, 99, 100, 101, 122, 97, 98, 99, 100, 101]⟩ from by decide +kernel, show strL [120, 97, 98, 99, 121, 98, 99, 100, 101, 122, 97, 68, 70] = ⟨#[120, 97, 98, 99, 121, 98, 99, 100, 101, 122, 97, 68, 70]⟩ from by decide +kernel] at h
  exact h
set_option maxRecDepth 100000 in
set_option maxHeartbeats 1000000 in
theorem alive8_any (w : World) : Calls Try.prog 13 #[] w fun e w' => e = .returned (.bool true) ∧ Below w.heap.size w w' := by
  have H0 := Lib.hid tells_0; have H1 := Lib.hid tells_1
  go_enter Try.func13, Try.ntmps13
  go_wp2_with fail
  refine (H0.out w).mono ?_
  rintro e w1 ⟨rfl, hb⟩
  have HB1 := Lib.hid hb
  clear hb
  go_wp2_with fail
  refine (H1.out w1).mono ?_
  rintro e w2 ⟨rfl, hb⟩
  have HB2 := Lib.hid (HB1.out.trans (hb.mono HB1.out.size))
  clear hb
  go_wp2
  go_ret
  exact ⟨rfl, HB2.out⟩
end Go.Proofs.Ytihfcjehpmiolaa
