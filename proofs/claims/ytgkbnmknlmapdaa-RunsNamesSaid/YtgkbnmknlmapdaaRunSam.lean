/-
  Layer 10 (runs): two lists of runs compared (the document's own).
-/
import Derived.Test.YtgkbnmknlmapdaaRunStr
import Derived.Test.YtgkbnmknlmapdaaAfter
import Derived.Laws.StructEq
namespace Go.Proofs.Ytgkbnmknlmapdaa
open Go.RowKit
theorem undRun : Try.prog.underlying 25 = some (.struct (Try.prog.fieldsOf 25)) := by kernel_rfl
theorem heldRun : Try.prog.stoodInHeld 25 = false := by kernel_rfl
theorem guardRun : Try.prog.eqGuardType Try.prog.depth 25 = false := by kernel_rfl
theorem fieldsRun : (Try.prog.fieldsOf 25).toList.map (fun f => (f.type, f.offset, f.name == "_")) = [(3, 0, false), (3, 1, false)] := by kernel_rfl
theorem cellI64 : Try.prog.cellsOf 3 = 1 := by kernel_rfl
theorem run_eq_run (w : World) (r : Int × Int) : (Op.equalIn 10000 25 (.agg (runC r).toArray) (.agg (runC r).toArray)).run Try.prog w = .ok true w := by
  rw [run_equalIn_struct w 9999 _ _ _ undRun heldRun]
  have hf := fieldsRun
  obtain ⟨fs, hfs⟩ : ∃ fs, fs = (Try.prog.fieldsOf 25).toList := ⟨_, rfl⟩
  rw [← hfs] at hf ⊢
  clear hfs
  have hl : fs.length = 2 := by have := congrArg List.length hf; simpa using this
  match fs, hl, hf with
  | [f0, f1], _, hf =>
    simp at hf
    obtain ⟨⟨a1, a2, a3⟩, ⟨b1, b2, b3⟩⟩ := hf
    simp [Op.eqFields, a1, a2, a3, b1, b2, b3, runC, go_sem, Try.underlying3]
theorem run_neq_run (w : World) (r : Int × Int) : (binOp .neq 25 (.agg (runC r).toArray) (.agg (runC r).toArray)).run Try.prog w = .ok (.bool false) w := by
  rw [run_neq_struct, run_eq_run]; rfl
theorem szRunC (r : Int × Int) : (Try.prog.info? 25).map (·.size) = some (runC r).length := szRun
set_option maxRecDepth 100000 in
set_option maxHeartbeats 2000000 in
theorem rsameU_any (w : World) (B : Nat) (A A2 : Option Addr) (c c2 : Nat) (l : List (Int × Int)) (hr : RdU w B A l) (hr2 : RdU w B A2 l) (hn : l.length ≤ 1000000) :
    Calls Try.prog 15 #[.slice A l.length c, .slice A2 l.length c2] w fun e w' => e = .returned (.bool true) ∧ ∃ q, w' = w.drewN q := by
  have HR := Lib.hid hr; have HR2 := Lib.hid hr2
  clear hr hr2
  obtain ⟨n, hln⟩ : ∃ n, n = l.length := ⟨_, rfl⟩
  rw [← hln] at hn ⊢
  have HN := Lib.hid hln
  clear hln
  have hnn : ((n : Int) != (n : Int)) = false := by simp
  go_enter Try.func15, Try.ntmps15
  go_wp2
  go_loopw [5] (fun iv wr => ∃ i : Nat, i ≤ n ∧ iv = .int .i64 (i : Int) ∧ Hid (∃ q, wr = w.drewN q)) (fun iv _ => n - (intOf iv).toNat)
  case atStart => exact ⟨0, Nat.zero_le _, rfl, Lib.hid ⟨0, rfl⟩⟩
  case round =>
    obtain ⟨i, hi, rfl, HD⟩ := hrel
    have h1 : Hid (RdU wr B A l) := Lib.hid (by obtain ⟨q, hq⟩ := HD.out; rw [hq]; exact HR.out)
    have h2 : Hid (RdU wr B A2 l) := Lib.hid (by obtain ⟨q, hq⟩ := HD.out; rw [hq]; exact HR2.out)
    by_cases hlt : i < n
    · have hlti : (i : Int) < (n : Int) := by omega
      have hi0 : (0 : Int) ≤ (i : Int) := by omega
      have hil : i < l.length := by rw [← HN.out]; exact hlt
      obtain ⟨b, o, rfl, _, _⟩ := h1.out.at hil
      obtain ⟨b2, o2, rfl, _, _⟩ := h2.out.at hil
      have r1 := h1.out.range rfl hil
      have r2 := h2.out.range rfl hil
      obtain ⟨t, ht⟩ : ∃ t, t = l.getD i run0 := ⟨_, rfl⟩
      rw [← ht] at r1 r2
      have R1 : Hid (∀ V, (∃ q, V = wr.drewN q) → V.rangeAt b (o + i * 2) (runC t)) := Lib.hid fun V hV => by obtain ⟨q, rfl⟩ := hV; exact r1
      have R2 : Hid (∀ V, (∃ q, V = wr.drewN q) → V.rangeAt b2 (o2 + i * 2) (runC t)) := Lib.hid fun V hV => by obtain ⟨q, rfl⟩ := hV; exact r2
      clear r1 r2 ht hil
      go_wp2
      refine wp_region_quiet_lit (by kernel_rfl) (by kernel_rfl) ?_
      repeat (first
        | (go_big_quiet_want; with_reducible refine quiet_load_row _ _ rfl _ _ rfl _ _ R1.out Try.underlying25 rfl (szRunC t) ?_; go_big_quiet_on; simp only [Act.put, List.setIfInBounds_toArray, List.set_cons_succ, List.set_cons_zero])
        | (go_big_quiet_want; with_reducible refine quiet_load_row _ _ rfl _ _ rfl _ _ R2.out Try.underlying25 rfl (szRunC t) ?_; go_big_quiet_on; simp only [Act.put, List.setIfInBounds_toArray, List.set_cons_succ, List.set_cons_zero])
        | (go_big_quiet_want; with_reducible refine quiet_neq _ _ _ rfl (.agg (runC t).toArray) (.agg (runC t).toArray) false rfl rfl (fun w => run_eqGuard_agg _ _ _ _ _ _ _ guardRun) (fun w => run_neq_run w t) ?_; go_big_quiet_on; simp only [Act.put, List.setIfInBounds_toArray, List.set_cons_succ, List.set_cons_zero])
        | go_big_quiet_step (fail))
      refine wpQuiet_nil ?_
      rintro V ⟨q, rfl⟩
      go_wp2
      go_roundw
      case rel => exact ⟨i + 1, by omega, by go_num, Lib.hid (by obtain ⟨p, hp⟩ := HD.out; exact ⟨p + q, by rw [hp, World.drewN_drewN]⟩)⟩
      case measure => simp [intOf]; omega
    · obtain rfl : i = n := by omega
      have hlti : ¬ (i : Int) < (i : Int) := by omega
      go_wp2
      go_ret
      exact ⟨rfl, HD.out⟩
end Go.Proofs.Ytgkbnmknlmapdaa
