/-
  No cell of these rows narrows 'for every input' (looked for: loops, veiled, ifaces, maps, wideKeys, modest, calm, conditions, laid).
  DERIVED. THE GIVEN ROWS OF THIS SEAT. 3 by the template 'for every input the law returns true; each argument reads behind the call as it read before'; 0 by the template 'total and deterministic' (their statements: YtcmpmighjglnpaaTotals.lean).
  GIVEN WITH THE SEED: the statements are not yours to turn. If you find one false, say at which input.
  Laid BY PROGRAM, IN A SANDBOX (cutbox-rows.mjs): the forced cells as the released guide's own fill.sh prints them over the translation b6cf606666521e78… (all of the seat's roots in one cut). By AI agents, Wed Nov 11 2026. No macro, syntax, notation, axiom, sorry.
-/
import Derived.Test.YtcmpmighjglnpaaChecked
import GoSem.Claim
import GoSem.ClaimJoined
import GoSem.ClaimMapViews
import Derived.JoinedTies
import Derived.KernelRfl
namespace Go.Proofs.Ytcmpmighjglnpaa
/- THE CELL 'sum', in the pinned program and in every row, IS THE sha256 OF THE DUMP (.gsa) THAT YtcmpmighjglnpaaProg.lean LOADS. Nothing in Lean hashes anything: it is a label: what it is worth is what the hold of that sum in a sandbox is worth. -/
noncomputable def Try.pinned : Pinned := { name := "ytcmpmighjglnpaa", sum := "b6cf606666521e78c090e8c17e2274628af39571440d1483ba7503ab18fd907f", checked := Try.checked }
namespace Rows
def none {H : Type} : Left H := { results := [], args := [] }

/-- 'bellowslaw14.SwellNames': WHATEVER THE INPUT: true; the input reads as it did. -/
def swellNamesSpec : ChangeSpec := { name := "swellNames", fn := fun _ => fun
  | [] => { results := [.lit (.bool true)], args := [] }
  | _ => none }
def swellNamesRow : OpenClaim := { program := "ytcmpmighjglnpaa", sum := "b6cf606666521e78c090e8c17e2274628af39571440d1483ba7503ab18fd907f", func := "bellows/bellowslaw14.SwellNames", spec := "swellNames", unfollowed := true, recurses := true, apart := false }
def SwellNamesSaid : Prop := swellNamesRow.holds Try.pinned (OpenSpec.ofChange swellNamesSpec)

/-- ITS FALSE NEIGHBOUR: 'it returns false'. Refute it at one input. -/
def swellNamesWrong : ChangeSpec := { name := "swellNames", fn := fun _ => fun
  | [] => { results := [.lit (.bool false)], args := [] }
  | _ => none }
def SwellNamesWrongFalsely : Prop := swellNamesRow.holds Try.pinned (OpenSpec.ofChange swellNamesWrong)

/-- 'bellowslaw14.SwellParts': WHATEVER THE INPUT: true; the input reads as it did. -/
def swellPartsSpec : ChangeSpec := { name := "swellParts", fn := fun _ => fun
  | [d1, d2, d3] => { results := [.lit (.bool true)], args := [d1, d2, d3] }
  | _ => none }
def swellPartsRow : OpenClaim := { program := "ytcmpmighjglnpaa", sum := "b6cf606666521e78c090e8c17e2274628af39571440d1483ba7503ab18fd907f", func := "bellows/bellowslaw14.SwellParts", spec := "swellParts", unfollowed := true, recurses := true, apart := false }
def SwellPartsSaid : Prop := swellPartsRow.holds Try.pinned (OpenSpec.ofChange swellPartsSpec)

/-- ITS FALSE NEIGHBOUR: 'it returns false'. Refute it at one input. -/
def swellPartsWrong : ChangeSpec := { name := "swellParts", fn := fun _ => fun
  | [d1, d2, d3] => { results := [.lit (.bool false)], args := [d1, d2, d3] }
  | _ => none }
def SwellPartsWrongFalsely : Prop := swellPartsRow.holds Try.pinned (OpenSpec.ofChange swellPartsWrong)

/-- 'bellowslaw14.SwellKeeps': WHATEVER THE INPUT: true; the input reads as it did. -/
def swellKeepsSpec : ChangeSpec := { name := "swellKeeps", fn := fun _ => fun
  | [d1, d2] => { results := [.lit (.bool true)], args := [d1, d2] }
  | _ => none }
def swellKeepsRow : OpenClaim := { program := "ytcmpmighjglnpaa", sum := "b6cf606666521e78c090e8c17e2274628af39571440d1483ba7503ab18fd907f", func := "bellows/bellowslaw14.SwellKeeps", spec := "swellKeeps", unfollowed := true, recurses := true, apart := false }
def SwellKeepsSaid : Prop := swellKeepsRow.holds Try.pinned (OpenSpec.ofChange swellKeepsSpec)

/-- ITS FALSE NEIGHBOUR: 'it returns false'. Refute it at one input. -/
def swellKeepsWrong : ChangeSpec := { name := "swellKeeps", fn := fun _ => fun
  | [d1, d2] => { results := [.lit (.bool false)], args := [d1, d2] }
  | _ => none }
def SwellKeepsWrongFalsely : Prop := swellKeepsRow.holds Try.pinned (OpenSpec.ofChange swellKeepsWrong)

/- THE SECOND FORM. 'bulk': how many values and letters a reading holds, each counted each time it is reached (what is shared counts as often as it is met; a slice's spare places count too). A statement '..UptoSaid' is the law's where the arguments, and the package variables that the reading takes, are together of bulk at most 1048576: NARROWER than '..Said'. Prove '..Said' where nothing that the law and all that it calls make is longer than what came in: it says more and counts as full. Else prove '..UptoSaid'. A law counts once. -/
mutual
def uptoBulk {H : Type} : DataW H → Nat
  | .lit (.string bytes) => bytes.length + 1
  | .lit _ => 1
  | .nil => 1
  | .ptr d => uptoBulk d + 1
  | .slice elems spare => uptoBulkAll elems + uptoBulkAll spare + 1
  | .agg parts => uptoBulkAll parts + 1
  | .iface _ d => uptoBulk d + 1
  | .map entries => uptoBulkEntries entries + 1
  | .held _ => 1
def uptoBulkAll {H : Type} : List (DataW H) → Nat
  | [] => 0
  | d :: r => uptoBulk d + uptoBulkAll r
def uptoBulkEntries {H : Type} : List (Lit × DataW H) → Nat
  | [] => 0
  | x :: r => uptoBulkEntry x + uptoBulkEntries r
def uptoBulkEntry {H : Type} : Lit × DataW H → Nat
  | (.string bytes, d) => bytes.length + uptoBulk d + 1
  | (_, d) => uptoBulk d + 1
 end
def uptoSmall : (H : Type) → List (DataW H) → Bool := fun _ ds => decide (uptoBulkAll ds ≤ 1048576)
def OpenSpec.upto (s : _root_.Go.ChangeSpec) : _root_.Go.OpenSpec := { _root_.Go.OpenSpec.ofChange s with cond := some uptoSmall }

/-- 'bellowslaw14.SwellNames', WHERE WHAT IT READS IS OF BULK AT MOST 1048576: true; the input reads as it did. -/
def swellNamesUptoRow : OpenClaim := { program := "ytcmpmighjglnpaa", sum := "b6cf606666521e78c090e8c17e2274628af39571440d1483ba7503ab18fd907f", func := "bellows/bellowslaw14.SwellNames", spec := "swellNames", unfollowed := true, recurses := true, apart := false, narrowed := true }
def SwellNamesUptoSaid : Prop := swellNamesUptoRow.holds Try.pinned (OpenSpec.upto swellNamesSpec)

/-- 'bellowslaw14.SwellParts', WHERE WHAT IT READS IS OF BULK AT MOST 1048576: true; the input reads as it did. -/
def swellPartsUptoRow : OpenClaim := { program := "ytcmpmighjglnpaa", sum := "b6cf606666521e78c090e8c17e2274628af39571440d1483ba7503ab18fd907f", func := "bellows/bellowslaw14.SwellParts", spec := "swellParts", unfollowed := true, recurses := true, apart := false, narrowed := true }
def SwellPartsUptoSaid : Prop := swellPartsUptoRow.holds Try.pinned (OpenSpec.upto swellPartsSpec)

/-- 'bellowslaw14.SwellKeeps', WHERE WHAT IT READS IS OF BULK AT MOST 1048576: true; the input reads as it did. -/
def swellKeepsUptoRow : OpenClaim := { program := "ytcmpmighjglnpaa", sum := "b6cf606666521e78c090e8c17e2274628af39571440d1483ba7503ab18fd907f", func := "bellows/bellowslaw14.SwellKeeps", spec := "swellKeeps", unfollowed := true, recurses := true, apart := false, narrowed := true }
def SwellKeepsUptoSaid : Prop := swellKeepsUptoRow.holds Try.pinned (OpenSpec.upto swellKeepsSpec)

end Rows
end Go.Proofs.Ytcmpmighjglnpaa
