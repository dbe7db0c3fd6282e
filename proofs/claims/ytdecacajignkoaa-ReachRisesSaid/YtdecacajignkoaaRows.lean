/-
  No cell of these rows narrows 'for every input' (looked for: loops, veiled, ifaces, maps, wideKeys, modest, calm, conditions, laid).
  DERIVED. THE GIVEN ROWS OF THIS SEAT. 5 by the template 'for every input the law returns true; each argument reads behind the call as it read before'; 0 by the template 'total and deterministic' (their statements: YtdecacajignkoaaTotals.lean).
  GIVEN WITH THE SEED: the statements are not yours to turn. If you find one false, say at which input.
  Laid BY PROGRAM, IN A SANDBOX (cutbox-rows.mjs): the forced cells as the released guide's own fill.sh prints them over the translation 2653688763d708bc… (all of the seat's roots in one cut). By AI agents, Wed Nov 11 2026. No macro, syntax, notation, axiom, sorry.
-/
import Derived.Test.YtdecacajignkoaaChecked
import GoSem.Claim
import GoSem.ClaimJoined
import GoSem.ClaimMapViews
import Derived.JoinedTies
import Derived.KernelRfl
namespace Go.Proofs.Ytdecacajignkoaa
/- THE CELL 'sum', in the pinned program and in every row, IS THE sha256 OF THE DUMP (.gsa) THAT YtdecacajignkoaaProg.lean LOADS. Nothing in Lean hashes anything: it is a label: what it is worth is what the hold of that sum in a sandbox is worth. -/
noncomputable def Try.pinned : Pinned := { name := "ytdecacajignkoaa", sum := "2653688763d708bc22ec75d4fffd1dc970eb82af985616e736dcad28bce65c3a", checked := Try.checked }
namespace Rows
def none {H : Type} : Left H := { results := [], args := [] }

/-- 'bellowslaw09.ReachNames': WHATEVER THE INPUT: true; the input reads as it did. -/
def reachNamesSpec : ChangeSpec := { name := "reachNames", fn := fun _ => fun
  | [] => { results := [.lit (.bool true)], args := [] }
  | _ => none }
def reachNamesRow : OpenClaim := { program := "ytdecacajignkoaa", sum := "2653688763d708bc22ec75d4fffd1dc970eb82af985616e736dcad28bce65c3a", func := "bellows/bellowslaw09.ReachNames", spec := "reachNames", apart := false }
def ReachNamesSaid : Prop := reachNamesRow.holds Try.pinned (OpenSpec.ofChange reachNamesSpec)

/-- ITS FALSE NEIGHBOUR: 'it returns false'. Refute it at one input. -/
def reachNamesWrong : ChangeSpec := { name := "reachNames", fn := fun _ => fun
  | [] => { results := [.lit (.bool false)], args := [] }
  | _ => none }
def ReachNamesWrongFalsely : Prop := reachNamesRow.holds Try.pinned (OpenSpec.ofChange reachNamesWrong)

/-- 'bellowslaw09.ReachTells': WHATEVER THE INPUT: true; the input reads as it did. -/
def reachTellsSpec : ChangeSpec := { name := "reachTells", fn := fun _ => fun
  | [d] => { results := [.lit (.bool true)], args := [d] }
  | _ => none }
def reachTellsRow : OpenClaim := { program := "ytdecacajignkoaa", sum := "2653688763d708bc22ec75d4fffd1dc970eb82af985616e736dcad28bce65c3a", func := "bellows/bellowslaw09.ReachTells", spec := "reachTells", apart := false }
def ReachTellsSaid : Prop := reachTellsRow.holds Try.pinned (OpenSpec.ofChange reachTellsSpec)

/-- ITS FALSE NEIGHBOUR: 'it returns false'. Refute it at one input. -/
def reachTellsWrong : ChangeSpec := { name := "reachTells", fn := fun _ => fun
  | [d] => { results := [.lit (.bool false)], args := [d] }
  | _ => none }
def ReachTellsWrongFalsely : Prop := reachTellsRow.holds Try.pinned (OpenSpec.ofChange reachTellsWrong)

/-- 'bellowslaw09.ReachOf': WHATEVER THE INPUT: true; the input reads as it did. -/
def reachOfSpec : ChangeSpec := { name := "reachOf", fn := fun _ => fun
  | [d1, d2] => { results := [.lit (.bool true)], args := [d1, d2] }
  | _ => none }
def reachOfRow : OpenClaim := { program := "ytdecacajignkoaa", sum := "2653688763d708bc22ec75d4fffd1dc970eb82af985616e736dcad28bce65c3a", func := "bellows/bellowslaw09.ReachOf", spec := "reachOf", apart := false }
def ReachOfSaid : Prop := reachOfRow.holds Try.pinned (OpenSpec.ofChange reachOfSpec)

/-- ITS FALSE NEIGHBOUR: 'it returns false'. Refute it at one input. -/
def reachOfWrong : ChangeSpec := { name := "reachOf", fn := fun _ => fun
  | [d1, d2] => { results := [.lit (.bool false)], args := [d1, d2] }
  | _ => none }
def ReachOfWrongFalsely : Prop := reachOfRow.holds Try.pinned (OpenSpec.ofChange reachOfWrong)

/-- 'bellowslaw09.ReachBack': WHATEVER THE INPUT: true; the input reads as it did. -/
def reachBackSpec : ChangeSpec := { name := "reachBack", fn := fun _ => fun
  | [d1, d2, d3] => { results := [.lit (.bool true)], args := [d1, d2, d3] }
  | _ => none }
def reachBackRow : OpenClaim := { program := "ytdecacajignkoaa", sum := "2653688763d708bc22ec75d4fffd1dc970eb82af985616e736dcad28bce65c3a", func := "bellows/bellowslaw09.ReachBack", spec := "reachBack", apart := false }
def ReachBackSaid : Prop := reachBackRow.holds Try.pinned (OpenSpec.ofChange reachBackSpec)

/-- ITS FALSE NEIGHBOUR: 'it returns false'. Refute it at one input. -/
def reachBackWrong : ChangeSpec := { name := "reachBack", fn := fun _ => fun
  | [d1, d2, d3] => { results := [.lit (.bool false)], args := [d1, d2, d3] }
  | _ => none }
def ReachBackWrongFalsely : Prop := reachBackRow.holds Try.pinned (OpenSpec.ofChange reachBackWrong)

/-- 'bellowslaw09.ReachRises': WHATEVER THE INPUT: true; the input reads as it did. -/
def reachRisesSpec : ChangeSpec := { name := "reachRises", fn := fun _ => fun
  | [d1, d2] => { results := [.lit (.bool true)], args := [d1, d2] }
  | _ => none }
def reachRisesRow : OpenClaim := { program := "ytdecacajignkoaa", sum := "2653688763d708bc22ec75d4fffd1dc970eb82af985616e736dcad28bce65c3a", func := "bellows/bellowslaw09.ReachRises", spec := "reachRises", apart := false }
def ReachRisesSaid : Prop := reachRisesRow.holds Try.pinned (OpenSpec.ofChange reachRisesSpec)

/-- ITS FALSE NEIGHBOUR: 'it returns false'. Refute it at one input. -/
def reachRisesWrong : ChangeSpec := { name := "reachRises", fn := fun _ => fun
  | [d1, d2] => { results := [.lit (.bool false)], args := [d1, d2] }
  | _ => none }
def ReachRisesWrongFalsely : Prop := reachRisesRow.holds Try.pinned (OpenSpec.ofChange reachRisesWrong)

/- THE SECOND FORM. 'bulk': how many values and letters a reading holds, each counted each time it is reached (what is shared counts as often as it is met; a slice's spare places count too). A statement '..UptoSaid' is the law's where the arguments, and the package variables that the reading takes, are together of bulk at most 1048576: NARROWER than '..Said'. Prove '..Said' where nothing that the law and all that it calls make is longer than what came in: it says more and counts as full. Else prove '..UptoSaid'. A law counts once. -/
mutual
def uptoBulk {H : Type} : DataW H → Nat
  | .lit (.string bytes) => bytes.length + 1
  | .lit _ => 1
  | .nil => 1
  | .ptr d => uptoBulk d + 1
  | .slice elems spare => uptoBulkAll elems + uptoBulkAll spare + 1
  | .agg parts => uptoBulkAll parts + 1
  | .iface _ d => uptoBulk d + 1
  | .map entries => uptoBulkEntries entries + 1
  | .held _ => 1
def uptoBulkAll {H : Type} : List (DataW H) → Nat
  | [] => 0
  | d :: r => uptoBulk d + uptoBulkAll r
def uptoBulkEntries {H : Type} : List (Lit × DataW H) → Nat
  | [] => 0
  | x :: r => uptoBulkEntry x + uptoBulkEntries r
def uptoBulkEntry {H : Type} : Lit × DataW H → Nat
  | (.string bytes, d) => bytes.length + uptoBulk d + 1
  | (_, d) => uptoBulk d + 1
 end
def uptoSmall : (H : Type) → List (DataW H) → Bool := fun _ ds => decide (uptoBulkAll ds ≤ 1048576)
def OpenSpec.upto (s : _root_.Go.ChangeSpec) : _root_.Go.OpenSpec := { _root_.Go.OpenSpec.ofChange s with cond := some uptoSmall }

/-- 'bellowslaw09.ReachNames', WHERE WHAT IT READS IS OF BULK AT MOST 1048576: true; the input reads as it did. -/
def reachNamesUptoRow : OpenClaim := { program := "ytdecacajignkoaa", sum := "2653688763d708bc22ec75d4fffd1dc970eb82af985616e736dcad28bce65c3a", func := "bellows/bellowslaw09.ReachNames", spec := "reachNames", apart := false, narrowed := true }
def ReachNamesUptoSaid : Prop := reachNamesUptoRow.holds Try.pinned (OpenSpec.upto reachNamesSpec)

/-- 'bellowslaw09.ReachTells', WHERE WHAT IT READS IS OF BULK AT MOST 1048576: true; the input reads as it did. -/
def reachTellsUptoRow : OpenClaim := { program := "ytdecacajignkoaa", sum := "2653688763d708bc22ec75d4fffd1dc970eb82af985616e736dcad28bce65c3a", func := "bellows/bellowslaw09.ReachTells", spec := "reachTells", apart := false, narrowed := true }
def ReachTellsUptoSaid : Prop := reachTellsUptoRow.holds Try.pinned (OpenSpec.upto reachTellsSpec)

/-- 'bellowslaw09.ReachOf', WHERE WHAT IT READS IS OF BULK AT MOST 1048576: true; the input reads as it did. -/
def reachOfUptoRow : OpenClaim := { program := "ytdecacajignkoaa", sum := "2653688763d708bc22ec75d4fffd1dc970eb82af985616e736dcad28bce65c3a", func := "bellows/bellowslaw09.ReachOf", spec := "reachOf", apart := false, narrowed := true }
def ReachOfUptoSaid : Prop := reachOfUptoRow.holds Try.pinned (OpenSpec.upto reachOfSpec)

/-- 'bellowslaw09.ReachBack', WHERE WHAT IT READS IS OF BULK AT MOST 1048576: true; the input reads as it did. -/
def reachBackUptoRow : OpenClaim := { program := "ytdecacajignkoaa", sum := "2653688763d708bc22ec75d4fffd1dc970eb82af985616e736dcad28bce65c3a", func := "bellows/bellowslaw09.ReachBack", spec := "reachBack", apart := false, narrowed := true }
def ReachBackUptoSaid : Prop := reachBackUptoRow.holds Try.pinned (OpenSpec.upto reachBackSpec)

/-- 'bellowslaw09.ReachRises', WHERE WHAT IT READS IS OF BULK AT MOST 1048576: true; the input reads as it did. -/
def reachRisesUptoRow : OpenClaim := { program := "ytdecacajignkoaa", sum := "2653688763d708bc22ec75d4fffd1dc970eb82af985616e736dcad28bce65c3a", func := "bellows/bellowslaw09.ReachRises", spec := "reachRises", apart := false, narrowed := true }
def ReachRisesUptoSaid : Prop := reachRisesUptoRow.holds Try.pinned (OpenSpec.upto reachRisesSpec)

end Rows
end Go.Proofs.Ytdecacajignkoaa
