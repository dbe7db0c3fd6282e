/-
  Words and walks.
-/
import Derived.Deep.DeepCutAuto
import Derived.Deep.RegionWith
import Derived.BigRegion
import Derived.Test.YtgokdgcmkcmjeaaGreatpran
set_option maxRecDepth 100000
set_option maxHeartbeats 16000000
namespace Go.Proofs.YtgokdgcmkcmjeaaGreat
open Go.RowKit Go.ChangeShapes Go.WideShapes Go.ChangeAt Go.Joins
theorem runRange{w:World}{X:Nat}{s x:Int}(h0:w.cell? ⟨X,0,none⟩=some (.int .i64 s))(h1:w.cell? ⟨X,1,none⟩=some (.int .i64 x)):w.rangeAt X 0 (runC (s,x)):=by
 intro i v hv
 rcases i with _|_|i
 ·simp[runC]at hv;subst hv;exact h0
 ·simp[runC]at hv;subst hv;exact h1
 ·simp[runC]at hv
end Go.Proofs.YtgokdgcmkcmjeaaGreat
