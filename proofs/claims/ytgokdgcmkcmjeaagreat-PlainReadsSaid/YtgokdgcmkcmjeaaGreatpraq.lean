/-
  Words and walks.
-/
import Derived.Sort.QuietIn
import Derived.Lib.Bytes
import Derived.Deep.DeepCutAuto
import Derived.BigRegion
import Derived.BigQuiet
import Derived.Lib.SmallJoins
import Derived.Test.YtgokdgcmkcmjeaaGreatpraa
import Derived.Test.YtgokdgcmkcmjeaaGreatprab
import Derived.Test.YtgokdgcmkcmjeaaGreatpral
set_option maxRecDepth 100000
set_option maxHeartbeats 16000000
namespace Go.Proofs.YtgokdgcmkcmjeaaGreat
open Go.RowKit Go.Shelf
attribute [local go_sem] Oper.semAt_some
theorem wide_fn(f:FuncId):Fence.wide.fn f=True:=rfl
attribute [local simp] wide_fn
end Go.Proofs.YtgokdgcmkcmjeaaGreat
