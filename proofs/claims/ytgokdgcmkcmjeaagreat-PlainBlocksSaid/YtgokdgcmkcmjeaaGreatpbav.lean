/-
  Words and walks.
-/
import Derived.Test.YtgokdgcmkcmjeaaGreatpbaa
import Derived.Test.YtgokdgcmkcmjeaaGreatpbad
import Derived.Test.YtgokdgcmkcmjeaaGreatpbah
import Derived.Test.YtgokdgcmkcmjeaaGreatpbam
import Derived.Test.YtgokdgcmkcmjeaaGreatpbau
set_option maxRecDepth 100000
set_option maxHeartbeats 16000000
namespace Go.Proofs.YtgokdgcmkcmjeaaGreat
open Go.RowKit
def z5:Array Value:=#[.int .u8 0,.bool false,.int .i64 0,.slice none 0 0,.slice none 0 0]
end Go.Proofs.YtgokdgcmkcmjeaaGreat
