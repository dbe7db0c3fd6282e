/-
  Words and walks.
-/
import Derived.Test.Ytcmpmighjglnpaasaac
import Derived.Test.Ytcmpmighjglnpaasaad
import Derived.Test.Ytcmpmighjglnpaasaag
import Derived.Test.Ytcmpmighjglnpaasaak
import Derived.Test.Ytcmpmighjglnpaasaam
set_option maxRecDepth 100000
set_option maxHeartbeats 16000000
namespace Go.Proofs.Ytcmpmighjglnpaa
open Go.RowKit
def z5:Array Value:=#[.int .u8 0,.bool false,.int .i64 0,.slice none 0 0,.slice none 0 0]
end Go.Proofs.Ytcmpmighjglnpaa
