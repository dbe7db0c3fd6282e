/-
  For every byte slice, place, length and number: the law BitsTakes returns true, and its arguments read as they did. No condition beside the statement's own.
-/
import Derived.Test.YtedjapamimhglaaBitMem
import Derived.ShutString
import Derived.ChangeOld
namespace Go.Proofs.Ytedjapamimhglaa
open Go.RowKit Go.ChangeShapes Go.WideShapes Go.ChangeAt

end Go.Proofs.Ytedjapamimhglaa
