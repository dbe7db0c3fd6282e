/-
  Layer 5 (tree): what tree.Grow, Check, Next and Same answer, for every argument (over the landed code).
-/
import Derived.Test.YtedjapamimhglaaImpTGr
import Derived.Test.YtedjapamimhglaaImpNxt
import Derived.Test.YtedjapamimhglaaImpTSm
