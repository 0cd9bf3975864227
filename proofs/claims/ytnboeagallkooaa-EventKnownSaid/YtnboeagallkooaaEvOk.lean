/-
  The landed Check, Put and Get keep the document.
-/
import Derived.Test.YtnboeagallkooaaEvOk1
import Derived.Test.YtnboeagallkooaaEvOk2
import Derived.Test.YtnboeagallkooaaEvOk3
