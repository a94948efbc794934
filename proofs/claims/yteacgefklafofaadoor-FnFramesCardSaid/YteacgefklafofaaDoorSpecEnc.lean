/-
  What the model's FrameEncode stands on, in one name.
-/
import Derived.Test.YteacgefklafofaaDoorEnc3
import Derived.Test.YteacgefklafofaaDoorCrcLaw
import Derived.Test.YteacgefklafofaaDoorRec
import Derived.Test.YteacgefklafofaaDoorPut
