/-
  What the model's FrameEncode stands on, in one name.
-/
import Derived.Test.YteacgefklafofaaDoorEnc2
import Derived.Test.YteacgefklafofaaDoorTabLaid
import Derived.Test.YteacgefklafofaaDoorCrcLaw
import Derived.Test.YteacgefklafofaaDoorBytes2
import Derived.Test.YteacgefklafofaaDoorPut
