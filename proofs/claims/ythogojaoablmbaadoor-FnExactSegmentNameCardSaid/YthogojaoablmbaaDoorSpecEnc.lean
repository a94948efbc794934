/-
  What the model's FrameEncode stands on, in one name.
-/
import Derived.Test.YthogojaoablmbaaDoorEnc3
import Derived.Test.YthogojaoablmbaaDoorCrcLaw
import Derived.Test.YthogojaoablmbaaDoorRec
import Derived.Test.YthogojaoablmbaaDoorPut
