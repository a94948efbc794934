/-
  What the model's FrameEncode stands on, in one name.
-/
import Derived.Test.YtmjpgcbbeacpbaaDoorEnc3
import Derived.Test.YtmjpgcbbeacpbaaDoorCrcLaw
import Derived.Test.YtmjpgcbbeacpbaaDoorRec
import Derived.Test.YtmjpgcbbeacpbaaDoorPut
