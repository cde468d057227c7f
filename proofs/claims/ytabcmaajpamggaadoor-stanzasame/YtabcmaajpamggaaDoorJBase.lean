/- What all lean on. -/
import Derived.Test.YtabcmaajpamggaaDoorSmall
import Derived.Test.YtabcmaajpamggaaDoorToks
