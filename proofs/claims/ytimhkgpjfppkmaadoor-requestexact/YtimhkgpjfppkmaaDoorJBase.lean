/- What all lean on. -/
import Derived.Test.YtimhkgpjfppkmaaDoorSmall
import Derived.Test.YtimhkgpjfppkmaaDoorToks

