/- Nothing of this is needed at this program. Nothing of this is needed at this program. -/
import Derived.Test.YtimhkgpjfppkmaaGreatDoorNd5


