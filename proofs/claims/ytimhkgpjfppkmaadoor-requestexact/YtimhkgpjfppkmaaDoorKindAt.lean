/- The kind of a token at a place. -/
import Derived.Test.YtimhkgpjfppkmaaDoorToks
namespace Go.Proofs.YtimhkgpjfppkmaaDoor
open Go.RowKit

end Go.Proofs.YtimhkgpjfppkmaaDoor
