/- Slots: Torn. -/
import Derived.Test.YtnbemfddcjhcaaaS16
namespace Go.Proofs.Ytnbemfddcjhcaaa
open Go.RowKit Go.Shelf

/-- The device behind Torn. -/
def tornD (d : Dv) (l : List UInt8) (wri : Int) (sv : List Bool) : Dv := settled (putT d (1 - (theL d).slot) (theL d).turn l wri) (svOf sv)
end Go.Proofs.Ytnbemfddcjhcaaa
