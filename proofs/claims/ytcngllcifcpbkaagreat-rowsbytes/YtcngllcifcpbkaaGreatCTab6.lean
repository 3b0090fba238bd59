/- ours -/
import Derived.Test.YtcngllcifcpbkaaGreatCTab4
import Derived.Test.YtcngllcifcpbkaaGreatCBaseH
import Derived.Test.YtcngllcifcpbkaaGreatCSlF
import Derived.Deep.RegionHeld3
namespace Go.Proofs.YtcngllcifcpbkaaGreat
open Go.RowKit

end Go.Proofs.YtcngllcifcpbkaaGreat
