/- ours -/
import Derived.Test.YtcngllcifcpbkaaGreatCBaseL
import Derived.Test.YtcngllcifcpbkaaGreatCSsaG
import Derived.Test.YtcngllcifcpbkaaGreatCBaseH
namespace Go.Proofs.YtcngllcifcpbkaaGreat
open Go.RowKit

end Go.Proofs.YtcngllcifcpbkaaGreat
