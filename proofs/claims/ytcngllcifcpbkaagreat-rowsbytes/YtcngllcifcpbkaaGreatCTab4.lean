/- ours -/
import Derived.Test.YtcngllcifcpbkaaGreatCBaseM
namespace Go.Proofs.YtcngllcifcpbkaaGreat
open Go.RowKit

end Go.Proofs.YtcngllcifcpbkaaGreat
