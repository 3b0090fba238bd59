/-
  's[i:]' and 's[:i]' of a list of rows by names, as one operation of a drawn region.
-/
import Derived.Test.YtfhdodopjgfedaaGreatCBaseL
import Derived.Test.YtfhdodopjgfedaaGreatCSsaG
import Derived.Test.YtfhdodopjgfedaaGreatCBaseH
namespace Go.Proofs.YtfhdodopjgfedaaGreat
open Go.RowKit

end Go.Proofs.YtfhdodopjgfedaaGreat
