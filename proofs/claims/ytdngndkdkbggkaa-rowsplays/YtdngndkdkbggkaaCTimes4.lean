/-
  RowTimes' walk.
-/
import Derived.Test.YtdngndkdkbggkaaCBaseJ
namespace Go.Proofs.Ytdngndkdkbggkaa
open Go.RowKit

end Go.Proofs.Ytdngndkdkbggkaa
