/- Our own: texts joined: AppInts. -/
import Derived.Test.YtbcpomdcmilpjaaDoorXGrM
import Derived.Test.YtbcpomdcmilpjaaDoorXBaseM
import Derived.OwnWalk
import Derived.Deep.AppendLies
namespace Go.Proofs.YtbcpomdcmilpjaaDoor
open Go.RowKit
end Go.Proofs.YtbcpomdcmilpjaaDoor
