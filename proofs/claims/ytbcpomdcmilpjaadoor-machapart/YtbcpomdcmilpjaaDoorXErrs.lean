/- Our own: texts joined: Errs. -/
import Derived.Test.YtbcpomdcmilpjaaDoorProg
import Derived.WalkKit
import Derived.LaidEql
import Derived.Stop.Asserts
import Derived.RowKitTokens
namespace Go.Proofs.YtbcpomdcmilpjaaDoor
open Go.RowKit Go.Extern.Stop Go.Stop Go.Extern
end Go.Proofs.YtbcpomdcmilpjaaDoor
