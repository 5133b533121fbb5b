/- Our own: texts joined: As. -/
import Derived.Test.YtbcpomdcmilpjaaDoorXErrs
namespace Go.Proofs.YtbcpomdcmilpjaaDoor
open Go.RowKit Go.Extern.Stop Go.Stop Go.Extern
end Go.Proofs.YtbcpomdcmilpjaaDoor
