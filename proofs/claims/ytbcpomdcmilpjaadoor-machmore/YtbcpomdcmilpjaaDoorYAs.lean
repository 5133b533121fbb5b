/- Our own: texts joined: As. -/
import Derived.Test.YtbcpomdcmilpjaaDoorYErrs
namespace Go.Proofs.YtbcpomdcmilpjaaDoor
open Go.RowKit Go.Extern.Stop Go.Stop Go.Extern
end Go.Proofs.YtbcpomdcmilpjaaDoor
