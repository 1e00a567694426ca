/- The document's own answers for paths: a path of parts; texts that are the same; under. -/
import Derived.Test.YtnmlknhomhonaaaDoorPathRefParts
import Derived.BigQuiet
namespace Go.Proofs.YtnmlknhomhonaaaDoor.Path
open Go.RowKit

end Go.Proofs.YtnmlknhomhonaaaDoor.Path
