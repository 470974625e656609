/- Rows of events beside the memory of a run. -/
import Derived.Test.YtgfagdjadmpklaaRmB
namespace Go.Proofs.Ytgfagdjadmpklaa
open Go.RowKit
set_option linter.unusedVariables false

/-- Rows of events. -/
abbrev RowEv (w : World) (base : Nat) (v : Value) (es : List (Int × Int)) : Prop := RowG 92 2 (fun (x : Int × Int) (_ : Unit) => [.int .i64 x.1, .int .i64 x.2]) (fun _ _ _ _ => True) w base v es

end Go.Proofs.Ytgfagdjadmpklaa
