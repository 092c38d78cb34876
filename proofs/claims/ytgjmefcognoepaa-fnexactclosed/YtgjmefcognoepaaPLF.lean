/-
  laws.FnExactFalls answers true, if the program's Falls asks what the reference's does.
-/
import Derived.Test.YtgjmefcognoepaaPG5
namespace Go.Proofs.Ytgjmefcognoepaa.Pr
open Go Go.RowKit Go.Maps Go.WideMaps

end Go.Proofs.Ytgjmefcognoepaa.Pr
