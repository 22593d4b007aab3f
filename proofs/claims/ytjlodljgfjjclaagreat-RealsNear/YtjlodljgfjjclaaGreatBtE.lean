/-
  Put together of: Rd1, RdP, RtoP, Rd2, Rd3.
-/
import Derived.Test.YtjlodljgfjjclaaGreatBsM
import Derived.Laws.EntriesVeiled
import Derived.Shelf.Abstract
import Derived.Test.YtjlodljgfjjclaaGreatBtD
import Derived.Test.YtjlodljgfjjclaaGreatRt3
import Derived.Test.YtjlodljgfjjclaaGreatAl
namespace Go.Proofs.YtjlodljgfjjclaaGreat
open Go.RowKit Go.Shelf
set_option linter.unusedVariables false

end Go.Proofs.YtjlodljgfjjclaaGreat

namespace Go.Proofs.YtjlodljgfjjclaaGreat
open Go.RowKit Go.Shelf
set_option linter.unusedVariables false

end Go.Proofs.YtjlodljgfjjclaaGreat

namespace Go.Proofs.YtjlodljgfjjclaaGreat
open Go.RowKit Go.Shelf
set_option linter.unusedVariables false

end Go.Proofs.YtjlodljgfjjclaaGreat

namespace Go.Proofs.YtjlodljgfjjclaaGreat
open Go.RowKit Go.Shelf
set_option linter.unusedVariables false

end Go.Proofs.YtjlodljgfjjclaaGreat

namespace Go.Proofs.YtjlodljgfjjclaaGreat
open Go.RowKit Go.Shelf
set_option linter.unusedVariables false

end Go.Proofs.YtjlodljgfjjclaaGreat
