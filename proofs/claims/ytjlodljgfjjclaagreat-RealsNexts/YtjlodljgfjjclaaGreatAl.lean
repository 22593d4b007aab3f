/-
  Short names for six laws of lists and arrays.
-/
import Derived.Test.YtjlodljgfjjclaaGreatBsA
namespace Go.Proofs.YtjlodljgfjjclaaGreat
end Go.Proofs.YtjlodljgfjjclaaGreat
