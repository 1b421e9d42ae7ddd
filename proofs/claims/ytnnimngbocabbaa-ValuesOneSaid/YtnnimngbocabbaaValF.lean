/-
  WHAT IS PROVED: contracts of AND, OR, and of what is joined; Truth; NOT.
-/
import Derived.Test.YtnnimngbocabbaaValE
namespace Go.Proofs.Ytnnimngbocabbaa
open Go.RowKit Go.Lib

end Go.Proofs.Ytnnimngbocabbaa