/- The laws' own comparison of lists of strings: a contract. -/
import Derived.Test.YtnenaponiahalaaProg
import Derived.Test.YtnenaponiahalaaLib
namespace Go.Proofs.Ytnenaponiahalaa.StrS
open Go.RowKit Lb
set_option linter.unusedSimpArgs false

end Go.Proofs.Ytnenaponiahalaa.StrS
