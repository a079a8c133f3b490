/- The laws' own comparison of lists of strings: a contract. -/
import Derived.Test.YtleoljnofdajfaaProg
import Derived.Test.YtleoljnofdajfaaLib
namespace Go.Proofs.Ytleoljnofdajfaa.StrS
open Go.RowKit Lb
set_option linter.unusedSimpArgs false

end Go.Proofs.Ytleoljnofdajfaa.StrS
