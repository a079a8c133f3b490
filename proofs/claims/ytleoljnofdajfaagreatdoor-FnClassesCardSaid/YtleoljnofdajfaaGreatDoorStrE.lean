/- The laws' own comparison of lists of strings: a contract. -/
import Derived.Test.YtleoljnofdajfaaGreatDoorProg
import Derived.Test.YtleoljnofdajfaaGreatDoorLib
namespace Go.Proofs.YtleoljnofdajfaaGreatDoor.StrS
open Go.RowKit Lb
set_option linter.unusedSimpArgs false

end Go.Proofs.YtleoljnofdajfaaGreatDoor.StrS
