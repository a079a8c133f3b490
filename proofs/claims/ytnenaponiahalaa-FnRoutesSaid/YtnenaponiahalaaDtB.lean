/- DetourTime: both texts. -/
import Derived.Test.YtnenaponiahalaaDtS
namespace Go.Proofs.Ytnenaponiahalaa.DtB
open Go.RowKit Lb IntS MapS MapV High Cells StepT StpF SpecB DjkB OpnI TmsI LtI
set_option linter.unusedSimpArgs false
set_option linter.unusedVariables false

end Go.Proofs.Ytnenaponiahalaa.DtB
