/- RouteTime: the model, and both texts. -/
import Derived.Test.YtdfmfmndmldggaaSumT
namespace Go.Proofs.Ytdfmfmndmldggaa.TimS
open Go.RowKit Lb IntS MapS MapV High Cells StepT StpF SpecB OpnI RtI RtS LtI SumT
set_option linter.unusedSimpArgs false
set_option linter.unusedVariables false

end Go.Proofs.Ytdfmfmndmldggaa.TimS
