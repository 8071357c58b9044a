/- The document's own audit (ossuaryref1.CheckAudit), whatever it is asked: a contract. -/
import Derived.Test.YtmphbajnadbggabAuditRef3
namespace Go.Proofs.Ytmphbajnadbggab
open Go.RowKit
set_option linter.unusedVariables false
set_option linter.unusedSimpArgs false
end Go.Proofs.Ytmphbajnadbggab
