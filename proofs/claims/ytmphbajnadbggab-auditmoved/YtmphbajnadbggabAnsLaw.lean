/- SameAnswers (ossuarylaw0): a contract. -/
import Derived.Test.YtmphbajnadbggabAnsMem
import Derived.Test.YtmphbajnadbggabKRegs
import Derived.Deep.Cut
namespace Go.Proofs.Ytmphbajnadbggab
open Go.RowKit
set_option linter.unusedVariables false
set_option linter.unusedSimpArgs false
attribute [local go_sem ↓] Go.wp_at_zero Go.wp_at_succ
end Go.Proofs.Ytmphbajnadbggab
