/- Decimal: Div. -/
import Derived.Test.YthnpbkplcboejaaDoorDs
set_option linter.unusedSimpArgs false
set_option linter.unusedVariables false
namespace Go.Proofs.YthnpbkplcboejaaDoor
open Go.RowKit Go.Shelf Go.Lib Go.Sort
namespace Dc
def divS (a b : V) (sc : Nat) : R := mk (a.neg != b.neg) (a.n * 10 ^ (sc + b.s - a.s) / (b.n * 10 ^ (a.s - (sc + b.s)))) sc
end Dc
end Go.Proofs.YthnpbkplcboejaaDoor
