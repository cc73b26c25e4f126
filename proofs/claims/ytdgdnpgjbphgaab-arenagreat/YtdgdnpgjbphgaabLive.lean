/- What the roots lead to; how many words that is. -/
import Derived.Test.YtdgdnpgjbphgaabLaid
namespace Go.Proofs.Ytdgdnpgjbphgaab
set_option linter.unusedVariables false


end Go.Proofs.Ytdgdnpgjbphgaab
