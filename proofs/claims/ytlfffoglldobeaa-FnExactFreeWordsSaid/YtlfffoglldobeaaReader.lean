/- WordValid, the program's and the model's: the plain test of the bytes; nothing that was there changes. Condition: the text is no longer than a length. An automaton that is to read a word, as the program's machine, and whether both are valid; in new memory; nothing that was there changes. Condition: the text is no longer than a length. -/
import Derived.Test.YtlfffoglldobeaaWordT
import Derived.Test.YtlfffoglldobeaaShelf
import Derived.Shelf.Strings.SlTrimAscii
import Derived.Test.YtlfffoglldobeaaMach2
namespace Go.Proofs.Ytlfffoglldobeaa
open Go.RowKit Go.Shelf
set_option maxHeartbeats 1000000
set_option maxRecDepth 100000
set_option linter.unusedVariables false

end Go.Proofs.Ytlfffoglldobeaa
namespace Go.Proofs.Ytlfffoglldobeaa
open Go.RowKit
set_option maxHeartbeats 4000000
set_option maxRecDepth 100000
set_option linter.unusedVariables false

end Go.Proofs.Ytlfffoglldobeaa
