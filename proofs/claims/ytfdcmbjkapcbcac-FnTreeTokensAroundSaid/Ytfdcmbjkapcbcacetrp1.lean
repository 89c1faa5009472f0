import Derived.Test.Ytfdcmbjkapcbcacetrp0
open Go Go.Ab
set_option maxRecDepth 100000
set_option linter.unusedVariables false
set_option linter.unusedSimpArgs false
