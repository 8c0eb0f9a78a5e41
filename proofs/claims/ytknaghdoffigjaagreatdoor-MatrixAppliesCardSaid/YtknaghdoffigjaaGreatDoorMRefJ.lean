import Derived.Test.YtknaghdoffigjaaGreatDoorMRefP
set_option linter.unusedSimpArgs false
set_option linter.unusedVariables false
set_option linter.unnecessarySimpa false
namespace Go.Proofs.YtknaghdoffigjaaGreatDoor
open Go.RowKit Go
attribute [local go_sem] Oper.semAt_some
end Go.Proofs.YtknaghdoffigjaaGreatDoor
