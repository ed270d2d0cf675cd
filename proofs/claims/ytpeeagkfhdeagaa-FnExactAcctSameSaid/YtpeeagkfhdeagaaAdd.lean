/- AddMoney of the program and of the reference return the same two values; the program's error variable holds an error. -/
import Derived.Test.YtpeeagkfhdeagaaMon
import Derived.BigQuiet
import Derived.Deep.QuietTactic
set_option linter.unusedVariables false
namespace Go.Proofs.Ytpeeagkfhdeagaa
open Go.ChangeShapes Go.WideShapes Go.ChangeAt Go.RowKit

/-- the sum of two amounts, where it is one -/
def addOk (a b : Int) : Bool := isMon a && isMon b && decide (a ≤ 4611686018427387904 - b)
def addVal (a b : Int) : Int := if addOk a b = true then a + b else 0

end Go.Proofs.Ytpeeagkfhdeagaa
