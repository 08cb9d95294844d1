/-
  What square roots of numbers are, in the program and in the model: contracts of the method root and of the model's helper.
  Conditions: the prime is one, the number is a remainder by it.
-/
import Derived.Test.YtjakckkjkcgcjaaQv17
import Derived.Test.YtjakckkjkcgcjaaQv18
import Derived.Test.YtjakckkjkcgcjaaQv21
import Derived.RegionTactic
import Derived.Deep.RegionHeld3
import Derived.Laws.StructEq
import Derived.Outline
