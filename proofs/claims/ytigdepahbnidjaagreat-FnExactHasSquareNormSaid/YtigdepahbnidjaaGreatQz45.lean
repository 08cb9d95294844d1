/-
  Decompositions: contracts of the program and of the model.
  Conditions: the lists are nil or rows of known cells, of at most 1048576 numbers.
-/
import Derived.Test.YtigdepahbnidjaaGreatQz37
import Derived.Test.YtigdepahbnidjaaGreatQz38
import Derived.Test.YtigdepahbnidjaaGreatQz42
import Derived.Test.YtigdepahbnidjaaGreatQz44
import Derived.Deep.RegionHeld3
import Derived.Deep.DeepCutAuto
