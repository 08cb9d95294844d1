/-
  The program's product of the kind 2: contract.
  Conditions: a space and multivectors of it: rows of known cells with numbers of the prime.
-/
import Derived.Test.YtgfohjfemkmldaaQd30
import Derived.Deep.DeepCutAuto
import Derived.Deep.RegionHeld3
