/-
  What the walks over lists of entries stand on.
-/
import Derived.WalkKit
import Derived.OwnWalk
import Derived.WalkSpells
import Derived.WalkLawsBesides
import Derived.Laws.Pointers
import Derived.Deep.QuietTactic
import Derived.BigQuiet
import Derived.Outline
import Derived.Below
import Derived.Lib.QuietBelow
import Derived.Test.YtkjpmngohocmlabGreatProg
import Derived.Test.YtkjpmngohocmlabGreatHPk01

