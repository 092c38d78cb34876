/-
  Nothing of the shelf here (no strings.Join in this seat).
-/
import Derived.Test.YtngnmfoephegmaaDoorProg
