/-
  What each function on floats that the layers above call does: one text to import.
-/
import Derived.Test.YtpofalalfemkhaaRef
