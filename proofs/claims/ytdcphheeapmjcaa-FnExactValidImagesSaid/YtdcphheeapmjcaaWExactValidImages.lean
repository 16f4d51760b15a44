/-
  THE WALK of the law lies in Imv.
-/
import Derived.Test.YtdcphheeapmjcaaImv
