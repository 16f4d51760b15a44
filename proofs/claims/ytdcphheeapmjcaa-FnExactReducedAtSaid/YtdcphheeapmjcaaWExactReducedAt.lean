/-
  THE WALK of the law, whole: it stands in YtdcphheeapmjcaaSra.
-/
import Derived.Test.YtdcphheeapmjcaaSra
