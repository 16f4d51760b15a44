/-
  THE WALK of the law, whole: it stands in YtdcphheeapmjcaaWos.
-/
import Derived.Test.YtdcphheeapmjcaaWos
