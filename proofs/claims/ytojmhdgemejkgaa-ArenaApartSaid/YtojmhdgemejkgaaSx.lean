/- the executor. -/
import Derived.Test.YtojmhdgemejkgaaSxQ
