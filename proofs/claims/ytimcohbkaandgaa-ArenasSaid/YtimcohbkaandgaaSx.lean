/- the executor. -/
import Derived.Test.YtimcohbkaandgaaSxQ
