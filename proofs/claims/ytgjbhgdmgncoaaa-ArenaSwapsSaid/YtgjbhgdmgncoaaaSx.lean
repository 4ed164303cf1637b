/- the executor. -/
import Derived.Test.YtgjbhgdmgncoaaaSxQ
