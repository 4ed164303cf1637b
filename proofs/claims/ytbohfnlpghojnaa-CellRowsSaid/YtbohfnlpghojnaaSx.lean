/- the executor. -/
import Derived.Test.YtbohfnlpghojnaaSxZb
