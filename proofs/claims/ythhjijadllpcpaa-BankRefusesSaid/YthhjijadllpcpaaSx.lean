/- the executor. -/
import Derived.Test.YthhjijadllpcpaaSyG
