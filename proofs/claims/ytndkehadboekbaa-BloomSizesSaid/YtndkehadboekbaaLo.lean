/- The project's own functions, all three. -/
import Derived.Test.YtndkehadboekbaaLo3
