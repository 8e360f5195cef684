/- The texts of the bytes' two halves, under one name. -/
import Derived.Test.YtcggkalnalpchaaByt
import Derived.Test.YtcggkalnalpchaaLowb
