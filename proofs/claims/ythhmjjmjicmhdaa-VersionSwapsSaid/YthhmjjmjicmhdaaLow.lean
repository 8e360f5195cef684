/- The texts of the bytes' two halves, under one name. -/
import Derived.Test.YthhmjjmjicmhdaaByt
import Derived.Test.YthhmjjmjicmhdaaLowb
