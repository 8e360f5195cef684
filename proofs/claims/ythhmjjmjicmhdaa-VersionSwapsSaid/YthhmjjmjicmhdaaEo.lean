/- Package edit: Right, Bytes, Read, and the document's own, in one import. -/
import Derived.Test.YthhmjjmjicmhdaaEp8
import Derived.Test.YthhmjjmjicmhdaaEr4
import Derived.Test.YthhmjjmjicmhdaaErb
