/- Package edit: Right, Bytes, Read, and the document's own, in one import. -/
import Derived.Test.YtcggkalnalpchaaEp8
import Derived.Test.YtcggkalnalpchaaEr4
import Derived.Test.YtcggkalnalpchaaErb
