/- The contracts of caps, all of them. No statement is proved here. -/
import Derived.Test.YthniimefocjamaaCapPb
import Derived.Test.YthniimefocjamaaCapPc
import Derived.Test.YthniimefocjamaaCapPd
import Derived.Test.YthniimefocjamaaCapPe
namespace Go.Proofs.Ythniimefocjamaa
end Go.Proofs.Ythniimefocjamaa
