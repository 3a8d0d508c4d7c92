/- The contracts of caps, all of them. No statement is proved here. -/
import Derived.Test.YtpopfmboonjplaaCapPb
import Derived.Test.YtpopfmboonjplaaCapPc
import Derived.Test.YtpopfmboonjplaaCapPd
import Derived.Test.YtpopfmboonjplaaCapPe
namespace Go.Proofs.Ytpopfmboonjplaa
end Go.Proofs.Ytpopfmboonjplaa
