/- The contracts of caps, all of them. No statement is proved here. -/
import Derived.Test.YtdidnipmbedbjaaCapPb
import Derived.Test.YtdidnipmbedbjaaCapPc
import Derived.Test.YtdidnipmbedbjaaCapPd
import Derived.Test.YtdidnipmbedbjaaCapPe
namespace Go.Proofs.Ytdidnipmbedbjaa
end Go.Proofs.Ytdidnipmbedbjaa
