/- The contracts of caps, all of them. No statement is proved here. -/
import Derived.Test.YtikgeombccoahaaCapPb
import Derived.Test.YtikgeombccoahaaCapPc
import Derived.Test.YtikgeombccoahaaCapPd
import Derived.Test.YtikgeombccoahaaCapPe
namespace Go.Proofs.Ytikgeombccoahaa
end Go.Proofs.Ytikgeombccoahaa
