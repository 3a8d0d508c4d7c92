/- All that the laws of layer heap stand on. No statement is proved here. -/
import Derived.Test.YticfpnhfhhagpaaDoormy
import Derived.Test.YticfpnhfhhagpaaDoormz
import Derived.Test.YticfpnhfhhagpaaDoormo
