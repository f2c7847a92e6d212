/- The program's CRC-32 beside the walks of four statements. -/
import Derived.Test.YtknmchpikcnacaaCj
import Derived.Test.YtknmchpikcnacaaCe
