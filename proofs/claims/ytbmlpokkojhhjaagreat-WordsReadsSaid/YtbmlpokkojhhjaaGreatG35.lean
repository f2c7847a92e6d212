/- The program's words: what the walks ask of them. -/
import Derived.Test.YtbmlpokkojhhjaaGreatG26
import Derived.Test.YtbmlpokkojhhjaaGreatG27
import Derived.Test.YtbmlpokkojhhjaaGreatG31
import Derived.Test.YtbmlpokkojhhjaaGreatG34
import Derived.Test.YtbmlpokkojhhjaaGreatG23
namespace Go.Proofs.YtbmlpokkojhhjaaGreat
open Go.RowKit
theorem words : WordsK where
  mayC := Wz.pmayc15
  cmd := Wz.pcmd15
  rdC := fun A n cap bs w h hy ha hn => Wz.prdc15 A n cap bs w h hy ha hn
  mayR := Wz.pmayr15
  rep := Wz.prep15
  rdR := fun A n cap bs w h hy ha hn => Wz.prdr15 A n cap bs w h hy ha hn
  same := fun v u r s w vo vi ro uo ui so => Wz.psame15 v u r s w vo vi ro uo ui so
end Go.Proofs.YtbmlpokkojhhjaaGreat
