/- The law TablePlays: all arms. -/
import Derived.Test.YtajdelinfkodbaaLtKa
import Derived.Test.YtajdelinfkodbaaLtKb
import Derived.Test.YtajdelinfkodbaaLtN
import Derived.Test.YtajdelinfkodbaaLtR
namespace Go.Proofs.Ytajdelinfkodbaa
open Go.RowKit
set_option maxRecDepth 100000
theorem armF : skel.1 := skelK.2.2.2.2 ⟨arma⟩ ⟨armb⟩ ⟨armc⟩ ⟨armd⟩
theorem tablePlays_true {w : World} {aa : Option Addr} {an ac : Nat} {as_ : List Ac} (has : IsAs w aa an ac as_) :
    Calls Try.prog 3 #[.slice aa an ac] w fun e w' => e = .returned (.bool true) ∧ Below w.heap.size w w' := skel.2.2.2 ⟨armF⟩ ⟨armN⟩ ⟨armR⟩ w aa an ac as_ has
end Go.Proofs.Ytajdelinfkodbaa
