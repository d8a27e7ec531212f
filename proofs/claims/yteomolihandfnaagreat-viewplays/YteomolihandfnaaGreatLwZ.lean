/- The law ViewPlays: all arms. -/
import Derived.Test.YteomolihandfnaaGreatLwN
import Derived.Test.YteomolihandfnaaGreatLwKd
import Derived.Test.YteomolihandfnaaGreatLwR
namespace Go.Proofs.YteomolihandfnaaGreat
open Go.RowKit
set_option maxRecDepth 100000
theorem armF : skel.1 := skelK.2.2.2.2.2.2.2.2 ⟨arma⟩ ⟨armb⟩ ⟨armc⟩ ⟨armd⟩ ⟨arme⟩ ⟨armf⟩ ⟨armg⟩ ⟨armh⟩
theorem viewPlays_true {w : World} {la : Option Addr} {ln lc : Nat} {ls : List Rm} (hl : IsRs w la ln lc ls) {aa : Option Addr} {an ac : Nat} {as_ : List Ac} (has : IsAs w aa an ac as_) :
    Calls Tryz.prog 3 #[.slice la ln lc, .slice aa an ac] w fun e w' => e = .returned (.bool true) ∧ Below w.heap.size w w' := skel.2.2.2 ⟨armF⟩ ⟨armN⟩ ⟨armR⟩ w la ln lc ls hl aa an ac as_ has
end Go.Proofs.YteomolihandfnaaGreat
