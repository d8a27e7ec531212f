/- What the walks of DiskAll, DiskCopies and DiskSafe share. -/
import Derived.Test.YtofgphiamllmdaaActs
import Derived.Test.YtofgphiamllmdaaCopy
import Derived.Test.YtofgphiamllmdaaFlush
import Derived.Test.YtofgphiamllmdaaFailsA
namespace Go.Proofs.Ytofgphiamllmdaa
open Go.RowKit

theorem appl_append (G : Int → List Int) (L M : List (Int × List Int)) : appl (appl G L) M = appl G (L ++ M) := by simp [appl]
theorem keptL_nil (ks : List Bool) : keptL [] ks = [] := rfl
theorem Bools.below {w w' : World} {a : Option Addr} {n : Nat} {ks : List Bool} (h : Bools w a n ks) (hb : ∀ b off, a = some ⟨b, off, none⟩ → 0 < n → b < w.heap.size) (hB : Below w.heap.size w w') : Bools w' a n ks :=
  ⟨h.1, fun h0 => by
    obtain ⟨b, off, e, hc⟩ := h.2 h0
    exact ⟨b, off, e, fun i hi => (World.cell?_of_block (hB.block b (hb b off e h0))).trans (hc i hi)⟩⟩
theorem own_below {w w' : World} {B e sz n : Nat} {v : Value} {xs : List Value} (h : w.ownsRow B e sz v n xs) (hB : Below w.heap.size w w') : w'.ownsRow B e sz v n xs :=
  own_same h (fun g hg => hB.block g (by obtain ⟨_, _, hh⟩ := own_block h hg; exact lt_of_block hh))
theorem Dev.below {w w' : World} {n₀ p bs bn : Nat} {pv : Value} {size : Int} {G0 G1 : Int → List Int} {L : List (Int × List Int)} {left : Int} {dead : Bool} (h : Dev w n₀ p bs bn pv size G0 G1 L left dead) (hB : Below w.heap.size w w') : Dev w' n₀ p bs bn pv size G0 G1 L left dead :=
  h.same (fun i hi => hB.block i hi)
/-- Read's answer as a row. -/
theorem read_8 {w : World} {n₀ p bs bn : Nat} {pv : Value} {G0 G1 : Int → List Int} {L : List (Int × List Int)} {left : Int} (h : Dev w n₀ p bs bn pv 8 G0 G1 L left false) :
    Calls Try.prog 13 #[.pointer (some ⟨p, 0, none⟩), .int .i64 0, .int .i64 8] w fun e w' => ∃ b, e = .returned (.tuple #[.slice (some ⟨b, 0, none⟩) 1024 1024, .int .i64 0]) ∧ w.heap.size ≤ b ∧ Row8 w' b (catS G1 0 8) ∧ Below w.heap.size w w' := by
  refine (Read_some h (by decide) (by decide) 0 8 (by decide) (by decide)).mono ?_
  rintro e w' ⟨rfl, hR, hg⟩
  exact ⟨_, rfl, Nat.le_refl _, hR, below_of hg⟩
theorem cat8_len {w : World} {n₀ p bs bn : Nat} {pv : Value} {G0 G1 : Int → List Int} {L : List (Int × List Int)} {left : Int} {dead : Bool} (h : Dev w n₀ p bs bn pv 8 G0 G1 L left dead) : (catS G1 0 8).length = 1024 := catS_len (fun k => h.now.isSec k) 0 8
end Go.Proofs.Ytofgphiamllmdaa
