/- A device below, while another one above it goes on. -/
import Derived.Test.YtofgphiamllmdaaMix
namespace Go.Proofs.Ytofgphiamllmdaa
open Go.RowKit

theorem Dev.low {w w' : World} {n₀ p bs bn N : Nat} {pv : Value} {size : Int} {G0 G1 : Int → List Int} {L : List (Int × List Int)} {left : Int} {dead : Bool} (D : Dev w n₀ p bs bn pv size G0 G1 L left dead) (hB : Below N w w') (h1 : p < N) (h2 : bs < N) (h3 : bn < N) (h4 : ∀ g, pv.ownBlock = some g → g < N) : Dev w' n₀ p bs bn pv size G0 G1 L left dead :=
  ⟨(hB.block _ h1).trans D.obj, D.safe.same (hB.block _ h2), D.now.same (hB.block _ h3), own_same D.pend (fun g hg => hB.block g (h4 g hg)), D.secs, D.ne, D.fromP, D.fromS, D.fromN⟩
theorem full_8 (w : World) (c : Int) : Calls Try.prog 10 #[.int .i64 8, .int .u8 c] w fun e w' => ∃ b, e = .returned (.slice (some ⟨b, 0, none⟩) 1024 1024) ∧ Row8 w' b (sv 1024 c) ∧ Below w.heap.size w w' := by
  refine (full_row w 8 c (by decide)).mono ?_
  rintro e w' ⟨b, rfl, _, hb, hg⟩
  exact ⟨b, rfl, hb, hg⟩
theorem write_8 {w : World} {n₀ p bs bn b : Nat} {pv : Value} {G0 G1 : Int → List Int} {L : List (Int × List Int)} (h : Dev w n₀ p bs bn pv 8 G0 G1 L 0 false) (c : Int) (hc0 : 0 ≤ c) (hc1 : c < 256) (hb : Row8 w b (sv 1024 c)) (hL : L.length ≤ 999990000) :
    Calls Try.prog 9 #[.pointer (some ⟨p, 0, none⟩), .int .i64 0, .slice (some ⟨b, 0, none⟩) 1024 1024] w fun e w' => e = .returned (.int .i64 0) ∧ ∃ pv', Fr p bs bn w pv w' pv' := by
  refine Calls.mono (act_write h 0 c (by decide) 8 (by decide) (by decide) hc0 hc1 hb hL) ?_
  rintro e w' ⟨rfl, pv', _, F⟩
  exact ⟨rfl, pv', F⟩
end Go.Proofs.Ytofgphiamllmdaa
