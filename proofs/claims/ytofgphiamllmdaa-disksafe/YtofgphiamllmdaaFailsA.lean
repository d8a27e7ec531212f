/- Writes and crashes that DiskFails asks for. -/
import Derived.Test.YtofgphiamllmdaaFive
namespace Go.Proofs.Ytofgphiamllmdaa
open Go.RowKit

theorem Try.info4 : (Try.prog.info? 4).map (fun i => (i.zero, i.size, i.bytes)) = some (some (.bool false), 1, 1) := by kernel_rfl
theorem full_16 (w : World) (c : Int) : Calls Try.prog 10 #[.int .i64 16, .int .u8 c] w fun e w' => ∃ b, e = .returned (.slice (some ⟨b, 0, none⟩) (128 * 16) (128 * 16)) ∧ Row8 w' b (sv (128 * 16) c) ∧ Below w.heap.size w w' := by
  refine (full_row w 16 c (by decide)).mono ?_
  rintro e w' ⟨b, rfl, _, hb, hg⟩
  exact ⟨b, rfl, hb, hg⟩
theorem write_16 {w : World} {n₀ p bs bn b : Nat} {pv : Value} {G0 G1 : Int → List Int} (h : Dev w n₀ p bs bn pv 16 G0 G1 [] 0 false) (hb : Row8 w b (sv (128 * 16) 8)) :
    Calls Try.prog 9 #[.pointer (some ⟨p, 0, none⟩), .int .i64 0, .slice (some ⟨b, 0, none⟩) (128 * 16) (128 * 16)] w fun e w' => e = .returned (.int .i64 0) ∧ ∃ pv', Fr p bs bn w pv w' pv' := by
  refine Calls.mono (write_rep h (by decide) 16 (by decide) (by decide) 8 (by decide) (by decide) hb (by decide) (by decide)) ?_
  rintro e w' (⟨rfl, _, _, pv', _, F⟩ | ⟨_, j, _, hj, _⟩)
  · exact ⟨rfl, pv', F⟩
  · exfalso
    rcases hj with ⟨hj, _⟩ | ⟨_, hj⟩
    · cases hj
    · omega

/-- A write on a device that is dead. -/
theorem write_on_dead {w : World} {n₀ p bs bn b : Nat} {pv : Value} {G0 G1 : Int → List Int} {L : List (Int × List Int)} {left : Int} (h : Dev w n₀ p bs bn pv 16 G0 G1 L left true) (hb : Row8 w b (sv 128 6)) (hl0 : 0 ≤ left) (hl1 : left ≤ 9223372036854775807) (hL : L.length ≤ 999990000) :
    Calls Try.prog 9 #[.pointer (some ⟨p, 0, none⟩), .int .i64 0, .slice (some ⟨b, 0, none⟩) 128 128] w fun e w' => e = .returned (.int .i64 14) ∧ ∃ pv', Dev w' n₀ p bs bn pv' 16 G0 G1 L left true ∧ Fr p bs bn w pv w' pv' := by
  obtain ⟨n1, n2, n3, n4⟩ := hb.ne h
  have hW := Write_some h (by decide) 0 (by decide) b 0 128 1 (by decide) (by unfold maxLen; omega) (by decide) (by decide) (sv 128 6) (by unfold sv; rw [List.length_replicate]) (hb.bytes (sv_byte _ 6 (by decide) (by decide))) (lt_of_block hb) n1 n2 n3 n4 hl0 hl1 hL
  refine Calls.mono hW ?_
  rintro e w' (⟨rfl, h1, _⟩ | ⟨rfl, j, hj, h, pv', D3, F3⟩)
  · cases h1
  · obtain rfl : j = 0 := by omega
    refine ⟨rfl, pv', ?_, F3⟩
    rw [List.take_zero] at D3
    simpa [wsP, appl, show max 0 left = left by omega] using D3

/-- A crash at which all writes stay. -/
theorem crash_all {w : World} {n₀ p bs bn B : Nat} {pv v : Value} {size : Int} {G0 : Int → List Int} {L : List (Int × List Int)} {left : Int} {dead : Bool} (h : Dev w n₀ p bs bn pv size G0 (appl G0 L) L left dead) (hrow : w.ownsRow B 4 1 v L.length (List.replicate L.length (.bool true))) (h1 : p < B) (h2 : bs < B) (h3 : bn < B) (h4 : ∀ g, pv.ownBlock = some g → g < B) (hLl : L.length ≤ 1000000000) :
    Calls Try.prog 14 #[.pointer (some ⟨p, 0, none⟩), v] w fun e w' => e = .returned (.tuple #[]) ∧ Dev w' n₀ p bs bn (.slice none 0 0) size (appl G0 L) (appl G0 L) [] 0 false ∧ Fr p bs bn w pv w' (.slice none 0 0) := by
  obtain ⟨ka, kc, rfl⟩ : ∃ a c, v = .slice a L.length c := by
    rcases hrow.2 with ⟨rfl, hn⟩ | ⟨g, cap, cur, rfl, _⟩
    · exact ⟨none, 0, by rw [hn]⟩
    · exact ⟨_, _, rfl⟩
  have hk : Bools w ka L.length (List.replicate L.length true) := ⟨by simp, fun h0 => by
    rcases hrow.2 with ⟨e, hn⟩ | ⟨g, cap, cur, e, hb, hh, _⟩
    · omega
    · injection e with e1 e2 e3
      refine ⟨g, 0, e1, fun i hi => ?_⟩
      rw [e1] at hrow
      have := World.ownsRow.cells hrow (g := g) rfl i (.bool true) (by simp [hi])
      have hadd : (⟨g, 0, none⟩ : Addr).add i = ⟨g, 0 + i, none⟩ := by unfold Addr.add; split <;> simp_all
      rw [hadd] at this
      simpa [hi] using this⟩
  have c := Crash_some h (fun _ => rfl) ka L.length kc _ hk (by omega) hLl (fun b off e h0 => by
    have hg := own_block hrow (g := b) (by rw [e]; rfl)
    refine ⟨by omega, by omega, by omega, fun e' => ?_⟩
    have := h4 b e'
    omega)
  rw [kept_all] at c
  exact c

end Go.Proofs.Ytofgphiamllmdaa
