/- Slices of slices of bytes. -/
import Derived.Test.YtgammgdckneoiabClone
import Derived.Test.YtgammgdckneoiabSplit
namespace Go.Proofs.Ytgammgdckneoiab
open Go.RowKit

/-- Where b[k:..] begins. -/
def winA (a : Option Addr) (k cap : Nat) : Option Addr := if cap = k then a else a.map (·.add (k * 1))

theorem run_win (a : Option Addr) (len cap k n : Nat) (w : World) (h : k + n ≤ cap) :
    (Instr.slice 22 (.slice a len cap) (some (.int .i64 (k : Int))) (some (.int .i64 ((k : Int) + (n : Int)))) none).run Try.prog w = .ok (.slice (winA a k cap) n (cap - k)) w := by
  have ht : Try.prog.underlying 22 = some (.slice (Try.prog.elem 22)) := by simp [Program.elem, Try.underlying22]
  have he : Try.prog.elem 22 = 5 := by simp [Program.elem, Try.underlying22]
  have hz : (sizeOf 5).run Try.prog w = .ok 1 w := by
    obtain ⟨i0, hi, hz0, hz1, hz2⟩ := info_parts Try.info5
    simp [sizeOf, typeInfo, hi, hz1]
  rw [run_slice_lh w 22 _ _ _ ht .i64 .i64 _ _ (by omega) (by omega) (by omega), he, hz]
  have e1 : ((k : Int) + (n : Int)).toNat - (k : Int).toNat = n := by omega
  simp only [Result.andThen, sliced, Int.toNat_natCast, winA]
  rw [show ((k : Int) + (n : Int)).toNat - k = n by omega]

theorem IsB.window {w : World} {a : Option Addr} {len cap : Nat} {xs : List Int} (h : IsB w a len cap xs) (k n : Nat) (hk : k + n ≤ len) : IsB w (winA a k cap) n (cap - k) ((xs.drop k).take n) := by
  have hs := h.size
  have hr := h.room
  have hm := h.most
  refine ⟨by simp; omega, by omega, by omega, ?_, fun x hx => h.byte x (List.mem_of_mem_drop (List.mem_of_mem_take hx)), fun h0 => ?_⟩
  · intro hn
    unfold winA at hn
    split at hn
    · omega
    · have : a = none := by cases a <;> simp_all
      have := h.nil0 this
      omega
  · obtain ⟨b, off, rfl, hc⟩ := h.cells (by omega)
    refine ⟨b, off + k, ?_, fun i hi => ?_⟩
    · unfold winA
      rw [if_neg (by omega)]
      simp [Addr.add]
    · rw [Nat.add_assoc, hc (k + i) (by omega)]
      simp [hi]

/-- The answers of ReadText as values. -/
def RT (w : World) (base : Nat) (t : List Int × Nat × Nat) (e : Ending) : Prop :=
  ∃ v, e = .returned (.tuple #[v, .int .i64 (t.2.1 : Int), .int .i64 (t.2.2 : Int)]) ∧ OwnB w base v t.1
theorem RT.nil (w : World) (base k : Nat) : RT w base ([], 0, k) (.returned (.tuple #[.slice none 0 0, .int .i64 0, .int .i64 (k : Int)])) :=
  ⟨_, rfl, ownB_of (n := 0) (World.ownsRow_nil _ _ _ _) (by simp)⟩

theorem own_below {w w' : World} {base e m n : Nat} {v : Value} {xs : List Value} (h : w.ownsRow base e m v n xs) (hb : Below w.heap.size w w') : w'.ownsRow base e m v n xs := by
  obtain ⟨h1, h2⟩ := h
  refine ⟨h1, ?_⟩
  rcases h2 with h2 | ⟨g, cap, cur, hv, hg, hh, h3⟩
  · exact .inl h2
  · exact .inr ⟨g, cap, cur, hv, hg, (hb.block g (lt_of_block hh)).trans hh, h3⟩
theorem OwnB.below {w w' : World} {base : Nat} {v : Value} {xs : List Int} (h : OwnB w base v xs) (hb : Below w.heap.size w w') : OwnB w' base v xs :=
  ⟨own_below h.1 hb, by obtain ⟨_, a, cap, hv, hB⟩ := h; exact ⟨a, cap, hv, hB.below hb⟩⟩

theorem below_size {B : Nat} {w w1 w2 : World} (h1 : Below B w w1) (hB : B ≤ w.heap.size) (h2 : Below w1.heap.size w1 w2) : Below B w w2 :=
  h1.trans (h2.mono (Nat.le_trans hB h1.size))

end Go.Proofs.Ytgammgdckneoiab
