/- Acts that are handed in. -/
import Derived.Test.YtofgphiamllmdaaOut
import Derived.Test.YtofgphiamllmdaaAnyG
import Derived.Deep.Slices
namespace Go.Proofs.Ytofgphiamllmdaa
open Go.RowKit

/-- How many sectors. -/
def cnt (k : Int) : Nat := (if k.tmod 3 < 0 then k.tmod 3 + 3 else k.tmod 3).toNat
theorem cnt_lt (k : Int) : cnt k < 3 := by
  have ha := Int.tmod_lt_of_pos k (show (0 : Int) < 3 by omega)
  have hb := Int.lt_tmod_of_pos k (show (0 : Int) < 3 by omega)
  unfold cnt
  split <;> omega
theorem count3 (k : Int) (w : World) : Calls Try.prog 11 #[.int .i64 k, .int .i64 3] w fun e w' => e = .returned (.int .i64 (cnt k : Int)) ∧ w = w' := by
  have ha := Int.tmod_lt_of_pos k (show (0 : Int) < 3 by omega)
  have hb := Int.lt_tmod_of_pos k (show (0 : Int) < 3 by omega)
  have hw0 : IntKind.i64.wrap (k.tmod 3) = k.tmod 3 := by rw [IntKind.wrap_i64]; omega
  have hw1 : IntKind.i64.wrap (k.tmod 3 + 3) = k.tmod 3 + 3 := by rw [IntKind.wrap_i64]; omega
  have he : (cnt k : Int) = if k.tmod 3 < 0 then k.tmod 3 + 3 else k.tmod 3 := by
    unfold cnt
    split <;> omega
  rw [he]
  clear he
  go_enter Try.func11, Try.ntmps11
  by_cases hneg : k.tmod 3 < 0
  · rw [if_pos hneg]
    go_wp2
    go_ret
    exact ⟨rfl, rfl⟩
  · rw [if_neg hneg]
    go_wp2
    go_ret
    exact ⟨rfl, rfl⟩

/-- Acts as they lie: place, how many, byte. -/
structure Acts (w : World) (sa : Option Addr) (l : List (Int × Int × Int)) : Prop where
  ok : ∀ q ∈ l, q.1 ≤ 9223372036854775807 ∧ 0 ≤ q.2.2 ∧ q.2.2 < 256
  lies : ∀ i q, l[i]? = some q → ∃ b off, sa = some ⟨b, off, none⟩ ∧ b < w.heap.size ∧ w.cell? ⟨b, off + i * 6 + 1, none⟩ = some (.int .i64 q.1) ∧ w.cell? ⟨b, off + i * 6 + 2, none⟩ = some (.int .i64 q.2.1) ∧ w.cell? ⟨b, off + i * 6 + 3, none⟩ = some (.int .u8 q.2.2)
theorem Acts.below {w w' : World} {sa : Option Addr} {l : List (Int × Int × Int)} (h : Acts w sa l) (hb : Below w.heap.size w w') : Acts w' sa l :=
  ⟨h.ok, fun i q hq => by
    obtain ⟨b, off, h1, h2, h3, h4, h5⟩ := h.lies i q hq
    have e : ∀ o, w'.cell? ⟨b, o, none⟩ = w.cell? ⟨b, o, none⟩ := fun o => World.cell?_of_block (hb.block b h2)
    exact ⟨b, off, h1, Nat.lt_of_lt_of_le h2 hb.size, (e _).trans h3, (e _).trans h4, (e _).trans h5⟩⟩
theorem new_ex (w : World) : Calls Try.prog 8 #[.int .i64 8] w fun e w' => ∃ p bs bn Z, e = .returned (.tuple #[.pointer (some ⟨p, 0, none⟩), .int .i64 0]) ∧ Dev w' w.heap.size p bs bn (.slice none 0 0) 8 Z Z [] 0 false ∧ Below w.heap.size w w' := by
  refine (new_any w 8 (by decide) (by decide)).mono ?_
  rintro e w' ⟨rfl, h1, h2⟩
  exact ⟨_, _, _, _, rfl, h1, h2⟩
/-- A device that lies above another one does not feel what is done to that. -/
theorem Dev.fr {w w' : World} {N c cs cn p bs bn : Nat} {cv pv pv' : Value} {size : Int} {G0 G1 : Int → List Int} {L : List (Int × List Int)} {left : Int} {dead : Bool} (C : Dev w N c cs cn cv size G0 G1 L left dead) (F : Fr p bs bn w pv w' pv') (h1 : p < N) (h2 : bs < N) (h3 : bn < N) (h4 : ∀ g, pv.ownBlock = some g → g < N) : Dev w' N c cs cn cv size G0 G1 L left dead := by
  have k : ∀ i, N ≤ i → i < w.heap.size → w'.heap[i]? = w.heap[i]? := fun i hi hl => (F.keep i hl (by omega) (by omega) (by omega) (fun e => by have := h4 i e; omega)).1
  exact ⟨(k _ C.fromP C.lt).trans C.obj, C.safe.same (k _ C.fromS C.safe.lt), C.now.same (k _ C.fromN C.now.lt), own_same C.pend (fun g hg => k g (own_block C.pend hg).1 (C.pvlt hg)), C.secs, C.ne, C.fromP, C.fromS, C.fromN⟩
end Go.Proofs.Ytofgphiamllmdaa
