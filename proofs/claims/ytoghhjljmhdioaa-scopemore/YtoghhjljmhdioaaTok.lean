/- Words in memory. -/
import Derived.Test.YtoghhjljmhdioaaLexM
import Derived.Test.YtoghhjljmhdioaaChecked
import Derived.Lib.LazyBuf
import Derived.WalkKit
import Derived.Below
namespace Go.Proofs.Ytoghhjljmhdioaa
open Go.RowKit
set_option maxRecDepth 100000
theorem addr_add (b off i : Nat) : (⟨b, off, none⟩ : Addr).add i = ⟨b, off + i, none⟩ := by unfold Addr.add; split <;> simp_all
theorem Try.info59 : (Try.prog.info? 59).map (fun i => (i.zero, i.size, i.bytes)) = some (some (.agg #[.int .i64 0, .string ⟨#[]⟩, .int .i64 0]), 3, 32) := by kernel_rfl
/-- Words as cells. -/
def flatT : List Tk → List Value
  | [] => []
  | v :: t => .int .i64 v.kind :: .string (strOfNums v.text) :: .int .i64 (v.pos : Int) :: flatT t
theorem flatT_len : ∀ vs : List Tk, (flatT vs).length = vs.length * 3
  | [] => rfl
  | v :: t => by simp only [flatT, List.length_cons, flatT_len t]; omega
theorem flatT_app : ∀ vs us : List Tk, flatT (vs ++ us) = flatT vs ++ flatT us
  | [], _ => rfl
  | v :: t, us => by simp only [flatT, List.cons_append, flatT_app t us]
theorem flatT_at : ∀ (vs : List Tk) (i : Nat) (v : Tk), vs[i]? = some v → (flatT vs)[i * 3]? = some (.int .i64 v.kind) ∧ (flatT vs)[i * 3 + 1]? = some (.string (strOfNums v.text)) ∧ (flatT vs)[i * 3 + 2]? = some (.int .i64 (v.pos : Int))
  | [], _, _, h => by simp at h
  | u :: t, 0, v, h => by
    simp at h
    subst h
    exact ⟨rfl, rfl, rfl⟩
  | u :: t, i + 1, v, h => by
    have := flatT_at t i v (by simpa using h)
    rw [show (i + 1) * 3 = i * 3 + 3 by omega]
    exact this
def tk0 : Tk := ⟨0, [], 0⟩
/-- A slice of words that is read. -/
structure IsT (w : World) (a : Option Addr) (len cap : Nat) (ts : List Tk) : Prop where
  size : ts.length = len
  room : len ≤ cap
  most : cap ≤ maxLen
  nil0 : a = none → cap = 0
  cells : 0 < len → ∃ b off, a = some ⟨b, off, none⟩ ∧ ∀ i, i < len → w.cell? ⟨b, off + i * 3, none⟩ = some (.int .i64 (ts.getD i tk0).kind) ∧ w.cell? ⟨b, off + i * 3 + 1, none⟩ = some (.string (strOfNums (ts.getD i tk0).text)) ∧ w.cell? ⟨b, off + i * 3 + 2, none⟩ = some (.int .i64 ((ts.getD i tk0).pos : Int))
theorem ltC {w : World} {b o : Nat} {v : Value} (h : w.cell? ⟨b, o, none⟩ = some v) : b < w.heap.size := block_lt_of_cell h
theorem IsT.below {w w' : World} {a : Option Addr} {len cap : Nat} {ts : List Tk} (h : IsT w a len cap ts) (hb : Below w.heap.size w w') : IsT w' a len cap ts :=
  ⟨h.size, h.room, h.most, h.nil0, fun h0 => by
    obtain ⟨b, off, ha, hc⟩ := h.cells h0
    exact ⟨b, off, ha, fun i hi => ⟨(hb.cell (ltC (hc i hi).1)).trans (hc i hi).1, (hb.cell (ltC (hc i hi).2.1)).trans (hc i hi).2.1, (hb.cell (ltC (hc i hi).2.2)).trans (hc i hi).2.2⟩⟩⟩
theorem isT_nil (w : World) : IsT w none 0 0 [] := ⟨rfl, Nat.le_refl _, by decide, fun _ => rfl, fun h => absurd h (by decide)⟩
end Go.Proofs.Ytoghhjljmhdioaa
