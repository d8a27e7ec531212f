/- Changes and records: can they be? -/
import Derived.Test.YtjfaflmmanjjbaaRAlike
import Derived.Test.YtjfaflmmanjjbaaEq
import Derived.Deep.CutBlock
namespace Go.Proofs.Ytjfaflmmanjjbaa
open Go.RowKit
set_option maxRecDepth 100000
/-- A change: the object's number, whether it is gone, its class, slots and bytes. -/
structure Ch where
  oop : Int
  gone : Bool
  cls : Int
  vs : List (Int × Int)
  bs : List Int
/-- A change in memory. -/
def IsCh (w : World) (b off : Nat) (x : Ch) : Prop := ∃ sa sn sc ba bn bc, w.cell? ⟨b, off, none⟩ = some (.int .i64 x.oop) ∧ w.cell? ⟨b, off + 1, none⟩ = some (.bool x.gone) ∧ w.cell? ⟨b, off + 2, none⟩ = some (.int .i64 x.cls) ∧ w.cell? ⟨b, off + 3, none⟩ = some (.slice sa sn sc) ∧ w.cell? ⟨b, off + 4, none⟩ = some (.slice ba bn bc) ∧ IsO w x.cls sa sn sc ba bn bc x.vs x.bs
theorem IsCh.below {w w' : World} {b off : Nat} {x : Ch} (h : IsCh w b off x) (hb : Below w.heap.size w w') : IsCh w' b off x := by
  obtain ⟨sa, sn, sc, ba, bn, bc, h0, h1, h2, h3, h4, ho⟩ := h
  have hl := lt_of_cell h0
  exact ⟨sa, sn, sc, ba, bn, bc, (hb.cell (p := ⟨b, _, none⟩) hl).trans h0, (hb.cell (p := ⟨b, _, none⟩) hl).trans h1, (hb.cell (p := ⟨b, _, none⟩) hl).trans h2, (hb.cell (p := ⟨b, _, none⟩) hl).trans h3, (hb.cell (p := ⟨b, _, none⟩) hl).trans h4, ho.below hb⟩
/-- A slice of changes that is only read. -/
structure IsC (w : World) (a : Option Addr) (len cap : Nat) (xs : List Ch) : Prop where
  size : xs.length = len
  room : len ≤ cap
  most : cap ≤ maxLen
  nil0 : a = none → cap = 0
  wf : ∀ x ∈ xs, -9223372036854775808 ≤ x.oop ∧ x.oop ≤ 9223372036854775807
  cells : 0 < len → ∃ b off, a = some ⟨b, off, none⟩ ∧ ∀ i x, xs[i]? = some x → IsCh w b (off + i * 5) x
theorem IsC.below {w w' : World} {a : Option Addr} {len cap : Nat} {xs : List Ch} (h : IsC w a len cap xs) (hb : Below w.heap.size w w') : IsC w' a len cap xs :=
  ⟨h.size, h.room, h.most, h.nil0, h.wf, fun h0 => by obtain ⟨b, off, e, k⟩ := h.cells h0; exact ⟨b, off, e, fun i x hx => (k i x hx).below hb⟩⟩
theorem IsC.at_ {w : World} {a : Option Addr} {len cap : Nat} {xs : List Ch} (h : IsC w a len cap xs) (k : Nat) (hk : k < len) : ∃ b off x, a = some ⟨b, off, none⟩ ∧ b < w.heap.size ∧ Hid (xs[k]? = some x) ∧ IsCh w b (off + k * 5) x ∧ (-9223372036854775808 ≤ x.oop ∧ x.oop ≤ 9223372036854775807) := by
  obtain ⟨b, off, e, c⟩ := h.cells (by omega)
  have hs := h.size
  obtain ⟨x, hx⟩ : ∃ x, xs[k]? = some x := ⟨_, List.getElem?_eq_getElem (by omega)⟩
  have hc := c k x hx
  refine ⟨b, off, x, e, ?_, hx, hc, h.wf x (List.mem_of_getElem? hx)⟩
  obtain ⟨_, _, _, _, _, _, h0, _⟩ := hc
  exact lt_of_cell h0
/-- Can a change's object be? -/
def okCh (g : Bool) (c : Int) (vs : List (Int × Int)) (bs : List Int) : Bool := if g = true then alike c 0 vs [] bs [] else okO c vs bs.length
/-- Can the changes be, behind one of a number? -/
def okL : Int → List Ch → Bool
  | _, [] => true
  | l, x :: t => decide (l < x.oop) && decide (x.oop ≤ 4096) && okCh x.gone x.cls x.vs x.bs && okL x.oop t
def okR (c : Int) (xs : List Ch) : Bool := decide (1 ≤ c ∧ c ≤ 1099511627776) && decide (xs.length ≤ 4096) && okL 0 xs
theorem okL_yes {l : Int} {xs : List Ch} {k : Nat} {x : Ch} (h : xs[k]? = some x) (h1 : l < x.oop) (h2 : x.oop ≤ 4096) (h3 : okCh x.gone x.cls x.vs x.bs = true) : okL l (xs.drop k) = okL x.oop (xs.drop (k + 1)) := by
  obtain ⟨hk, e⟩ := List.getElem?_eq_some_iff.1 h
  rw [List.drop_eq_getElem_cons hk, e]
  simp [okL, h1, h2, h3]
theorem okL_no {l : Int} {xs : List Ch} {k : Nat} {x : Ch} (h : xs[k]? = some x) (hn : ¬ (l < x.oop ∧ x.oop ≤ 4096 ∧ okCh x.gone x.cls x.vs x.bs = true)) : okL l (xs.drop k) = false := by
  obtain ⟨hk, e⟩ := List.getElem?_eq_some_iff.1 h
  rw [List.drop_eq_getElem_cons hk, e]
  cases hc : okL l (x :: xs.drop (k + 1)) with
  | false => rfl
  | true => simp [okL] at hc; exact absurd ⟨hc.1.1.1, hc.1.1.2, hc.1.2⟩ hn
theorem isO_none (w : World) : IsO w 0 none 0 0 none 0 0 [] [] := ⟨by decide, ⟨rfl, Nat.le_refl _, by decide, fun _ => rfl, by simp, fun h => absurd h (by decide)⟩, ⟨rfl, Nat.le_refl _, by decide, fun _ => rfl, by simp, fun h => absurd h (by decide)⟩⟩
set_option maxHeartbeats 2000000 in
theorem rightChange_any {w : World} (o : Int) (g : Bool) {c : Int} {sa ba : Option Addr} {sn sc bn bc : Nat} {vs : List (Int × Int)} {bs : List Int} (h : IsO w c sa sn sc ba bn bc vs bs) :
    Calls Try.prog 51 #[.agg #[.int .i64 o, .bool g, .int .i64 c, .slice sa sn sc, .slice ba bn bc]] w fun e w' => e = .returned (.bool (okCh g c vs bs)) ∧ Below w.heap.size w w' := by
  have k1 := h.below (box_below (o := .cells #[.int .i64 o, .bool g, .int .i64 c, .slice sa sn sc, .slice ba bn bc] 77))
  have hbm : bn ≤ maxLen := Nat.le_trans h.b.room h.b.most
  have hbs := h.b.size
  cases g with
  | true =>
    have e : Hid (okCh true c vs bs = alike c 0 vs [] bs []) := rfl
    go_enter Try.func51, Try.ntmps51
    go_wp2_with fail
    refine (same_any k1 (isO_none _)).mono ?_
    rintro e w1 ⟨rfl, B1⟩
    go_wp2
    go_ret
    exact ⟨rfl, below_size box_below box_below.size B1⟩
  | false =>
    have e : Hid (okCh false c vs bs = okO c vs bn) := by unfold Hid okCh; rw [hbs]; rfl
    go_enter Try.func51, Try.ntmps51
    go_wp2_with fail
    refine (rightObj_any c k1.v hbm).mono ?_
    rintro e' w1 ⟨rfl, B1⟩
    go_wp2
    go_ret
    exact ⟨by rw [e.out]; rfl, below_size box_below box_below.size B1⟩
end Go.Proofs.Ytjfaflmmanjjbaa
