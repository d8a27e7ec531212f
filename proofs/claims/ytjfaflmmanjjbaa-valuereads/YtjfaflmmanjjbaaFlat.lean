/- Slices of values of the call's own. -/
import Derived.Test.YtjfaflmmanjjbaaRAlike
import Derived.Lib.LazyBuf
namespace Go.Proofs.Ytjfaflmmanjjbaa
open Go.RowKit
set_option maxRecDepth 100000
theorem Try.info23 : (Try.prog.info? 23).map (fun i => (i.zero, i.size, i.bytes)) = some (some (.agg #[.int .i64 0, .int .i64 0]), 2, 16) := by kernel_rfl
theorem addr_add (b off i : Nat) : (⟨b, off, none⟩ : Addr).add i = ⟨b, off + i, none⟩ := by unfold Addr.add; split <;> simp_all
/-- Values as cells. -/
def flatV : List (Int × Int) → List Value
  | [] => []
  | v :: t => .int .i64 v.1 :: .int .i64 v.2 :: flatV t
theorem flatV_len : ∀ vs : List (Int × Int), (flatV vs).length = vs.length * 2
  | [] => rfl
  | v :: t => by simp only [flatV, List.length_cons, flatV_len t]; omega
theorem flatV_app : ∀ vs us : List (Int × Int), flatV (vs ++ us) = flatV vs ++ flatV us
  | [], _ => rfl
  | v :: t, us => by simp only [flatV, List.cons_append, flatV_app t us]
theorem flatV_at : ∀ (vs : List (Int × Int)) (i : Nat) (v : Int × Int), vs[i]? = some v → (flatV vs)[i * 2]? = some (.int .i64 v.1) ∧ (flatV vs)[i * 2 + 1]? = some (.int .i64 v.2)
  | [], _, _, h => by simp at h
  | u :: t, 0, v, h => by
    simp at h
    subst h
    exact ⟨rfl, rfl⟩
  | u :: t, i + 1, v, h => by
    have := flatV_at t i v (by simpa using h)
    rw [show (i + 1) * 2 = i * 2 + 2 by omega]
    exact this
theorem flatV_one (vs : List (Int × Int)) : ∀ u ∈ flatV vs, u.oneCell' = true := by
  induction vs with
  | nil => intro u hu; cases hu
  | cons v t ih =>
    intro u hu
    simp only [flatV, List.mem_cons] at hu
    rcases hu with rfl | rfl | hu
    · rfl
    · rfl
    · exact ih u hu
theorem IsV.cellsAt {w : World} {a : Option Addr} {len cap : Nat} {vs : List (Int × Int)} (h : IsV w a len cap vs) : ∀ ad, a = some ad → ∀ j u, (flatV vs)[j]? = some u → w.cell? (ad.add j) = some u := by
  intro ad ha j u hj
  have hjl : j < vs.length * 2 := by
    have := (List.getElem?_eq_some_iff.1 hj).1
    rwa [flatV_len] at this
  obtain ⟨b, off, hb, hc⟩ := h.cells (by have := h.size; omega)
  rw [ha] at hb
  obtain rfl := Option.some.inj hb
  have hi : j / 2 < vs.length := by omega
  have e : vs[j / 2]? = some (vs.getD (j / 2) (0, 0)) := by simp [hi]
  have hf := flatV_at vs (j / 2) _ e
  have hc := hc (j / 2) (by have := h.size; omega)
  rw [addr_add]
  rcases Nat.mod_two_eq_zero_or_one j with hm | hm
  · have ej : j = j / 2 * 2 := by omega
    have h1 := hf.1
    rw [← ej, hj] at h1
    have h2 := hc.1
    rw [← ej] at h2
    rw [h2, Option.some.inj h1]
  · have ej : j = j / 2 * 2 + 1 := by omega
    have h1 := hf.2
    rw [← ej, hj] at h1
    have h2 := hc.2
    rw [show off + j / 2 * 2 + 1 = off + j by omega] at h2
    rw [h2, Option.some.inj h1]
theorem IsV.nil' {w : World} {a : Option Addr} {len cap : Nat} {vs : List (Int × Int)} (h : IsV w a len cap vs) : a = none → len = 0 ∧ cap = 0 := by
  intro ha
  have := h.nil0 ha
  have := h.room
  omega
theorem isV_nil (w : World) : IsV w none 0 0 [] := ⟨rfl, Nat.le_refl _, by decide, fun _ => rfl, by simp, fun h => absurd h (by decide)⟩
def wfVs (vs : List (Int × Int)) : Prop := ∀ v ∈ vs, (-9223372036854775808 ≤ v.1 ∧ v.1 ≤ 9223372036854775807) ∧ (-9223372036854775808 ≤ v.2 ∧ v.2 ≤ 9223372036854775807)
theorem isV_own {w : World} {base n cap : Nat} {g : Nat} {vs : List (Int × Int)} (h : w.ownsRow base 23 2 (.slice (some ⟨g, 0, none⟩) n cap) n (flatV vs)) (hb : wfVs vs) : IsV w (some ⟨g, 0, none⟩) n cap vs := by
  have hl : vs.length = n := by have := h.1; rw [flatV_len] at this; omega
  have h2 := h.2
  refine ⟨hl, ?_, ?_, by simp, hb, fun _ => ⟨g, 0, rfl, fun i hi => ?_⟩⟩
  · rcases h2 with ⟨h', _⟩ | ⟨g', cap', cur, h', _, _, hnc, _⟩
    · simp at h'
    · simp at h'; omega
  · rcases h2 with ⟨h', _⟩ | ⟨g', cap', cur, h', _, _, _, hcm, _⟩
    · simp at h'
    · simp at h'; omega
  · have e : vs[i]? = some (vs.getD i (0, 0)) := by simp [show i < vs.length by omega]
    have hf := flatV_at vs i _ e
    have h3 := World.ownsRow.cells h (g := g) rfl (i * 2) _ hf.1
    have h4 := World.ownsRow.cells h (g := g) rfl (i * 2 + 1) _ hf.2
    rw [addr_add] at h3 h4
    exact ⟨h3, h4⟩
/-- A slice of values of the call's own. -/
def OwnV (w : World) (base : Nat) (v : Value) (vs : List (Int × Int)) : Prop :=
  w.ownsRow base 23 2 v vs.length (flatV vs) ∧ ∃ a cap, v = .slice a vs.length cap ∧ IsV w a vs.length cap vs
theorem ownV_of {w : World} {base n : Nat} {v : Value} {vs : List (Int × Int)} (h : w.ownsRow base 23 2 v n (flatV vs)) (hb : wfVs vs) : OwnV w base v vs := by
  have hl : vs.length = n := by have := h.1; rw [flatV_len] at this; omega
  subst hl
  refine ⟨h, ?_⟩
  rcases h.2 with ⟨rfl, h0⟩ | ⟨g, cap, cur, rfl, _⟩
  · have : vs = [] := List.eq_nil_of_length_eq_zero h0
    subst this
    exact ⟨none, 0, rfl, isV_nil w⟩
  · exact ⟨_, cap, rfl, isV_own h hb⟩
end Go.Proofs.Ytjfaflmmanjjbaa
