/- Are two objects alike? -/
import Derived.Test.YtjfaflmmanjjbaaSame
import Derived.Test.YtjfaflmmanjjbaaLawText
namespace Go.Proofs.Ytjfaflmmanjjbaa
open Go.RowKit
set_option maxRecDepth 100000
theorem str_inj (xs ys : List Int) (hx : ∀ x ∈ xs, 0 ≤ x ∧ x < 256) (hy : ∀ x ∈ ys, 0 ≤ x ∧ x < 256) (h : (strOfNums xs).data.toList = (strOfNums ys).data.toList) : xs = ys := by
  have h2 : (xs.map fun n => UInt8.ofNat n.toNat) = ys.map fun n => UInt8.ofNat n.toNat := by
    rw [← strOfNums_data, ← strOfNums_data]; exact h
  clear h
  induction xs generalizing ys with
  | nil => cases ys with
    | nil => rfl
    | cons y ys => simp at h2
  | cons x xs ih => cases ys with
    | nil => simp at h2
    | cons y ys =>
      simp only [List.map_cons, List.cons.injEq] at h2
      obtain ⟨e1, e2⟩ := h2
      have a1 := hx x (by simp)
      have a2 := hy y (by simp)
      have e3 := congrArg UInt8.toNat e1
      simp only [UInt8.toNat_ofNat'] at e3
      rw [ih ys (fun z hz => hx z (by simp [hz])) (fun z hz => hy z (by simp [hz])) e2]
      congr 1
      omega

theorem str_beq {xs ys : List Int} (hx : ∀ x ∈ xs, 0 ≤ x ∧ x < 256) (hy : ∀ x ∈ ys, 0 ≤ x ∧ x < 256) : ((strOfNums xs).toList == (strOfNums ys).toList) = decide (xs = ys) := by
  by_cases e : xs = ys
  · subst e
    simp
  · rw [decide_eq_false e, beq_eq_false_iff_ne]
    intro hh
    rw [Go.ByteArray.toList_eq, Go.ByteArray.toList_eq] at hh
    exact e (str_inj _ _ hx hy hh)
theorem bytesEq_any {w : World} {a b : Option Addr} {n c m d : Nat} {xs ys : List Int} (h1 : IsB w a n c xs) (h2 : IsB w b m d ys) :
    Calls Try.prog 42 #[.slice a n c, .slice b m d] w fun e w' => e = .returned (.bool (decide (xs = ys))) ∧ w = w' := by
  have e1 := h1.str
  have e2 := h2.str
  rw [← str_beq h1.byte h2.byte]
  go_enter Try.func42, Try.ntmps42
  go_wp2
  go_ret
  exact ⟨rfl, rfl⟩
/-- An object as a value: class, values, bytes. -/
structure IsO (w : World) (c : Int) (sa : Option Addr) (sn sc : Nat) (ba : Option Addr) (bn bc : Nat) (vs : List (Int × Int)) (bs : List Int) : Prop where
  cls : -9223372036854775808 ≤ c ∧ c ≤ 9223372036854775807
  v : IsV w sa sn sc vs
  b : IsB w ba bn bc bs
theorem IsO.below {w w' : World} {c : Int} {sa ba : Option Addr} {sn sc bn bc : Nat} {vs : List (Int × Int)} {bs : List Int} (h : IsO w c sa sn sc ba bn bc vs bs) (hb : Below w.heap.size w w') : IsO w' c sa sn sc ba bn bc vs bs := ⟨h.cls, h.v.below hb, h.b.below hb⟩
/-- Two objects alike in all. -/
def alike (c d : Int) (vs us : List (Int × Int)) (bs ds : List Int) : Bool := decide (c = d) && decide (vs = us) && decide (bs = ds)
theorem IsV.drewN {w : World} {a : Option Addr} {len cap : Nat} {vs : List (Int × Int)} (h : IsV w a len cap vs) (k : Nat) : IsV (w.drewN k) a len cap vs := ⟨h.size, h.room, h.most, h.nil0, h.wf, h.cells⟩
set_option maxHeartbeats 2000000 in
theorem same_any {w : World} {c d : Int} {sa ba ta ea : Option Addr} {sn sc bn bc tn tc en ec : Nat} {vs us : List (Int × Int)} {bs ds : List Int} (h1 : IsO w c sa sn sc ba bn bc vs bs) (h2 : IsO w d ta tn tc ea en ec us ds) :
    Calls Try.prog 16 #[.agg #[.int .i64 c, .slice sa sn sc, .slice ba bn bc], .agg #[.int .i64 d, .slice ta tn tc, .slice ea en ec]] w fun e w' => e = .returned (.bool (alike c d vs us bs ds)) ∧ Below w.heap.size w w' := by
  by_cases hc : c = d
  · have e1 : alike c d vs us bs ds = (decide (vs = us) && decide (bs = ds)) := by simp [alike, hc]
    rw [e1]
    clear e1
    subst hc
    obtain ⟨E, hE⟩ : ∃ E, Hid (decide (vs = us) = E) := ⟨_, rfl⟩
    rw [hE.out]
    go_enter Try.func16, Try.ntmps16
    go_wp2_with fail
    have k1 := (h1.below (box_below (o := .cells #[.int .i64 c, .slice sa sn sc, .slice ba bn bc] 27))).below (box_below (o := .cells #[.int .i64 c, .slice ta tn tc, .slice ea en ec] 27))
    have k2 := (h2.below (box_below (o := .cells #[.int .i64 c, .slice sa sn sc, .slice ba bn bc] 27))).below (box_below (o := .cells #[.int .i64 c, .slice ta tn tc, .slice ea en ec] 27))
    have B := below_size (box_below (w := w) (o := .cells #[.int .i64 c, .slice sa sn sc, .slice ba bn bc] 27)) box_below.size (box_below (o := .cells #[.int .i64 c, .slice ta tn tc, .slice ea en ec] 27))
    refine (equal_any k1.v k2.v).mono ?_
    rintro e w' ⟨rfl, q, rfl⟩
    rw [hE.out]
    cases E
    · go_wp2
      go_ret
      exact ⟨rfl, below_drewN B _⟩
    · go_wp2_with fail
      refine (bytesEq_any (k1.b.drewN q) (k2.b.drewN q)).mono ?_
      rintro e w' ⟨rfl, rfl⟩
      go_wp2
      go_ret
      exact ⟨by simp, below_drewN B _⟩
  · have e1 : alike c d vs us bs ds = false := by simp [alike, hc]
    rw [e1]
    clear e1
    go_enter Try.func16, Try.ntmps16
    go_wp2
    go_ret
    exact ⟨rfl, below_size box_below box_below.size box_below⟩
end Go.Proofs.Ytjfaflmmanjjbaa
