/- written: the commits of some, by the objects that they wrote. -/
import Derived.Test.YtigmpmichhghdaaPut
import Derived.Test.YtigmpmichhghdaaSrt
import Derived.Test.YtigmpmichhghdaaAhd
import Derived.Test.YtigmpmichhghdaaGvn
namespace Go.Proofs.Ytigmpmichhghdaa
open Go.RowKit
set_option maxRecDepth 100000
/-- All commits at their keys. -/
def wrF (ms : List Tm) : Int → List Int := ms.foldl (fun f m => putF m.com m.ws f) (fun _ => [])
theorem wrF_snoc (ms : List Tm) (m : Tm) : wrF (ms ++ [m]) = putF m.com m.ws (wrF ms) := by unfold wrF; rw [List.foldl_append]; rfl
theorem putF_len {c : Int} {ks : List Int} {f : Int → List Int} {L : Nat} (h : ∀ o, (f o).length ≤ L) (o : Int) : (putF c ks f o).length ≤ L + 1 := by
  have h1 := h o
  have h2 := addL_len c (f o)
  unfold putF
  split <;> omega
theorem list_snoc_ind {α : Type} {p : List α → Prop} (h0 : p []) (h1 : ∀ l x, p l → p (l ++ [x])) (l : List α) : p l := by
  have : ∀ n (l : List α), l.length = n → p l := by
    intro n
    induction n with
    | zero => intro l hl; rw [List.eq_nil_of_length_eq_zero hl]; exact h0
    | succ n ih =>
      intro l hl
      have hne : l ≠ [] := by intro e; rw [e] at hl; cases hl
      rw [← List.dropLast_concat_getLast hne]
      exact h1 _ _ (ih _ (by rw [List.length_dropLast]; omega))
  exact this _ l rfl
theorem wrF_len (ms : List Tm) : ∀ o, (wrF ms o).length ≤ ms.length := by
  refine list_snoc_ind (p := fun ms => ∀ o, (wrF ms o).length ≤ ms.length) (fun o => by simp [wrF]) (fun l x ih o => ?_) ms
  rw [wrF_snoc, List.length_append]
  exact putF_len ih o
theorem wrF_mem (ms : List Tm) : ∀ o x, x ∈ wrF ms o ↔ ∃ m ∈ ms, m.com = x ∧ o ∈ m.ws := by
  refine list_snoc_ind (p := fun ms => ∀ o x, x ∈ wrF ms o ↔ ∃ m ∈ ms, m.com = x ∧ o ∈ m.ws) (fun o x => by simp [wrF]) (fun l m ih o x => ?_) ms
  rw [wrF_snoc]
  have hL : ∀ y, y ∈ addL m.com (wrF l o) ↔ y ∈ wrF l o ∨ y = m.com := fun y => by
    unfold addL
    split
    · rename_i h
      have := List.mem_of_getLast? h
      exact ⟨.inl, fun h => h.elim id (fun e => e ▸ this)⟩
    · simp
  unfold putF
  by_cases ho : o ∈ m.ws
  · rw [if_pos ho, hL, ih]
    constructor
    · rintro (⟨k, hk, h⟩ | rfl)
      · exact ⟨k, List.mem_append_left _ hk, h⟩
      · exact ⟨m, by simp, rfl, ho⟩
    · rintro ⟨k, hk, h1, h2⟩
      rcases List.mem_append.1 hk with hk | hk
      · exact .inl ⟨k, hk, h1, h2⟩
      · rw [List.mem_singleton] at hk
        subst hk
        exact .inr h1.symm
  · rw [if_neg ho, ih]
    constructor
    · rintro ⟨k, hk, h⟩
      exact ⟨k, List.mem_append_left _ hk, h⟩
    · rintro ⟨k, hk, h1, h2⟩
      rcases List.mem_append.1 hk with hk | hk
      · exact ⟨k, hk, h1, h2⟩
      · rw [List.mem_singleton] at hk
        subst hk
        exact absurd h2 ho
theorem rise_addL {c : Int} {l : List Int} (h : RiseI l) (hc : ∀ x ∈ l, x ≤ c) : RiseI (addL c l) := by
  unfold addL
  split
  · exact h
  · rename_i hne
    have hlt : ∀ x ∈ l, x < c := fun x hx => by
      have h1 := hc x hx
      rcases Int.lt_or_eq_of_le h1 with h2 | h2
      · exact h2
      · exfalso
        obtain ⟨i, hi, he⟩ := List.mem_iff_getElem.1 hx
        obtain ⟨z, hz⟩ : ∃ z, l.getLast? = some z := ⟨_, List.getLast?_eq_some_getLast (by intro e; rw [e] at hx; cases hx)⟩
        rw [List.getLast?_eq_getElem?] at hz hne
        have hzm := hc z (List.mem_of_getElem? hz)
        rcases Nat.lt_or_ge i (l.length - 1) with h3 | h3
        · have := h i (l.length - 1) x z h3 (by rw [List.getElem?_eq_getElem hi, he]) hz
          omega
        · have e : i = l.length - 1 := by omega
          rw [← e, List.getElem?_eq_getElem hi, he, h2] at hne
          exact hne rfl
    intro i j x y hij hx hy
    rcases Nat.lt_or_ge j l.length with hj | hj
    · rw [List.getElem?_append_left hj] at hy
      rw [List.getElem?_append_left (by omega)] at hx
      exact h i j x y hij hx hy
    · have hj' : j = l.length := by
        have := (List.getElem?_eq_some_iff.1 hy).1
        rw [List.length_append] at this
        simp at this
        omega
      subst hj'
      rw [List.getElem?_append_right (Nat.le_refl _)] at hy
      simp at hy
      subst hy
      rw [List.getElem?_append_left hij] at hx
      exact hlt x (List.mem_of_getElem? hx)
theorem sortC_init {l : List Tm} {m : Tm} (h : SortC (l ++ [m])) : SortC l ∧ ∀ x ∈ l, x.com ≤ m.com := by
  refine ⟨fun i j x y hij hx hy => ?_, fun x hx => ?_⟩
  · have hj := (List.getElem?_eq_some_iff.1 hy).1
    exact h i j x y hij (by rw [List.getElem?_append_left (by omega)]; exact hx) (by rw [List.getElem?_append_left hj]; exact hy)
  · obtain ⟨i, hi, he⟩ := List.mem_iff_getElem.1 hx
    exact h i l.length x m hi (by rw [List.getElem?_append_left hi, List.getElem?_eq_getElem hi, he]) (by simp)
theorem wrF_rise (ms : List Tm) : SortC ms → ∀ o, RiseI (wrF ms o) := by
  refine list_snoc_ind (p := fun ms => SortC ms → ∀ o, RiseI (wrF ms o)) (fun _ o => by intro i j x y _ hx; simp [wrF] at hx) (fun l m ih hs o => ?_) ms
  obtain ⟨h1, h2⟩ := sortC_init hs
  rw [wrF_snoc]
  unfold putF
  split
  · refine rise_addL (ih h1 o) (fun x hx => ?_)
    obtain ⟨k, hk, rfl, _⟩ := (wrF_mem l o x).1 hx
    exact h2 k hk
  · exact ih h1 o
def WrtP (w : World) (ms : List Tm) (e : Ending) (w' : World) : Prop := ∃ bp ms', e = .returned (.pointer (some ⟨bp, 0, none⟩)) ∧ ms'.Perm ms ∧ SortC ms' ∧ Pl w' (fun b => w.heap.size ≤ b) bp (wrF ms') ∧ Below w.heap.size w w'
set_option maxHeartbeats 4000000 in
theorem written_any {w : World} {a : Option Addr} {n cap : Nat} {ms : List Tm} (h : IsTs w a n cap ms) (hn : n ≤ 1048576) (hsh : Short ms) :
    Calls Try.prog 27 #[.slice a n cap] w fun e w' => WrtP w ms e w' := by
  have hval := callsIn_wide.1 (values_in a n cap w 1)
  go_enter Try.func27, Try.ntmps27
  go_wp2_with fail
  refine hval.mono ?_
  rintro e w1 ⟨rfl, rfl⟩
  have B1 : Below w.heap.size w (w.alloc (.cells #[.slice a n cap] 26)) := box_below
  have hs := sorted_any (w := w.alloc (.cells #[.slice a n cap] 26)) (Bs := w.heap.size) (by simp) hn (by simp) (h.below B1)
  clear hval
  go_wp2_with fail
  refine hs.mono ?_
  rintro e w3 ⟨sa, sn, sc, ms', rfl, hp, hso, I3, B3⟩
  have B4 : Below w.heap.size w w3 := below_size B1 B1.size B3
  have hsn : sn ≤ 1048576 := by rw [← I3.size, hp.length_eq, h.size]; exact hn
  have hsl : Hid (ms'.length = sn) := I3.size
  have hsh' : Short ms' := fun m hm => hsh m (hp.mem_iff.1 hm)
  have hz : w.heap.size ≤ w3.heap.size := B4.size
  clear hs B3 B1 h
  have P0 : Pl (w3.alloc (.cells #[.map none] 63)) (fun b => w3.heap.size ≤ b) w3.heap.size (wrF (ms'.take 0)) := ⟨⟨none, by simp, fun o => rfl⟩, Nat.le_refl _, ⟨_, 63, new1 _ _, by decide⟩⟩
  have hsnI : sn ≤ 9223372036854775807 := by omega
  go_wp2
  go_loopw [14] (fun iv wr => ∃ k : Nat, k ≤ sn ∧ iv = .int .i64 (k : Int) ∧ Pl wr (fun b => w3.heap.size ≤ b) w3.heap.size (wrF (ms'.take k)) ∧ Below w3.heap.size w3 wr) (fun iv _ => sn - (intOf iv).toNat)
  case atStart => exact ⟨0, by omega, rfl, P0, box_below⟩
  case round =>
    clear P0
    obtain ⟨k, hk, rfl, P, B⟩ := hrel
    by_cases hlt : k < sn
    · obtain ⟨b, off, m, rfl, hbl, c0, c1, c2, c3, hx, hin⟩ := (I3.below B).at_ k hlt
      have hkI : (k : Int) < (sn : Int) := by omega
      have hml := hsh' m (List.mem_of_getElem? hx.out)
      have hin3 := I3.each m (List.mem_of_getElem? hx.out)
      have BA : Below wr.heap.size wr (wr.alloc (.cells #[.int .i64 m.base, .int .i64 m.com, .slice m.ra m.rn m.rc, .slice m.wa m.wn m.wc] 31)) := box_below
      have B2 := below_size B B.size BA
      have hfl : ∀ o, (wrF (ms'.take k) o).length ≤ 900000000 := fun o => by
        have h1 := wrF_len (ms'.take k) o
        rw [List.length_take] at h1
        omega
      have hput := put_any m.com hin.c64 (P.below BA) (hin.w.1.below BA) (fun b' off' ha h0 hS => by
        have hI := hin3.w.1
        obtain ⟨b2, off2, ha2, hc2⟩ := hI.cells h0
        rw [ha] at ha2
        cases ha2
        have := lt_of_cell (hc2 0 h0)
        omega) hml.2 hfl
      go_wp2_with fail
      refine hput.mono ?_
      rintro e w5 ⟨rfl, P5, F5, _⟩
      have hsn2 : Hid (wrF (ms'.take (k + 1)) = putF m.com m.ws (wrF (ms'.take k))) := by unfold Hid; rw [take_at hx.out, wrF_snoc]
      have P6 : Pl w5 (fun b => w3.heap.size ≤ b) w3.heap.size (putF m.com m.ws (wrF (ms'.take k))) := P5.mono (fun b hb => hb.elim id (fun h' => Nat.le_trans B2.size h'))
      have B5 : Below w3.heap.size w3 w5 := B2.trans (F5.below B2.size (fun _ h' => h'))
      clear hput P5 F5 c0 c1 c2 c3
      go_wp2
      go_roundw
      case rel => exact ⟨k + 1, by omega, by go_num, by rw [hsn2.out]; exact P6, B5⟩
      case measure => simp [intOf]; omega
    · have hge : ¬ (k : Int) < (sn : Int) := by omega
      have hall : Hid (ms'.take k = ms') := List.take_of_length_le (by rw [hsl.out]; omega)
      rw [hall.out] at P
      have B5 : Below w.heap.size w wr := B4.trans (B.mono hz)
      have P7 : Pl wr (fun b => w.heap.size ≤ b) w3.heap.size (wrF ms') := P.mono (fun b hb => Nat.le_trans hz hb)
      clear P
      go_wp2
      go_ret
      exact ⟨_, ms', rfl, hp, hso, P7, B5⟩
end Go.Proofs.Ytigmpmichhghdaa
