/- Frames as a whole: ReadFrame of any bytes, and the document's own Frame. -/
import Derived.Test.YtgammgdckneoiaaRReadF
namespace Go.Proofs.Ytgammgdckneoiaa
open Go.RowKit

/-- The byte at a place. -/
def cOf (xs : List Int) (i : Nat) : Nat := (xs.getD i 0).toNat
/-- What ReadFrame answers. -/
def rfx (xs : List Int) : List Int × Nat × Nat :=
  if xs.length < 8 then ([], 0, 10)
  else rfr (be (cOf xs 0) (cOf xs 1) (cOf xs 2) (cOf xs 3)) (be (cOf xs 4) (cOf xs 5) (cOf xs 6) (cOf xs 7)) (xs.drop 8)

theorem eight_of {w : World} {b off len cap : Nat} {xs : List Int} (h : IsB w (some ⟨b, off, none⟩) len cap xs) (h8 : 8 ≤ len) :
    Eight w b off (be (cOf xs 0) (cOf xs 1) (cOf xs 2) (cOf xs 3)) (be (cOf xs 4) (cOf xs 5) (cOf xs 6) (cOf xs 7)) (cOf xs) := by
  have hs := h.size
  obtain ⟨b', off', hb, hc⟩ := h.cells (by omega)
  simp only [Option.some.injEq, Addr.mk.injEq, and_true] at hb
  obtain ⟨rfl, rfl⟩ := hb
  have hr : ∀ i, i < 8 → 0 ≤ xs.getD i 0 ∧ xs.getD i 0 < 256 := by
    intro i hi
    have := h.byte (xs[i]'(by omega)) (List.getElem_mem _)
    simpa [show i < xs.length by omega] using this
  refine ⟨fun i hi => ?_, fun i hi => ?_, rfl, rfl⟩
  · have := hr i hi
    unfold cOf; omega
  · rw [hc i (by omega)]
    have := hr i hi
    unfold cOf
    congr 2
    omega

theorem readF_any {a : Option Addr} {len cap : Nat} {xs : List Int} {w : World} (h : IsB w a len cap xs) (hl : len ≤ 140737488500000) :
    Calls Try.prog 27 #[.slice a len cap] w fun e w' => RT w' w.heap.size (rfx xs) e ∧ Below w.heap.size w w' := by
  by_cases h8 : len < 8
  · refine (readF_short h h8).mono ?_
    rintro e w' ⟨rfl, rfl⟩
    unfold rfx
    rw [if_pos (by rw [h.size]; exact h8)]
    exact ⟨RT.nil _ _ 10, Below.refl _ _⟩
  · obtain ⟨b, off, rfl, _⟩ := h.cells (by omega)
    unfold rfx
    rw [if_neg (by rw [h.size]; exact h8)]
    exact readF_some b off len cap _ _ _ xs w h (by omega) hl (eight_of h (by omega))
theorem rreadF_any {a : Option Addr} {len cap : Nat} {xs : List Int} {w : World} (h : IsB w a len cap xs) (hl : len ≤ 140737488500000) :
    Calls Try.prog 28 #[.slice a len cap] w fun e w' => RT w' w.heap.size (rfx xs) e ∧ Below w.heap.size w w' := by
  by_cases h8 : len < 8
  · refine (rreadF_short h h8).mono ?_
    rintro e w' ⟨rfl, rfl⟩
    unfold rfx
    rw [if_pos (by rw [h.size]; exact h8)]
    exact ⟨RT.nil _ _ 10, Below.refl _ _⟩
  · obtain ⟨b, off, rfl, _⟩ := h.cells (by omega)
    unfold rfx
    rw [if_neg (by rw [h.size]; exact h8)]
    exact rreadF_some b off len cap _ _ _ xs w h (by omega) hl (eight_of h (by omega))

theorem readF_tn {a : Option Addr} {len cap k e3 n : Nat} {xs ys : List Int} {w : World} (h : IsB w a len cap xs) (hl : len ≤ 140737488500000) (hr : Hid (rfx xs = (ys, k, e3))) (hn : Hid (ys.length = n)) :
    Calls Try.prog 27 #[.slice a len cap] w fun e w' => ∃ av cv, e = .returned (.tuple #[.slice av n cv, .int .i64 (k : Int), .int .i64 (e3 : Int)]) ∧ OwnB w' w.heap.size (.slice av n cv) ys ∧ IsB w' av n cv ys ∧ Below w.heap.size w w' := by
  refine (readF_any h hl).mono ?_
  rintro e w' ⟨⟨v, he, hO⟩, hb⟩
  rw [hr.out] at he hO
  obtain ⟨h1, av, cv, rfl, hB⟩ := hO
  rw [hn.out] at hB he
  have hO' : OwnB w' w.heap.size (.slice av n cv) ys := by rw [← hn.out] at hB ⊢; exact ⟨h1, av, cv, rfl, hB⟩
  exact ⟨av, cv, he, hO', hB, hb⟩
theorem rreadF_tn {a : Option Addr} {len cap k e3 n : Nat} {xs ys : List Int} {w : World} (h : IsB w a len cap xs) (hl : len ≤ 140737488500000) (hr : Hid (rfx xs = (ys, k, e3))) (hn : Hid (ys.length = n)) :
    Calls Try.prog 28 #[.slice a len cap] w fun e w' => ∃ av cv, e = .returned (.tuple #[.slice av n cv, .int .i64 (k : Int), .int .i64 (e3 : Int)]) ∧ OwnB w' w.heap.size (.slice av n cv) ys ∧ IsB w' av n cv ys ∧ Below w.heap.size w w' := by
  refine (rreadF_any h hl).mono ?_
  rintro e w' ⟨⟨v, he, hO⟩, hb⟩
  rw [hr.out] at he hO
  obtain ⟨h1, av, cv, rfl, hB⟩ := hO
  rw [hn.out] at hB he
  have hO' : OwnB w' w.heap.size (.slice av n cv) ys := by rw [← hn.out] at hB ⊢; exact ⟨h1, av, cv, rfl, hB⟩
  exact ⟨av, cv, he, hO', hB, hb⟩

theorem frameB_len (xs : List Int) : (frameB xs).length = 8 + xs.length := by unfold frameB four; simp; omega
theorem frameB_byte (xs : List Int) (h : ∀ x ∈ xs, 0 ≤ x ∧ x < 256) (hl : xs.length ≤ 60000) : ∀ x ∈ frameB xs, 0 ≤ x ∧ x < 256 := by
  intro x hx
  have hc := crc_lt xs
  rcases List.mem_append.1 hx with hx | hx
  · rcases List.mem_append.1 hx with hx | hx
    · exact four_byte _ (by omega) (by omega) x hx
    · exact four_byte _ (by omega) (by omega) x hx
  · exact h x hx
theorem be_four (n : Nat) (h : n < 4294967296) : be ((n : Int) / 16777216).toNat ((n : Int) / 65536 % 256).toNat ((n : Int) / 256 % 256).toNat ((n : Int) % 256).toNat = n := by
  unfold be; omega
theorem rfx_frame (xs ys : List Int) (h0 : 1 ≤ xs.length) (h : xs.length ≤ 60000) : rfx (frameB xs ++ ys) = (xs, (frameB xs).length, 0) := by
  have hc := crc_lt xs
  have e : frameB xs ++ ys = four (xs.length : Int) ++ (four (crc xs : Int) ++ (xs ++ ys)) := by unfold frameB; simp
  have hd : (four (xs.length : Int) ++ (four (crc xs : Int) ++ (xs ++ ys))).drop 8 = xs ++ ys := by unfold four; rfl
  have h1 : be (cOf (four (xs.length : Int) ++ (four (crc xs : Int) ++ (xs ++ ys))) 0) (cOf (four (xs.length : Int) ++ (four (crc xs : Int) ++ (xs ++ ys))) 1) (cOf (four (xs.length : Int) ++ (four (crc xs : Int) ++ (xs ++ ys))) 2) (cOf (four (xs.length : Int) ++ (four (crc xs : Int) ++ (xs ++ ys))) 3) = xs.length :=
    be_four xs.length (by omega)
  have h2 : be (cOf (four (xs.length : Int) ++ (four (crc xs : Int) ++ (xs ++ ys))) 4) (cOf (four (xs.length : Int) ++ (four (crc xs : Int) ++ (xs ++ ys))) 5) (cOf (four (xs.length : Int) ++ (four (crc xs : Int) ++ (xs ++ ys))) 6) (cOf (four (xs.length : Int) ++ (four (crc xs : Int) ++ (xs ++ ys))) 7) = crc xs :=
    be_four (crc xs) hc
  rw [e, rfx, if_neg (by simp [four]), h1, h2, hd, frameB_len]
  unfold rfr
  rw [if_neg (by omega), if_neg (by omega), if_neg (by simp), List.take_left, if_neg (by simp)]

theorem rframe_short (a : Option Addr) (cap : Nat) (w : World) :
    Calls Try.prog 26 #[.slice a 0 cap] w fun e w' => e = .returned (.tuple #[.slice none 0 0, .int .i64 3]) ∧ w = w' := by
  go_enter Try.func26, Try.ntmps26
  go_wp2
  go_ret2
  exact ⟨rfl, rfl⟩
theorem rframe_long (a : Option Addr) (len cap : Nat) (w : World) (h : 60000 < len) (hm : len ≤ maxLen) :
    Calls Try.prog 26 #[.slice a len cap] w fun e w' => e = .returned (.tuple #[.slice none 0 0, .int .i64 3]) ∧ w = w' := by
  unfold maxLen at hm
  have h0 : ((len : Int) == 0) = false := by simp; omega
  have h1 : (60000 : Int) < (len : Int) := by omega
  go_enter Try.func26, Try.ntmps26
  go_wp2
  go_ret2
  exact ⟨rfl, rfl⟩

set_option maxHeartbeats 2000000 in
theorem rframe_ok {a : Option Addr} {len cap : Nat} {xs : List Int} {w : World} (h : IsB w a len cap xs) (h1 : 1 ≤ len) (h2 : len ≤ 60000) :
    Calls Try.prog 26 #[.slice a len cap] w fun e w' => ∃ v, e = .returned (.tuple #[v, .int .i64 0]) ∧ OwnB w' w.heap.size v (frameB xs) ∧ Below w.heap.size w w' := by
  have h0 : ((len : Int) == 0) = false := by simp; omega
  have h60 : ¬ (60000 : Int) < (len : Int) := by omega
  obtain ⟨s, hs⟩ : ∃ s, crc xs = s := ⟨_, rfl⟩
  have hslt : s < 4294967296 := by rw [← hs]; exact crc_lt xs
  have Hs : Hid (crc xs = s) := hs
  clear hs
  go_enter Try.func26, Try.ntmps26
  go_wp2_with fail
  refine (four_any len _ (by omega)).mono ?_
  rintro e w1 ⟨rfl, hown1, hb1⟩
  go_wp2_with fail
  refine (rsum_to (h.below hb1) Hs.out).mono ?_
  rintro e w2 ⟨rfl, rfl⟩
  go_wp2_with fail
  refine (four_any s _ hslt).mono ?_
  rintro e w2 ⟨rfl, hown2, hb2⟩
  have hB2 := isB_own hown2 (four_byte _ (by omega) (by omega))
  have hown1' := own_below hown1 hb2
  have hbw2 := below_size hb1 (Nat.le_refl _) hb2
  clear hown1 hown2 hb2
  go_wp2_with (at_builtin; refine app_bytes _ rfl _ _ rfl w.heap.size _ 4 (four (len : Int)) rfl hown1' _ _ _ _ rfl hB2 (by omega) (by omega) hbw2.size ?_)
  intro v3 w3 hown3 hb3
  have hbw3 := hbw2.trans hb3
  obtain ⟨g3, c3, hv3, hg3⟩ := own_shape hown3 (by omega)
  rw [hv3] at hown3 ⊢
  rw [← List.map_append] at hown3
  have h3 := h.below hbw3
  clear hB2 hown1' hbw2 hb3 hb1
  go_wp2_with (at_builtin; refine app_bytes _ rfl _ _ rfl w.heap.size _ 8 (four (len : Int) ++ four (s : Int)) rfl hown3 _ _ _ _ rfl h3 (by omega) (by omega) hbw3.size ?_)
  intro v4 w4 hown4 hb4
  have hbw4 := hbw3.trans hb4
  have hO : OwnB w4 w.heap.size v4 (frameB xs) := by
    have e : frameB xs = (four (len : Int) ++ four (s : Int)) ++ xs := by unfold frameB; rw [h.size, Hs.out]
    rw [e]
    refine ownB_of (n := 8 + len) ?_ (by rw [← e]; exact frameB_byte xs h.byte (by rw [h.size]; exact h2))
    simpa using hown4
  clear hown4 hown3
  obtain ⟨a', c', hv, _⟩ := hO.2
  rw [hv] at hO ⊢
  go_wp2
  go_ret2
  exact ⟨_, rfl, hO, hbw4⟩
end Go.Proofs.Ytgammgdckneoiaa
