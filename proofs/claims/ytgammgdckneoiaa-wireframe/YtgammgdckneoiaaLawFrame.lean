/- The walk of lapidarylaw01.WireFrame. -/
import Derived.Test.YtgammgdckneoiaaFrames
namespace Go.Proofs.Ytgammgdckneoiaa
open Go.RowKit

theorem frame_none (a : Option Addr) (len cap : Nat) (w : World) (h : len = 0 ∨ 60000 < len) (hm : len ≤ maxLen) :
    Calls Try.prog 25 #[.slice a len cap] w fun e w' => e = .returned (.tuple #[.slice none 0 0, .int .i64 3]) ∧ w = w' := by
  rcases h with rfl | h
  · exact frame_short a cap w
  · exact frame_long a len cap w h hm
theorem rframe_none (a : Option Addr) (len cap : Nat) (w : World) (h : len = 0 ∨ 60000 < len) (hm : len ≤ maxLen) :
    Calls Try.prog 26 #[.slice a len cap] w fun e w' => e = .returned (.tuple #[.slice none 0 0, .int .i64 3]) ∧ w = w' := by
  rcases h with rfl | h
  · exact rframe_short a cap w
  · exact rframe_long a len cap w h hm
theorem frame_tn {a : Option Addr} {len cap tn : Nat} {xs tx : List Int} {w : World} (h : IsB w a len cap xs) (h1 : 1 ≤ len) (h2 : len ≤ 60000) (hx : Hid (frameB xs = tx)) (hn : Hid (tx.length = tn)) :
    Calls Try.prog 25 #[.slice a len cap] w fun e w' => ∃ av cv, e = .returned (.tuple #[.slice av tn cv, .int .i64 0]) ∧ IsB w' av tn cv tx ∧ Below w.heap.size w w' := by
  refine (frame_ok a len cap xs w h h1 h2).mono ?_
  rintro e w' ⟨g, c, rfl, hown, hb⟩
  have hl : 8 + len = tn := by rw [← hn.out, ← hx.out, frameB_len, h.size]
  rw [hx.out, hl] at hown
  have htb : ∀ x ∈ tx, 0 ≤ x ∧ x < 256 := by rw [← hx.out]; exact frameB_byte xs h.byte (by rw [h.size]; exact h2)
  exact ⟨_, c, by rw [hl], isB_own hown htb, hb⟩
theorem rframe_tn {a : Option Addr} {len cap tn : Nat} {xs tx : List Int} {w : World} (h : IsB w a len cap xs) (h1 : 1 ≤ len) (h2 : len ≤ 60000) (hx : Hid (frameB xs = tx)) (hn : Hid (tx.length = tn)) :
    Calls Try.prog 26 #[.slice a len cap] w fun e w' => ∃ av cv, e = .returned (.tuple #[.slice av tn cv, .int .i64 0]) ∧ IsB w' av tn cv tx ∧ Below w.heap.size w w' := by
  refine (rframe_ok h h1 h2).mono ?_
  rintro e w' ⟨v, rfl, ⟨_, av, cv, rfl, hB⟩, hb⟩
  rw [hx.out, hn.out] at hB ⊢
  exact ⟨av, cv, rfl, hB, hb⟩

set_option maxRecDepth 100000 in
set_option maxHeartbeats 4000000 in
theorem wireFrame_none {a b : Option Addr} {la ca lb cb : Nat} {xs ys : List Int} {w : World} (ht : IsB w a la ca xs) (h : IsB w b lb cb ys) (hl : cb ≤ 140737488351232) (hlong : la = 0 ∨ 60000 < la) :
    Calls Try.prog 6 #[.slice a la ca, .slice b lb cb] w fun e w' => e = .returned (.bool true) ∧ Below w.heap.size w w' := by
  have hl' : lb ≤ 140737488351232 := Nat.le_trans h.room hl
  have hla : la ≤ maxLen := Nat.le_trans ht.room ht.most
  obtain ⟨zs, k, e3, hr⟩ : ∃ zs k e3, Hid (rfx ys = (zs, k, e3)) := ⟨_, _, _, rfl⟩
  obtain ⟨zn, hzn⟩ : ∃ zn, Hid (zs.length = zn) := ⟨_, rfl⟩
  go_enter Try.func6, Try.ntmps6
  go_wp2_with fail
  refine (lent_any h hl').mono ?_
  rintro e w1 ⟨rfl, hB, hb1⟩
  have h1 := h.below hb1
  have hf := hB.front (ys := pad) h.size
  go_wp2_with fail
  refine (frame_none a la ca w1 hlong hla).mono ?_
  rintro e w2 ⟨rfl, rfl⟩
  go_wp2_with fail
  refine (rframe_none a la ca w1 hlong hla).mono ?_
  rintro e w2 ⟨rfl, rfl⟩
  go_wp2_with fail
  refine (readF_tn hf (by omega) hr hzn).mono ?_
  rintro e w2 ⟨av, cv, rfl, hO2, hV2, hb2⟩
  go_wp2_with fail
  refine (rreadF_tn (h1.below hb2) (by omega) hr hzn).mono ?_
  rintro e w3 ⟨av', cv', rfl, hO3, hV3, hb3⟩
  have s0 := (isB_nil w3).str
  have s1 := (hV2.below hb3).str
  have s2 := hV3.str
  have hO2' := hO2.below hb3
  have hbb : Below w1.heap.size w1 w3 := below_size hb2 (Nat.le_refl _) hb3
  clear hO3 hV2 hV3 hO2 hf
  go_wp2_with fail
  refine (spoil_own hO2' (Nat.le_trans hb2.size hb3.size)).mono ?_
  rintro e w4 ⟨rfl, hb4⟩
  have hb14 := hbb.trans hb4
  have hB4 := hB.below hb14
  have h4 := h1.below hb14
  have hbw := below_size hb1 (Nat.le_refl _) hb14
  clear hO2' s0 s1 s2 hbb hb4 hb2 hb3 hB h1
  go_wp2_with fail
  refine (kept_true hB4 h4 hl').mono ?_
  rintro e w5 ⟨rfl, k5, rfl⟩
  have hB5 := hB4.drewN k5
  have h5 := h4.drewN k5
  go_wp2_with fail
  refine (kept_true hB5 h5 hl').mono ?_
  rintro e w5 ⟨rfl, k6, rfl⟩
  have hbw6 := below_drewN hbw (k5 + k6)
  clear hB4 h4 hB5 h5 hb14 hb1
  go_wp2_with fail
  refine (known_any _).mono ?_
  rintro e w6 ⟨rfl, hb6⟩
  go_wp2
  go_ret
  exact ⟨rfl, below_size hbw6 (Nat.le_refl _) hb6⟩
set_option maxRecDepth 100000 in
set_option maxHeartbeats 4000000 in
theorem wireFrame_some {a b : Option Addr} {la ca lb cb : Nat} {xs ys : List Int} {w : World} (ht : IsB w a la ca xs) (h : IsB w b lb cb ys) (hl : cb ≤ 140737488351232) (hpos : 1 ≤ la) (hshort : la ≤ 60000) :
    Calls Try.prog 6 #[.slice a la ca, .slice b lb cb] w fun e w' => e = .returned (.bool true) ∧ Below w.heap.size w w' := by
  have hl' : lb ≤ 140737488351232 := Nat.le_trans h.room hl
  have hxs := ht.size
  obtain ⟨zs, k, e3, hr⟩ : ∃ zs k e3, Hid (rfx ys = (zs, k, e3)) := ⟨_, _, _, rfl⟩
  obtain ⟨zn, hzn⟩ : ∃ zn, Hid (zs.length = zn) := ⟨_, rfl⟩
  obtain ⟨tx, hx⟩ : ∃ tx, Hid (frameB xs = tx) := ⟨_, rfl⟩
  obtain ⟨tn, hn⟩ : ∃ tn, Hid (tx.length = tn) := ⟨_, rfl⟩
  have hr2 : Hid (rfx (tx ++ ys) = (xs, tn, 0)) := by show _ = _; rw [← hn.out, ← hx.out]; exact rfx_frame xs ys (by omega) (by omega)
  have htb : ∀ x ∈ tx, 0 ≤ x ∧ x < 256 := by rw [← hx.out]; exact frameB_byte xs ht.byte (by omega)
  have htl : tn ≤ 60010 ∧ 1 ≤ tn := by
    have h1 := frameB_len xs
    rw [hx.out, hn.out] at h1
    omega
  go_enter Try.func6, Try.ntmps6
  go_wp2_with fail
  refine (lent_any h hl').mono ?_
  rintro e w1 ⟨rfl, hB, hb1⟩
  have h1 := h.below hb1
  have t1 := ht.below hb1
  go_wp2_with fail
  refine (frame_tn t1 hpos hshort hx hn).mono ?_
  rintro e w2 ⟨ax, cx, rfl, hX2, hb2⟩
  have t2 := t1.below hb2
  go_wp2_with fail
  refine (rframe_tn t2 hpos hshort hx hn).mono ?_
  rintro e w3 ⟨ay, cy, rfl, hY3, hb3⟩
  have hb13 := below_size hb2 (Nat.le_refl _) hb3
  have hX3 := hX2.below hb3
  have hB3 := hB.below hb13
  have h3 := h1.below hb13
  have t3 := t2.below hb3
  have hbw3 := below_size hb1 (Nat.le_refl _) hb13
  have hf3 := hB3.front (ys := pad) h.size
  clear hB h1 t1 hX2 t2 hb13 hb2 hb3 hb1
  go_wp2_with fail
  refine (readF_tn hf3 (by omega) hr hzn).mono ?_
  rintro e w4 ⟨av, cv, rfl, hO4, hV4, hb4⟩
  go_wp2_with fail
  refine (rreadF_tn (h3.below hb4) (by omega) hr hzn).mono ?_
  rintro e w5 ⟨av', cv', rfl, hO5, hV5, hb5⟩
  have hbb : Below w3.heap.size w3 w5 := below_size hb4 (Nat.le_refl _) hb5
  have s0 := (hX3.below hbb).str
  have s0' := (hY3.below hbb).str
  have s1 := (hV4.below hb5).str
  have s2 := hV5.str
  have hO' := hO4.below hb5
  clear hO5 hV4 hV5 hO4 hf3
  go_wp2_with fail
  refine (spoil_own hO' (Nat.le_trans hb4.size hb5.size)).mono ?_
  rintro e w6 ⟨rfl, hb6⟩
  have hb36 := hbb.trans hb6
  have hB6 := hB3.below hb36
  have h6 := h3.below hb36
  have hY6 := hY3.below hb36
  have t6 := t3.below hb36
  have hbw := below_size hbw3 (Nat.le_refl _) hb36
  clear hO' s0 s0' s1 s2 hbb hb4 hb5 hb6 hB3 h3 hY3 hX3 t3 hbw3 hb36
  go_wp2_with fail
  refine (kept_true hB6 h6 hl').mono ?_
  rintro e w7 ⟨rfl, k7, rfl⟩
  have h7 := h6.drewN k7
  have hY7 := hY6.drewN k7
  have t7 := t6.drewN k7
  have hbw7 := below_drewN hbw k7
  clear hB6 h6 hY6 t6 hbw
  generalize w6.drewN k7 = w7 at *
  go_wp2_with (at_builtin; refine app_bytes _ rfl _ _ rfl w7.heap.size _ 0 [] rfl (World.ownsRow_nil _ _ _ _) _ _ _ _ rfl hY7 (by omega) (by omega) (Nat.le_refl _) ?_)
  intro v8 w8 hown8 hb8
  obtain ⟨g8, c8, hv8, hg8⟩ := own_shape hown8 (by omega)
  rw [hv8] at hown8 ⊢
  have h8 := h7.below hb8
  go_wp2_with (at_builtin; refine app_bytes _ rfl _ _ rfl w7.heap.size _ tn tx rfl hown8 _ _ _ _ rfl h8 (by omega) (by omega) hb8.size ?_)
  intro v9 w9 hown9 hb9
  obtain ⟨g9, c9, hv9, hg9⟩ := own_shape hown9 (by omega)
  rw [hv9] at hown9 ⊢
  rw [← List.map_append] at hown9
  have hB9 := isB_own hown9 (append_bytes _ _ htb h.byte)
  have hb79 := hb8.trans hb9
  have t9 := t7.below hb79
  have hY9 := hY7.below hb79
  have hbw9 := below_size hbw7 (Nat.le_refl _) hb79
  clear hown8 hown9 h8 hb8 hb9 hv8 hv9 h7 hY7 t7 hb79 hbw7
  go_wp2_with fail
  refine (readF_tn hB9 (by omega) hr2 hxs).mono ?_
  rintro e w10 ⟨au, cu, rfl, hO10, hU10, hb10⟩
  have s3 := hU10.str
  have s4 := (t9.below hb10).str
  have hbw10 := below_size hbw9 (Nat.le_refl _) hb10
  clear hO10 hU10 hB9 t9 hY9 hbw9 hb10
  go_wp2_with fail
  refine (known_any _).mono ?_
  rintro e w11 ⟨rfl, hb11⟩
  go_wp2
  go_ret
  exact ⟨rfl, below_size hbw10 (Nat.le_refl _) hb11⟩
end Go.Proofs.Ytgammgdckneoiaa
