/- The walk of lapidarylaw01.WireText, where the bytes are not too many. -/
import Derived.Test.YtgammgdckneoiaaLawText
namespace Go.Proofs.Ytgammgdckneoiaa
open Go.RowKit

theorem text_tn {a : Option Addr} {len cap tn : Nat} {xs tx : List Int} {w : World} (h : IsB w a len cap xs) (h2 : len ≤ 60000) (hx : Hid (textB xs = tx)) (hn : Hid (tx.length = tn)) :
    Calls Try.prog 20 #[.slice a len cap] w fun e w' => ∃ av cv, e = .returned (.tuple #[.slice av tn cv, .int .i64 0]) ∧ IsB w' av tn cv tx ∧ Below w.heap.size w w' := by
  refine (text_to h h2).mono ?_
  rintro e w' ⟨av, cv, rfl, hB, hb⟩
  rw [hx.out, hn.out] at hB ⊢
  exact ⟨av, cv, rfl, hB, hb⟩
theorem rtext_tn {a : Option Addr} {len cap tn : Nat} {xs tx : List Int} {w : World} (h : IsB w a len cap xs) (h2 : len ≤ 60000) (hx : Hid (textB xs = tx)) (hn : Hid (tx.length = tn)) :
    Calls Try.prog 21 #[.slice a len cap] w fun e w' => ∃ av cv, e = .returned (.tuple #[.slice av tn cv, .int .i64 0]) ∧ IsB w' av tn cv tx ∧ Below w.heap.size w w' := by
  refine (rtext_to h h2).mono ?_
  rintro e w' ⟨av, cv, rfl, hB, hb⟩
  rw [hx.out, hn.out] at hB ⊢
  exact ⟨av, cv, rfl, hB, hb⟩

theorem readT_tn {a : Option Addr} {len cap k e3 n : Nat} {xs ys : List Int} {w : World} (h : IsB w a len cap xs) (hl : len ≤ 140737488500000) (hr : Hid (rtx xs = (ys, k, e3))) (hn : Hid (ys.length = n)) :
    Calls Try.prog 22 #[.slice a len cap] w fun e w' => ∃ av cv, e = .returned (.tuple #[.slice av n cv, .int .i64 (k : Int), .int .i64 (e3 : Int)]) ∧ OwnB w' w.heap.size (.slice av n cv) ys ∧ IsB w' av n cv ys ∧ Below w.heap.size w w' := by
  refine (readT_to h hl hr).mono ?_
  rintro e w' ⟨av, cv, rfl, hO, hB, hb⟩
  rw [hn.out] at hO hB ⊢
  exact ⟨av, cv, rfl, hO, hB, hb⟩
theorem rreadT_tn {a : Option Addr} {len cap k e3 n : Nat} {xs ys : List Int} {w : World} (h : IsB w a len cap xs) (hl : len ≤ 140737488500000) (hr : Hid (rtx xs = (ys, k, e3))) (hn : Hid (ys.length = n)) :
    Calls Try.prog 23 #[.slice a len cap] w fun e w' => ∃ av cv, e = .returned (.tuple #[.slice av n cv, .int .i64 (k : Int), .int .i64 (e3 : Int)]) ∧ OwnB w' w.heap.size (.slice av n cv) ys ∧ IsB w' av n cv ys ∧ Below w.heap.size w w' := by
  refine (rreadT_to h hl hr).mono ?_
  rintro e w' ⟨av, cv, rfl, hO, hB, hb⟩
  rw [hn.out] at hO hB ⊢
  exact ⟨av, cv, rfl, hO, hB, hb⟩

set_option maxRecDepth 100000 in
set_option maxHeartbeats 4000000 in
theorem wireText_short {a b : Option Addr} {la ca lb cb : Nat} {xs ys : List Int} {w : World} (ht : IsB w a la ca xs) (h : IsB w b lb cb ys) (hl : cb ≤ 140737488351232) (hshort : la ≤ 60000) :
    Calls Try.prog 5 #[.slice a la ca, .slice b lb cb] w fun e w' => e = .returned (.bool true) ∧ Below w.heap.size w w' := by
  have hl' : lb ≤ 140737488351232 := Nat.le_trans h.room hl
  have hxs := ht.size
  obtain ⟨zs, k, e3, hr⟩ : ∃ zs k e3, Hid (rtx ys = (zs, k, e3)) := ⟨_, _, _, rfl⟩
  obtain ⟨zn, hzn⟩ : ∃ zn, Hid (zs.length = zn) := ⟨_, rfl⟩
  obtain ⟨tx, hx⟩ : ∃ tx, Hid (textB xs = tx) := ⟨_, rfl⟩
  obtain ⟨tn, hn⟩ : ∃ tn, Hid (tx.length = tn) := ⟨_, rfl⟩
  have hr2 : Hid (rtx (tx ++ ys) = (xs, tn, 0)) := by show _ = _; rw [← hn.out, ← hx.out]; exact rtx_text xs ys (by omega)
  have htb : ∀ x ∈ tx, 0 ≤ x ∧ x < 256 := by rw [← hx.out]; exact textB_byte xs ht.byte (by omega)
  have htl : tn ≤ 60010 ∧ 1 ≤ tn := by
    have h1 := textB_len xs (by omega)
    have h2 := usz_bd xs.length
    rw [hx.out, hn.out] at h1
    omega
  go_enter Try.func5, Try.ntmps5
  go_wp2_with fail
  refine (lent_any h hl').mono ?_
  rintro e w1 ⟨rfl, hB, hb1⟩
  have h1 := h.below hb1
  have t1 := ht.below hb1
  go_wp2_with fail
  refine (text_tn t1 hshort hx hn).mono ?_
  rintro e w2 ⟨ax, cx, rfl, hX2, hb2⟩
  have t2 := t1.below hb2
  go_wp2_with fail
  refine (rtext_tn t2 hshort hx hn).mono ?_
  rintro e w3 ⟨ay, cy, rfl, hY3, hb3⟩
  have hb13 := below_size hb2 (Nat.le_refl _) hb3
  have hX3 := hX2.below hb3
  have hB3 := hB.below hb13
  have h3 := h1.below hb13
  have t3 := t2.below hb3
  have hbw3 := below_size hb1 (Nat.le_refl _) hb13
  have hf3 := hB3.front (ys := pad) h.size
  clear hB h1 t1 hX2 t2 hb13 hb2 hb3 hb1
  go_wp2_with fail
  refine (readT_tn hf3 (by omega) hr hzn).mono ?_
  rintro e w4 ⟨av, cv, rfl, hO4, hV4, hb4⟩
  go_wp2_with fail
  refine (rreadT_tn (h3.below hb4) (by omega) hr hzn).mono ?_
  rintro e w5 ⟨av', cv', rfl, hO5, hV5, hb5⟩
  have hbb : Below w3.heap.size w3 w5 := below_size hb4 (Nat.le_refl _) hb5
  have s0 := (hX3.below hbb).str
  have s0' := (hY3.below hbb).str
  have s1 := (hV4.below hb5).str
  have s2 := hV5.str
  have hO' := hO4.below hb5
  clear hO5 hV4 hV5 hO4 hf3
  go_wp2_with fail
  refine (spoil_own hO' (Nat.le_trans hb4.size hb5.size)).mono ?_
  rintro e w6 ⟨rfl, hb6⟩
  have hb36 := hbb.trans hb6
  have hB6 := hB3.below hb36
  have h6 := h3.below hb36
  have hY6 := hY3.below hb36
  have t6 := t3.below hb36
  have hbw := below_size hbw3 (Nat.le_refl _) hb36
  clear hO' s0 s0' s1 s2 hbb hb4 hb5 hb6 hB3 h3 hY3 hX3 t3 hbw3 hb36
  go_wp2_with fail
  refine (kept_true hB6 h6 hl').mono ?_
  rintro e w7 ⟨rfl, k7, rfl⟩
  have h7 := h6.drewN k7
  have hY7 := hY6.drewN k7
  have t7 := t6.drewN k7
  have hbw7 := below_drewN hbw k7
  clear hB6 h6 hY6 t6 hbw
  generalize w6.drewN k7 = w7 at *
  go_wp2_with (at_builtin; refine app_bytes _ rfl _ _ rfl w7.heap.size _ 0 [] rfl (World.ownsRow_nil _ _ _ _) _ _ _ _ rfl hY7 (by omega) (by omega) (Nat.le_refl _) ?_)
  intro v8 w8 hown8 hb8
  obtain ⟨g8, c8, hv8, hg8⟩ := own_shape hown8 (by omega)
  rw [hv8] at hown8 ⊢
  have h8 := h7.below hb8
  go_wp2_with (at_builtin; refine app_bytes _ rfl _ _ rfl w7.heap.size _ tn tx rfl hown8 _ _ _ _ rfl h8 (by omega) (by omega) hb8.size ?_)
  intro v9 w9 hown9 hb9
  obtain ⟨g9, c9, hv9, hg9⟩ := own_shape hown9 (by omega)
  rw [hv9] at hown9 ⊢
  rw [← List.map_append] at hown9
  have hB9 := isB_own hown9 (append_bytes _ _ htb h.byte)
  have hb79 := hb8.trans hb9
  have t9 := t7.below hb79
  have hY9 := hY7.below hb79
  have hbw9 := below_size hbw7 (Nat.le_refl _) hb79
  clear hown8 hown9 h8 hb8 hb9 hv8 hv9 h7 hY7 t7 hb79 hbw7
  go_wp2_with fail
  refine (readT_tn hB9 (by omega) hr2 hxs).mono ?_
  rintro e w10 ⟨au, cu, rfl, hO10, hU10, hb10⟩
  have s3 := hU10.str
  have s4 := (t9.below hb10).str
  have hbw10 := below_size hbw9 (Nat.le_refl _) hb10
  clear hO10 hU10 hB9 t9 hY9 hbw9 hb10
  go_wp2_with fail
  refine (known_any _).mono ?_
  rintro e w11 ⟨rfl, hb11⟩
  go_wp2
  go_ret
  exact ⟨rfl, below_size hbw10 (Nat.le_refl _) hb11⟩
end Go.Proofs.Ytgammgdckneoiaa
