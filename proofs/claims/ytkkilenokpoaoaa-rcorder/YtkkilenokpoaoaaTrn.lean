/- Count; turned: ops in another order. -/
import Derived.Test.YtkkilenokpoaoaaGvn
import Derived.Test.YtkkilenokpoaoaaOrdM
namespace Go.Proofs.Ytkkilenokpoaoaa
open Go.RowKit
set_option maxRecDepth 100000
theorem Kp.nilB' {w w' : World} (h : Kp (.slice none 0 0) w w') : Below w.heap.size w w' := ⟨h.os, h.tape, h.output, h.size, fun j hj => h.block j hj (by simp [Value.ownBlock])⟩
theorem tmod_bdN (k : Int) (n : Nat) (hn : 0 < n) : -(n : Int) < k.tmod n ∧ k.tmod n < n := by
  have h1 := Int.tmod_lt_of_pos k (b := (n : Int)) (by omega)
  refine ⟨?_, h1⟩
  rcases Int.le_total 0 k with h | h
  · have := Int.tmod_nonneg (n : Int) h
    omega
  · have h3 := Int.tmod_nonneg (n : Int) (show 0 ≤ -k by omega)
    have h4 := Int.tmod_lt_of_pos (-k) (b := (n : Int)) (by omega)
    rw [Int.neg_tmod] at h3 h4
    omega
theorem count_of (k : Int) (n : Nat) (hn : 0 < n) (hb : n ≤ 100) (w : World) : Calls Try.prog 38 #[.int .i64 k, .int .i64 (n : Int)] w fun e w' => ∃ j : Nat, j < n ∧ e = .returned (.int .i64 (j : Int)) ∧ w = w' := by
  have h := tmod_bdN k n hn
  have h1 : ¬ (n : Int) < 1 := by omega
  have h2 : ¬ (n : Int) = 0 := by omega
  obtain ⟨m, hm⟩ : ∃ m, k.tmod n = m := ⟨_, rfl⟩
  rw [hm] at h
  by_cases hneg : m < 0
  · have hw : IntKind.i64.wrap (m + (n : Int)) = m + (n : Int) := by rw [IntKind.wrap_i64]; omega
    go_enter Try.func38, Try.ntmps38
    go_wp2
    go_ret
    exact ⟨(m + n).toNat, by omega, by rw [show ((m + n).toNat : Int) = m + n by omega]; rfl, rfl⟩
  · go_enter Try.func38, Try.ntmps38
    go_wp2
    go_ret
    exact ⟨m.toNat, by omega, by rw [show (m.toNat : Int) = m by omega]; rfl, rfl⟩
/-- What holds ahead of each round. -/
structure TuI (w : World) (l0 : List Pp) (lf out : List Pp) (H : Nat) (la : Option Addr) (lc : Nat) (oa : Option Addr) (oc : Nat) (wr : World) : Prop where
  perm : (out ++ lf).Perm l0
  left : OwnP wr H (.slice la lf.length lc) lf
  outs : OwnP wr w.heap.size (.slice oa out.length oc) out
  lt : ∀ g, (Value.slice oa out.length oc).ownBlock = some g → g < H
  bel : Below w.heap.size w wr
  le : H ≤ wr.heap.size
def lenOfV : Value → Nat
  | .slice _ n _ => n
  | _ => 0
theorem ownP_keep {w w' : World} {base : Nat} {v u : Value} {ps : List Pp} (h : OwnP w base v ps) (K : Kp u w w') (hne : ∀ g, v.ownBlock = some g → u.ownBlock ≠ some g) : OwnP w' base v ps :=
  ownP_of (own_same h.1 (fun g hg => by
    obtain ⟨_, cur, hh⟩ := own_block h.1 hg
    exact K.block g (lt_of_block hh) (hne g hg))) h.wf
theorem IsP.take {w : World} {g M lc k : Nat} {lf : List Pp} (h : IsP w (some ⟨g, 0, none⟩) M lc lf) (hk : k ≤ M) : IsP w (some ⟨g, 0, none⟩) k lc (lf.take k) := by
  have hs := h.size
  refine ⟨by rw [List.length_take]; omega, by have := h.room; omega, h.most, by simp, fun p hp => h.wf p (List.mem_of_mem_take hp), fun h0 => ?_⟩
  obtain ⟨b, off, e, c⟩ := h.cells (by omega)
  exact ⟨b, off, e, fun i p hp => c i p (by rw [List.getElem?_take] at hp; split at hp; exact hp; cases hp)⟩
theorem IsP.drop {w : World} {g M lc k : Nat} {lf : List Pp} (h : IsP w (some ⟨g, 0, none⟩) M lc lf) (hk : k + 1 ≤ M) : IsP w (some ⟨g, (k + 1) * 4, none⟩) (M - (k + 1)) (lc - (k + 1)) (lf.drop (k + 1)) := by
  have hs := h.size
  have hr := h.room
  have hm := h.most
  refine ⟨by rw [List.length_drop]; omega, by omega, by omega, by simp, fun p hp => h.wf p (List.mem_of_mem_drop hp), fun h0 => ?_⟩
  obtain ⟨b, off, e, c⟩ := h.cells (by omega)
  simp only [Option.some.injEq, Addr.mk.injEq] at e
  obtain ⟨rfl, rfl, _⟩ := e
  refine ⟨_, _, rfl, fun i p hp => ?_⟩
  rw [List.getElem?_drop] at hp
  have := c _ p hp
  rwa [show 0 + (k + 1 + i) * 4 = (k + 1) * 4 + i * 4 by omega] at this
theorem isP_none (w : World) (g : Nat) : IsP w (some ⟨g, 0, none⟩) 0 0 [] := ⟨rfl, Nat.le_refl _, by decide, by simp, by simp, fun h => absurd h (by decide)⟩
def TurnedP (w : World) (n : Nat) (l0 : List Pp) (e : Ending) (w' : World) : Prop := ∃ oa oc qs, e = .returned (.slice oa n oc) ∧ OwnP w' w.heap.size (.slice oa n oc) qs ∧ qs.Perm l0 ∧ Below w.heap.size w w'
set_option maxHeartbeats 4000000 in
theorem turned_any {w : World} {a ta : Option Addr} {n cap tn tc : Nat} {l0 : List Pp} {ts : List Int} (hP : IsP w a n cap l0) (hn : n ≤ 100) (hT : IsI w ta tn ts) :
    Calls Try.prog 21 #[.slice a n cap, .slice ta tn tc] w (TurnedP w n l0) := by
  have s1 := hP.size
  have s2 := hT.size
  have Hnil : OwnP w w.heap.size (.slice none 0 0) [] := ownP_of (n := 0) (World.ownsRow_nil _ _ _ _) (by intro p hp; cases hp)
  go_enter Try.func21, Try.ntmps21
  go_wp2_with (at_builtin; refine app_opsK _ rfl _ _ rfl w.heap.size _ [] rfl Hnil _ n cap l0 rfl hP (by simp; omega) (Nat.le_refl _) ?_)
  intro a1 n1 c1 w1 O1 K1
  have B1 := K1.nilB'
  obtain rfl : n = n1 := by rw [ownP_len O1]; exact s1.symm
  replace s1 : Hid (l0.length = n) := s1
  replace s2 : Hid (ts.length = tn) := s2
  have O1' := O1
  rw [← s1.out] at O1'
  have hI0 : TuI w l0 l0 [] w.heap.size a1 c1 none 0 w1 := ⟨by simp, O1', ownP_of (n := 0) (World.ownsRow_nil _ _ _ _) (by intro p hp; cases hp), by intro g hg; simp [Value.ownBlock] at hg, B1, B1.size⟩
  clear O1 O1' K1 B1 Hnil
  go_wp2_with fail
  go_loopw [5, 6, 7] (fun lv ov iv wr => ∃ (i : Nat) (lf out : List Pp) (H : Nat) (la : Option Addr) (lc : Nat) (oa : Option Addr) (oc : Nat), i ≤ 100 ∧ i + lf.length ≤ 100 ∧ iv = .int .i64 (i : Int) ∧ lv = .slice la lf.length lc ∧ ov = .slice oa out.length oc ∧ TuI w l0 lf out H la lc oa oc wr) (fun lv _ _ _ => lenOfV lv)
  case atStart => exact ⟨0, l0, [], _, a1, c1, none, 0, by omega, by rw [s1.out]; omega, rfl, by rw [s1.out], rfl, hI0⟩
  case round =>
    obtain ⟨i, lf, out, H, la, lc, oa, oc, hi, hil, rfl, rfl, rfl, hI⟩ := hrel
    clear hI0
    obtain ⟨M, hM⟩ : ∃ M, Hid (lf.length = M) := ⟨_, rfl⟩
    obtain ⟨X, hX⟩ : ∃ X, Hid (out.length = X) := ⟨_, rfl⟩
    have hXb : X ≤ 100 := by
      have h1 := hI.perm.length_eq
      rw [List.length_append, s1.out, hX.out] at h1
      omega
    have hMb : M ≤ 100 := by rw [← hM.out]; omega
    rw [hM.out, hX.out]
    have hw7 : IntKind.i64.wrap ((i : Int) + 1) = (i : Int) + 1 := by rw [IntKind.wrap_i64]; omega
    by_cases hpos : 0 < M
    · have hOL := hI.left
      rw [hM.out] at hOL
      obtain ⟨g, rfl⟩ : ∃ g, la = some ⟨g, 0, none⟩ := by
        rcases hOL.1.2 with ⟨e, h0⟩ | ⟨g, cap', cur, e, _⟩
        · have := hM.out; omega
        · simp only [Value.slice.injEq] at e; exact ⟨g, e.1⟩
      have hrm := hOL.isP.room
      have hlc : lc ≤ 9223372036854775807 := by have h1 := hOL.isP.most; unfold maxLen at h1; omega
      have hpI : (0 : Int) < (M : Int) := by omega
      by_cases htn : i < tn
      · obtain ⟨tb, toff, tx, rfl, htb, htx, htk, hti⟩ := (hT.below hI.bel).at_ i htn
        have hiI : (i : Int) < (tn : Int) := by omega
        go_wp2_with fail
        refine (count_of tx M hpos hMb wr).mono ?_
        rintro e w2 ⟨k, hkM, rfl, rfl⟩
        clear htx
        have hkl : k < lf.length := by rw [hM.out]; exact hkM
        obtain ⟨p, hpk0⟩ : ∃ p, lf[k]? = some p := ⟨_, List.getElem?_eq_getElem hkl⟩
        have hpk : Hid (lf[k]? = some p) := hpk0
        have hok := hOL.wf p (List.mem_of_getElem? hpk0)
        obtain ⟨q0, q1, q2, q3⟩ : IsPp wr g (0 + k * 4) p := isPp_own (by have h1 := hOL.1; rwa [hM.out] at h1) hpk0
        clear hpk0 hkl
        obtain ⟨oo, ad, pk, pN⟩ := p
        simp only [Nat.zero_add] at q0 q1 q2 q3
        have hkI : (k : Int) < (M : Int) := by omega
        have hkc : k ≤ lc := by omega
        have hw8 : IntKind.i64.wrap ((k : Int) + 1) = (k : Int) + 1 := by rw [IntKind.wrap_i64]; omega
        by_cases hcc : lc = k + 1
        · obtain rfl : M = lc := by omega
          have hcI : (k : Int) + 1 = (M : Int) := by omega
          have hwM : IntKind.i64.wrap (M : Int) = (M : Int) := by rw [IntKind.wrap_i64]; omega
          replace hcc : Hid (M = k + 1) := hcc
          clear hw8
          have hP1 : IsP (wr.alloc (.cells #[.int .i64 oo, .bool ad, .int .i64 pk, .int .i64 pN] 66)) (some ⟨wr.heap.size, 0, none⟩) 1 1 [⟨oo, ad, pk, pN⟩] := isP_lit wr [⟨oo, ad, pk, pN⟩] 1 rfl (by decide) (by intro p hp; rw [List.mem_singleton] at hp; subst hp; exact hok)
          have Ba : Below wr.heap.size wr (wr.alloc (.cells #[.int .i64 oo, .bool ad, .int .i64 pk, .int .i64 pN] 66)) := box_below
          have Oo := hI.outs.below Ba
          have hwb := hI.bel.size
          rw [hX.out] at Oo
          go_wp2_with (at_builtin; refine app_opsK _ rfl _ _ rfl w.heap.size _ out rfl Oo _ 1 1 [⟨oo, ad, pk, pN⟩] rfl hP1 (by rw [hX.out]; omega) (by have := Ba.size; omega) ?_)
          intro a3 n3 c3 w3 O3 K3
          have OL : OwnP w3 H (.slice (some ⟨g, 0, none⟩) M M) lf := ownP_keep (hOL.below Ba) K3 (fun g' hg' => fun he => by
            have h1 := (own_block hOL.1 hg').1
            have h2 := hI.lt g' (by rw [hX.out]; exact he)
            omega)
          have B3 : Below w.heap.size w w3 := K3.below (below_size hI.bel hI.bel.size Ba) (by have := Ba.size; omega) (fun g' hg' => (own_block Oo.1 hg').1)
          have O3b : ∀ g', (Value.slice a3 n3 c3).ownBlock = some g' → g' < w3.heap.size := fun g' hg' => (O3.1.lt g' hg').2
          clear q0 q1 q2 q3 hP1 K3 Oo Ba
          have Hnil : OwnP w3 w3.heap.size (.slice none 0 0) [] := ownP_of (n := 0) (World.ownsRow_nil _ _ _ _) (by intro p hp; cases hp)
          have IT := OL.isP.take (k := k) (by omega)
          have ITl := IT.size
          go_wp2_with (at_builtin; refine app_opsK _ rfl _ _ rfl w3.heap.size _ [] rfl Hnil _ k M (lf.take k) rfl IT (by simp; omega) (Nat.le_refl _) ?_)
          intro a4 n4 c4 w4 O4 K4
          have B4 := K4.nilB'
          obtain rfl : k = n4 := by rw [ownP_len O4]; exact ITl.symm
          have ID : IsP w4 (some ⟨g, 0, none⟩) 0 0 (lf.drop (k + 1)) := by rw [List.drop_eq_nil_of_le (by rw [hM.out]; omega)]; exact isP_none w4 g
          have IDl := ID.size
          clear K4 Hnil IT
          go_wp2_with (at_builtin; refine app_opsK _ rfl _ _ rfl w3.heap.size _ (lf.take k) rfl O4 _ 0 0 (lf.drop (k + 1)) rfl ID (by rw [ITl]; omega) B4.size ?_)
          intro a5 n5 c5 w5 O5 K5
          have Oout : OwnP w5 w.heap.size (.slice a3 n3 c3) (out ++ [⟨oo, ad, pk, pN⟩]) := ownP_keep (O3.below B4) K5 (fun g' hg' => fun he => by
            have h1 := O3b g' hg'
            have h2 := (own_block O4.1 he).1
            omega)
          have B5 : Below w.heap.size w w5 := K5.below (B3.trans (B4.mono B3.size)) (Nat.le_trans B3.size B4.size) (fun g' hg' => Nat.le_trans B3.size (own_block O4.1 hg').1)
          have hl5 : w3.heap.size ≤ w5.heap.size := Nat.le_trans B4.size K5.size
          obtain rfl := ownP_len O3
          obtain rfl := ownP_len O5
          have hpm : ((out ++ [(⟨oo, ad, pk, pN⟩ : Pp)]) ++ (lf.take k ++ lf.drop (k + 1))).Perm l0 := by
            refine List.Perm.trans ?_ hI.perm
            rw [List.append_assoc]
            exact List.Perm.append_left out (perm_out hpk.out)
          have hlen5 : Hid ((lf.take k ++ lf.drop (k + 1)).length + 1 = lf.length) := by rw [Hid, List.length_append, ITl, IDl]; have := hM.out; omega
          have hI5 : TuI w l0 (lf.take k ++ lf.drop (k + 1)) (out ++ [⟨oo, ad, pk, pN⟩]) w3.heap.size a5 c5 a3 c3 w5 := ⟨hpm, O5, Oout, O3b, B5, hl5⟩
          clear hpm O5 Oout O3b B5 hl5 K5 ID B4 O4 OL B3 O3 IDl ITl hpk
          generalize lf.take k ++ lf.drop (k + 1) = lf2 at *
          generalize out ++ [(⟨oo, ad, pk, pN⟩ : Pp)] = out2 at *
          go_wp2
          go_roundw
          case rel => exact ⟨i + 1, lf2, out2, _, a5, c5, a3, c3, by have := hlen5.out; have := hM.out; omega, by have := hlen5.out; omega, by go_num, rfl, rfl, hI5⟩
          case measure => have := hlen5.out; have := hM.out; simp only [lenOfV]; omega
        · have hb1 : (0 : Int) ≤ (k : Int) + 1 := by omega
          have htn1 : ((k : Int) + 1).toNat = k + 1 := by omega
          have hb5 : (k : Int) + 1 ≤ (M : Int) := by omega
          have hP1 : IsP (wr.alloc (.cells #[.int .i64 oo, .bool ad, .int .i64 pk, .int .i64 pN] 66)) (some ⟨wr.heap.size, 0, none⟩) 1 1 [⟨oo, ad, pk, pN⟩] := isP_lit wr [⟨oo, ad, pk, pN⟩] 1 rfl (by decide) (by intro p hp; rw [List.mem_singleton] at hp; subst hp; exact hok)
          have Ba : Below wr.heap.size wr (wr.alloc (.cells #[.int .i64 oo, .bool ad, .int .i64 pk, .int .i64 pN] 66)) := box_below
          have Oo := hI.outs.below Ba
          have hwb := hI.bel.size
          rw [hX.out] at Oo
          go_wp2_with (at_builtin; refine app_opsK _ rfl _ _ rfl w.heap.size _ out rfl Oo _ 1 1 [⟨oo, ad, pk, pN⟩] rfl hP1 (by rw [hX.out]; omega) (by have := Ba.size; omega) ?_)
          intro a3 n3 c3 w3 O3 K3
          have OL : OwnP w3 H (.slice (some ⟨g, 0, none⟩) M lc) lf := ownP_keep (hOL.below Ba) K3 (fun g' hg' => fun he => by
            have h1 := (own_block hOL.1 hg').1
            have h2 := hI.lt g' (by rw [hX.out]; exact he)
            omega)
          have B3 : Below w.heap.size w w3 := K3.below (below_size hI.bel hI.bel.size Ba) (by have := Ba.size; omega) (fun g' hg' => (own_block Oo.1 hg').1)
          have O3b : ∀ g', (Value.slice a3 n3 c3).ownBlock = some g' → g' < w3.heap.size := fun g' hg' => (O3.1.lt g' hg').2
          clear q0 q1 q2 q3 hP1 K3 Oo Ba
          have Hnil : OwnP w3 w3.heap.size (.slice none 0 0) [] := ownP_of (n := 0) (World.ownsRow_nil _ _ _ _) (by intro p hp; cases hp)
          have IT := OL.isP.take (k := k) (by omega)
          have ITl := IT.size
          go_wp2_with (at_builtin; refine app_opsK _ rfl _ _ rfl w3.heap.size _ [] rfl Hnil _ k lc (lf.take k) rfl IT (by simp; omega) (Nat.le_refl _) ?_)
          intro a4 n4 c4 w4 O4 K4
          have B4 := K4.nilB'
          obtain rfl : k = n4 := by rw [ownP_len O4]; exact ITl.symm
          have ID : IsP w4 (some ⟨g, (k + 1) * 4, none⟩) (M - (k + 1)) (lc - (k + 1)) (lf.drop (k + 1)) := (OL.isP.below B4).drop (by omega)
          have IDl := ID.size
          clear K4 Hnil IT
          go_wp2_with (at_builtin; refine app_opsK _ rfl _ _ rfl w3.heap.size _ (lf.take k) rfl O4 _ (M - (k + 1)) (lc - (k + 1)) (lf.drop (k + 1)) rfl ID (by rw [ITl]; omega) B4.size ?_)
          intro a5 n5 c5 w5 O5 K5
          have Oout : OwnP w5 w.heap.size (.slice a3 n3 c3) (out ++ [⟨oo, ad, pk, pN⟩]) := ownP_keep (O3.below B4) K5 (fun g' hg' => fun he => by
            have h1 := O3b g' hg'
            have h2 := (own_block O4.1 he).1
            omega)
          have B5 : Below w.heap.size w w5 := K5.below (B3.trans (B4.mono B3.size)) (Nat.le_trans B3.size B4.size) (fun g' hg' => Nat.le_trans B3.size (own_block O4.1 hg').1)
          have hl5 : w3.heap.size ≤ w5.heap.size := Nat.le_trans B4.size K5.size
          obtain rfl := ownP_len O3
          obtain rfl := ownP_len O5
          have hpm : ((out ++ [(⟨oo, ad, pk, pN⟩ : Pp)]) ++ (lf.take k ++ lf.drop (k + 1))).Perm l0 := by
            refine List.Perm.trans ?_ hI.perm
            rw [List.append_assoc]
            exact List.Perm.append_left out (perm_out hpk.out)
          have hlen5 : Hid ((lf.take k ++ lf.drop (k + 1)).length + 1 = lf.length) := by rw [Hid, List.length_append, ITl, IDl]; have := hM.out; omega
          have hI5 : TuI w l0 (lf.take k ++ lf.drop (k + 1)) (out ++ [⟨oo, ad, pk, pN⟩]) w3.heap.size a5 c5 a3 c3 w5 := ⟨hpm, O5, Oout, O3b, B5, hl5⟩
          clear hpm O5 Oout O3b B5 hl5 K5 ID B4 O4 OL B3 O3 IDl ITl hpk
          generalize lf.take k ++ lf.drop (k + 1) = lf2 at *
          generalize out ++ [(⟨oo, ad, pk, pN⟩ : Pp)] = out2 at *
          go_wp2
          go_roundw
          case rel => exact ⟨i + 1, lf2, out2, _, a5, c5, a3, c3, by have := hlen5.out; have := hM.out; omega, by have := hlen5.out; omega, by go_num, rfl, rfl, hI5⟩
          case measure => have := hlen5.out; have := hM.out; simp only [lenOfV]; omega
      · have hiI : ¬ (i : Int) < (tn : Int) := by omega
        have hkl : 0 < lf.length := by rw [hM.out]; exact hpos
        obtain ⟨p, hpk0⟩ : ∃ p, lf[0]? = some p := ⟨_, List.getElem?_eq_getElem hkl⟩
        have hpk : Hid (lf[0]? = some p) := hpk0
        have hok := hOL.wf p (List.mem_of_getElem? hpk0)
        obtain ⟨q0, q1, q2, q3⟩ : IsPp wr g (0 + 0 * 4) p := isPp_own (by have h1 := hOL.1; rwa [hM.out] at h1) hpk0
        clear hpk0 hkl
        obtain ⟨oo, ad, pk, pN⟩ := p
        simp only [Nat.zero_mul, Nat.zero_add] at q0 q1 q2 q3
        by_cases hM1 : M = 1
        · subst hM1
          have hP1 : IsP (wr.alloc (.cells #[.int .i64 oo, .bool ad, .int .i64 pk, .int .i64 pN] 66)) (some ⟨wr.heap.size, 0, none⟩) 1 1 [⟨oo, ad, pk, pN⟩] := isP_lit wr [⟨oo, ad, pk, pN⟩] 1 rfl (by decide) (by intro p hp; rw [List.mem_singleton] at hp; subst hp; exact hok)
          have Ba : Below wr.heap.size wr (wr.alloc (.cells #[.int .i64 oo, .bool ad, .int .i64 pk, .int .i64 pN] 66)) := box_below
          have Oo := hI.outs.below Ba
          have hwb := hI.bel.size
          rw [hX.out] at Oo
          go_wp2_with (at_builtin; refine app_opsK _ rfl _ _ rfl w.heap.size _ out rfl Oo _ 1 1 [⟨oo, ad, pk, pN⟩] rfl hP1 (by rw [hX.out]; omega) (by have := Ba.size; omega) ?_)
          intro a3 n3 c3 w3 O3 K3
          have OL : OwnP w3 H (.slice (some ⟨g, 0, none⟩) 1 lc) lf := ownP_keep (hOL.below Ba) K3 (fun g' hg' => fun he => by
            have h1 := (own_block hOL.1 hg').1
            have h2 := hI.lt g' (by rw [hX.out]; exact he)
            omega)
          have B3 : Below w.heap.size w w3 := K3.below (below_size hI.bel hI.bel.size Ba) (by have := Ba.size; omega) (fun g' hg' => (own_block Oo.1 hg').1)
          have O3b : ∀ g', (Value.slice a3 n3 c3).ownBlock = some g' → g' < w3.heap.size := fun g' hg' => (O3.1.lt g' hg').2
          clear q0 q1 q2 q3 hP1 K3 Oo Ba
          obtain rfl := ownP_len O3
          have hpm : ((out ++ [(⟨oo, ad, pk, pN⟩ : Pp)]) ++ []).Perm l0 := by
            refine List.Perm.trans ?_ hI.perm
            rw [List.append_nil]
            refine List.Perm.append_left out ?_
            have h1 := perm_out hpk.out
            rw [List.take_zero, List.drop_eq_nil_of_le (by rw [hM.out]; omega)] at h1
            simpa using h1
          have hI5 : TuI w l0 [] (out ++ [⟨oo, ad, pk, pN⟩]) w3.heap.size none 0 a3 c3 w3 := ⟨hpm, ownP_of (n := 0) (World.ownsRow_nil _ _ _ _) (by intro p hp; cases hp), O3, O3b, B3, Nat.le_refl _⟩
          clear hpm O3b OL B3 O3 hpk
          generalize out ++ [(⟨oo, ad, pk, pN⟩ : Pp)] = out2 at *
          go_wp2
          all_goals go_roundw
          all_goals first
            | (exact ⟨i + 1, [], out2, _, none, 0, a3, c3, by have := hM.out; omega, by simp; have := hM.out; omega, by go_num, rfl, rfl, hI5⟩)
            | (simp only [lenOfV]; omega)
        · have hb5 : (1 : Int) ≤ (M : Int) := by omega
          have hb6 : 1 ≤ M := by omega
          have hcc : ¬ lc = 1 := by omega
          have hMn : ¬ (M - 1 = 0) := by omega
          have hMn' : 0 < M - 1 := by omega
          have hP1 : IsP (wr.alloc (.cells #[.int .i64 oo, .bool ad, .int .i64 pk, .int .i64 pN] 66)) (some ⟨wr.heap.size, 0, none⟩) 1 1 [⟨oo, ad, pk, pN⟩] := isP_lit wr [⟨oo, ad, pk, pN⟩] 1 rfl (by decide) (by intro p hp; rw [List.mem_singleton] at hp; subst hp; exact hok)
          have Ba : Below wr.heap.size wr (wr.alloc (.cells #[.int .i64 oo, .bool ad, .int .i64 pk, .int .i64 pN] 66)) := box_below
          have Oo := hI.outs.below Ba
          have hwb := hI.bel.size
          rw [hX.out] at Oo
          go_wp2_with (at_builtin; refine app_opsK _ rfl _ _ rfl w.heap.size _ out rfl Oo _ 1 1 [⟨oo, ad, pk, pN⟩] rfl hP1 (by rw [hX.out]; omega) (by have := Ba.size; omega) ?_)
          intro a3 n3 c3 w3 O3 K3
          have OL : OwnP w3 H (.slice (some ⟨g, 0, none⟩) M lc) lf := ownP_keep (hOL.below Ba) K3 (fun g' hg' => fun he => by
            have h1 := (own_block hOL.1 hg').1
            have h2 := hI.lt g' (by rw [hX.out]; exact he)
            omega)
          have B3 : Below w.heap.size w w3 := K3.below (below_size hI.bel hI.bel.size Ba) (by have := Ba.size; omega) (fun g' hg' => (own_block Oo.1 hg').1)
          have O3b : ∀ g', (Value.slice a3 n3 c3).ownBlock = some g' → g' < w3.heap.size := fun g' hg' => (O3.1.lt g' hg').2
          clear q0 q1 q2 q3 hP1 K3 Oo Ba
          have Hnil : OwnP w3 w3.heap.size (.slice none 0 0) [] := ownP_of (n := 0) (World.ownsRow_nil _ _ _ _) (by intro p hp; cases hp)
          have ID : IsP w3 (some ⟨g, 4, none⟩) (M - 1) (lc - 1) (lf.drop 1) := by simpa using OL.isP.drop (k := 0) (by omega)
          have IDl := ID.size
          go_wp2_with (at_builtin; refine app_opsK _ rfl _ _ rfl w3.heap.size _ [] rfl Hnil _ (M - 1) (lc - 1) (lf.drop 1) rfl ID (by simp; omega) (Nat.le_refl _) ?_)
          intro a5 n5 c5 w5 O5 K5
          have B4 := K5.nilB'
          have O5' : OwnP w5 w3.heap.size (.slice a5 n5 c5) (lf.drop 1) := by simpa using O5
          have Oout := O3.below B4
          have B5 := B3.trans (B4.mono B3.size)
          have hl5 := B4.size
          obtain rfl := ownP_len O3
          obtain rfl := ownP_len O5'
          have hpm : ((out ++ [(⟨oo, ad, pk, pN⟩ : Pp)]) ++ lf.drop 1).Perm l0 := by
            refine List.Perm.trans ?_ hI.perm
            rw [List.append_assoc]
            exact List.Perm.append_left out (by simpa using perm_out hpk.out)
          have hlen5 : Hid ((lf.drop 1).length + 1 = lf.length) := by rw [Hid, IDl]; have := hM.out; omega
          have hI5 : TuI w l0 (lf.drop 1) (out ++ [⟨oo, ad, pk, pN⟩]) w3.heap.size a5 c5 a3 c3 w5 := ⟨hpm, O5', Oout, O3b, B5, hl5⟩
          clear hpm O5 O5' Oout O3b B5 hl5 K5 ID B4 OL B3 O3 IDl hpk Hnil
          generalize lf.drop 1 = lf2 at *
          generalize out ++ [(⟨oo, ad, pk, pN⟩ : Pp)] = out2 at *
          go_wp2
          go_roundw
          case rel => exact ⟨i + 1, lf2, out2, _, a5, c5, a3, c3, by have := hlen5.out; have := hM.out; omega, by have := hlen5.out; omega, by go_num, rfl, rfl, hI5⟩
          case measure => have := hlen5.out; have := hM.out; simp only [lenOfV]; omega
    · have hpI : ¬ (0 : Int) < (M : Int) := by omega
      have hl0 : Hid (lf = []) := List.eq_nil_of_length_eq_zero (by rw [hM.out]; omega)
      go_wp2
      go_ret
      have hpm := hI.perm
      rw [hl0.out, List.append_nil] at hpm
      have hXn : X = n := by rw [← hX.out, hpm.length_eq]; exact s1.out
      have OO := hI.outs
      rw [hX.out] at OO
      subst hXn
      exact ⟨oa, oc, out, rfl, OO, hpm, hI.bel⟩
end Go.Proofs.Ytkkilenokpoaoaa
