/- The document's parser: tok, next, fail, need, deeper. -/
import Derived.Test.YtncfmhlikmibaaaGreatDoorDpa
import Derived.Test.YtncfmhlikmibaaaGreatDoorOth
namespace Go.Proofs.YtncfmhlikmibaaaGreatDoor
open Go.RowKit
set_option maxRecDepth 100000
set_option maxHeartbeats 16000000
section
variable {W : List Tk} {d p t : Nat} {w : World}
theorem Zb3 {i : Nat} {e : Int} (h : Pr w p W i d e t) (hi : i < W.length) :
  Calls Tryz.prog 122 #[.pointer (some ⟨p, 0, none⟩)] w fun e w' => e = .returned (Zdh W i) ∧ Below w.heap.size w w' := by
 have hiI : (i : Int) < (W.length : Int) := by omega
 have hi0 : (0 : Int) ≤ (i : Int) := by omega
 go_enter Tryz.func122, Tryz.ntmps122
 go_wp2_with (refine Zid _ rfl rfl ?_)
 intro q w1 E1 hq B1
 obtain ⟨b, off, c, c0, c1, c2, c3, c4, cf, k0, k1, k2, _⟩ := (h.bel B1).open_ hi
 go_wp2_with fail
 go_still_tail 10, (by kernel_rfl)
 refine Zgf _ rfl _ _ rfl rfl q _ _ _ rfl rfl E1 ?_
 intro w2 E2 S2
 go_wp2
 exact bodyPost_ret (v := Zdh W i) (Zas (a := 2) (t := 78) (by rfl) (by rfl) (Zf5 E2)) (by rfl) ⟨rfl, B1.drew.trans (S2.below hq)⟩
def nxtV (W : List Tk) (p n0 b off c : Nat) (j : Nat) : Value :=
 ([.pointer (some ⟨p, 0, none⟩),
  .pointer (some ⟨p, 0, none⟩),
  .pointer (some ⟨p, 0, none⟩),
  .slice (some ⟨b, off, none⟩) W.length c,
  .pointer (some ⟨p, 0, none⟩),
  .pointer (some ⟨p, 0, none⟩),
  .pointer (some ⟨p, 1, none⟩),
  .int .i64 (n0 : Int),
  .pointer (some ⟨b, off + n0 * 3, none⟩),
  .agg #[.int .i64 (kdW W n0), .string (strOfNums (txW W n0)), .int .i64 (psW W n0 : Int)]] : List Value).getD j undef
theorem Zfr {n0 : Nat} {e : Int} (h : Pr w p W n0 d e t) (hi : n0 < W.length) (he : e ≠ 0 ∨ kdW W n0 = 0) :
  Calls Tryz.prog 46 #[.pointer (some ⟨p, 0, none⟩)] w fun r w' => r = .returned (Zdh W n0) ∧ Below w.heap.size w w' := by
 have hiI : (n0 : Int) < (W.length : Int) := by omega
 have hi0 : (0 : Int) ≤ (n0 : Int) := by omega
 have hpl := h.lt
 go_enter Tryz.func46, Tryz.ntmps46
 go_wp2_with (refine Zid _ rfl rfl ?_)
 intro q w1 E1 hq B1
 have h1 := h.bel B1
 obtain ⟨b, off, c, c0, c1, c2, c3, c4, cf, k0, k1, k2, _⟩ := h1.open_ hi
 go_wp2_with fail
 refine Zah fun A hA => ?_
 have hsz : A.tmps.size = 32 := by rw [hA]; rfl
 have st : A.tmps[3]? = some (undef) := by rw [hA]; rfl
 have s0 : A.tmps[0]? = some (.pointer (some ⟨p, 0, none⟩)) := by rw [hA]; rfl
 refine zR1 (fun A D a w' => ∃ (l : List Value) (vt : Value) (q4 : Nat), a = (Zaj A 4 l).put (some 3) vt ∧ l.length = 10 ∧ (∀ j, j < 10 → D j → l[j]? = some (nxtV W p n0 b off c j)) ∧ (D 10 → vt = .pointer (some ⟨q4, 0, none⟩)) ∧ (D 11 ∨ Below w1.heap.size w1 w') ∧ (D 11 → ∃ w9, Below w1.heap.size w1 w9 ∧ w1.heap.size ≤ q4 ∧ q4 < w9.heap.size ∧ w'.heap[q4]? = some (tkO (kdW W n0) (strOfNums (txW W n0)) (psW W n0 : Int)) ∧ St q4 w9 w') ∧ (D 10 → ¬ D 11 → (w'.heap[q4]? = some (tkO 0 ⟨#[]⟩ 0) ∧ w1.heap.size ≤ q4))) ?start ?step ?done
 case start => exact ⟨_, _, 0, Zbo A 4 10 3 _ (by omega) (by decide) st, zG 4 10 hsz, zK, zf, .inr ((Below.refl _ _).drew), zf, zF⟩
 case step =>
  clear hA
  intro i o ho D a w' hI hn hcl hd
  obtain ⟨l, vt, q4, ha, Lh, hl, hvt, hB, hQ, hZ⟩ := hI
  match i, ho with
  | 0, ho =>
   cases zq ho
   have ev : a.tmps[0]? = some (.pointer (some ⟨p, 0, none⟩)) := zU 0 ha Lh hsz s0
   exact zx (.pointer (some ⟨p, 0, none⟩)) (by simp [execOp, ev, go_sem]) ⟨_, vt, q4, zt 0 ha Lh hsz, zh Lh, zk Lh hl, zr hvt, zl hB, zr hQ, zs hZ⟩
  | 1, ho =>
   cases zq ho
   have ev : a.tmps[4]? = some (.pointer (some ⟨p, 0, none⟩)) := zw ha hsz Lh hl 0 hd
   exact zx (.pointer (some ⟨p, 0, none⟩)) (by simp [execOp, ev, go_sem]) ⟨_, vt, q4, zt 1 ha Lh hsz, zh Lh, zk Lh hl, zr hvt, zl hB, zr hQ, zs hZ⟩
  | 2, ho =>
   cases zq ho
   have ev : a.tmps[5]? = some (.pointer (some ⟨p, 0, none⟩)) := zw ha hsz Lh hl 1 hd
   exact zx (.pointer (some ⟨p, 0, none⟩)) (by simp [execOp, ev, go_sem]) ⟨_, vt, q4, zt 2 ha Lh hsz, zh Lh, zk Lh hl, zr hvt, zl hB, zr hQ, zs hZ⟩
  | 3, ho =>
   cases zq ho
   have ev : a.tmps[6]? = some (.pointer (some ⟨p, 0, none⟩)) := zw ha hsz Lh hl 2 hd
   have hb := hB.resolve_left (fun h => hn (zc hcl 8 3 rfl (zc hcl 9 8 rfl (zc hcl 11 9 rfl h))))
   have y0 := (hb.cell (p := ⟨p, 0, none⟩) (block_lt_of_cell c0)).trans c0
   exact zx (.slice (some ⟨b, off, none⟩) W.length c) (by simp [execOp, ev, go_sem, y0]) ⟨_, vt, q4, zt 3 ha Lh hsz, zh Lh, zk Lh hl, zr hvt, zl hB, zr hQ, zs hZ⟩
  | 4, ho =>
   cases zq ho
   have ev : a.tmps[0]? = some (.pointer (some ⟨p, 0, none⟩)) := zU 0 ha Lh hsz s0
   exact zx (.pointer (some ⟨p, 0, none⟩)) (by simp [execOp, ev, go_sem]) ⟨_, vt, q4, zt 4 ha Lh hsz, zh Lh, zk Lh hl, zr hvt, zl hB, zr hQ, zs hZ⟩
  | 5, ho =>
   cases zq ho
   have ev : a.tmps[8]? = some (.pointer (some ⟨p, 0, none⟩)) := zw ha hsz Lh hl 4 hd
   exact zx (.pointer (some ⟨p, 0, none⟩)) (by simp [execOp, ev, go_sem]) ⟨_, vt, q4, zt 5 ha Lh hsz, zh Lh, zk Lh hl, zr hvt, zl hB, zr hQ, zs hZ⟩
  | 6, ho =>
   cases zq ho
   have ev : a.tmps[9]? = some (.pointer (some ⟨p, 0, none⟩)) := zw ha hsz Lh hl 5 hd
   exact zx (.pointer (some ⟨p, 1, none⟩)) (by simp [execOp, ev, go_sem]) ⟨_, vt, q4, zt 6 ha Lh hsz, zh Lh, zk Lh hl, zr hvt, zl hB, zr hQ, zs hZ⟩
  | 7, ho =>
   cases zq ho
   have ev : a.tmps[10]? = some (.pointer (some ⟨p, 1, none⟩)) := zw ha hsz Lh hl 6 hd
   have hb := hB.resolve_left (fun h => hn (zc hcl 8 7 rfl (zc hcl 9 8 rfl (zc hcl 11 9 rfl h))))
   have y0 := (hb.cell (p := ⟨p, 1, none⟩) (block_lt_of_cell c1)).trans c1
   exact zx (.int .i64 (n0 : Int)) (by simp [execOp, ev, go_sem, y0]) ⟨_, vt, q4, zt 7 ha Lh hsz, zh Lh, zk Lh hl, zr hvt, zl hB, zr hQ, zs hZ⟩
  | 8, ho =>
   cases zq ho
   have ev : a.tmps[7]? = some (.slice (some ⟨b, off, none⟩) W.length c) := zw ha hsz Lh hl 3 hd
   have ev' : a.tmps[11]? = some (.int .i64 (n0 : Int)) := zw ha hsz Lh hl 7 hd
   exact zx (.pointer (some ⟨b, off + n0 * 3, none⟩)) (by simp [execOp, ev, ev', go_sem, hi0, hiI, Za7]) ⟨_, vt, q4, zt 8 ha Lh hsz, zh Lh, zk Lh hl, zr hvt, zl hB, zr hQ, zs hZ⟩
  | 9, ho =>
   cases zq ho
   have ev : a.tmps[12]? = some (.pointer (some ⟨b, off + n0 * 3, none⟩)) := zw ha hsz Lh hl 8 hd
   have hb := hB.resolve_left (fun h => hn (zc hcl 11 9 rfl h))
   have y0 := (hb.cell (p := ⟨b, off + n0 * 3, none⟩) (block_lt_of_cell k0)).trans k0
   have y1 := (hb.cell (p := ⟨b, off + n0 * 3 + 1, none⟩) (block_lt_of_cell k1)).trans k1
   have y2 := (hb.cell (p := ⟨b, off + n0 * 3 + 2, none⟩) (block_lt_of_cell k2)).trans k2
   exact zx (.agg #[.int .i64 (kdW W n0), .string (strOfNums (txW W n0)), .int .i64 (psW W n0 : Int)]) (by simp [execOp, ev, go_sem, y0, y1, y2, Za7]) ⟨_, vt, q4, zt 9 ha Lh hsz, zh Lh, zk Lh hl, zr hvt, zl hB, zr hQ, zs hZ⟩
  | 10, ho =>
   cases zq ho
   have hb := hB.resolve_left (fun h => hn (zc hcl 11 10 rfl h))
   refine Zba (w' := w'.alloc (tkO 0 ⟨#[]⟩ 0)) (v := .pointer (some ⟨w'.heap.size, 0, none⟩)) (by simp [execOp, tkO, go_sem]) ?_
   exact ⟨l, (.pointer (some ⟨w'.heap.size, 0, none⟩)), w'.heap.size, by rw [ha]; exact Zbp _ _ _ _, Lh, zJ hl, fun _ => rfl, .inr (hb.trans (Below.mono Zbc hb.size)), za (fun h => hn (zc hcl 11 10 rfl h)), fun _ _ => ⟨Zc0 w' _, hb.size⟩⟩
  | 11, ho =>
   cases zq ho
   have ev : a.tmps[13]? = some (.agg #[.int .i64 (kdW W n0), .string (strOfNums (txW W n0)), .int .i64 (psW W n0 : Int)]) := zw ha hsz Lh hl 9 hd
   have hb := hB.resolve_left hn
   have Zq := hZ (zd hd 10) hn
   have e4 : a.tmps[3]? = some (.pointer (some ⟨q4, 0, none⟩)) := by rw [ha, hvt (zd hd 10)]; exact Zkh _ 3 _ (by rw [Zen _ _ _ (by omega)]; omega)
   refine wp_store_row (P := Tryz.prog) 78 (.tmp 3) (.tmp 13) rfl q4 #[.int .i64 (kdW W n0), .string (strOfNums (txW W n0)), .int .i64 (psW W n0 : Int)] (by simpa [Act.eval] using Zav e4) (by simpa [Act.eval] using Zav ev) 78 _ Zq.1 (by kernel_rfl) rfl (by simp [Value.oneCell']) ?_
   exact ⟨l, vt, q4, ha, Lh, zJ hl, zr hvt, .inl (.inl rfl), fun _ => ⟨w', hb, Zq.2, lt_of_block Zq.1, setRow_heap w' q4 _ _ _ _ Zq.1, St.row w' q4 _⟩, zi⟩
  | i + 12, ho => simp at ho
 rintro D a w' ⟨l, vt, q4, ha, Lh, hl, hvt, hB, hQ, hZ⟩ hall
 obtain rfl := hvt (hall 10 (by decide))
 obtain ⟨v0, v1, v2, v3, v4, v5, v6, v7, v8, v9, rfl⟩ := zL10 Lh
 obtain ⟨w9, B9, hq4, hq9, E4, S9⟩ := hQ (hall 11 (by decide))
 subst hA
 have hfr : a = _ := ha
 rw [hfr]
 clear hfr ha
 simp only [Zaj, yA, yB, yC, yD, yE, yF, yG, yH]
 have S9b : Below w1.heap.size w1 w' := B9.trans (S9.below hq4)
 clear hl hB hZ hQ hall
 replace h1 := h1.bel S9b
 replace E1 := (S9b.block _ (lt_of_block E1)).trans E1
 obtain ⟨b, off, c, c0, c1, c2, c3, c4, cf, k0, k1, k2, _⟩ := h1.open_ hi
 obtain ⟨t0, t1, t2, tf⟩ := Za1 E4
 rcases he with he | he
 ·have heb : (e == 0) = false := by simp [he]
  go_wp2_with (refine Zgf _ rfl _ _ rfl rfl q _ _ _ rfl rfl E1 ?_)
  intro w2 E2 S2
  go_wp2
  exact bodyPost_ret (v := Zdh W n0) (Zas (a := 2) (t := 78) (by rfl) (by rfl) (Zf5 E2)) (by rfl) ⟨rfl, B1.trans ((S9b.mono B1.size).trans (S2.below hq))⟩
 have heb : (kdW W n0 != 0) = false := by simp [he]
 by_cases hz : e = 0
 ·subst hz
  go_wp2_with (refine Zgf _ rfl _ _ rfl rfl q _ _ _ rfl rfl E1 ?_)
  intro w2 E2 S2
  go_wp2
  exact bodyPost_ret (v := Zdh W n0) (Zas (a := 2) (t := 78) (by rfl) (by rfl) (Zf5 (by rw [he]; exact E2))) (by rfl) ⟨rfl, B1.trans ((S9b.mono B1.size).trans (S2.below hq))⟩
 have hzb : (e == 0) = false := by simp [hz]
 go_wp2_with (refine Zgf _ rfl _ _ rfl rfl q _ _ _ rfl rfl E1 ?_)
 intro w2 E2 S2
 go_wp2
 exact bodyPost_ret (v := Zdh W n0) (Zas (a := 2) (t := 78) (by rfl) (by rfl) (Zf5 (by rw [he]; exact E2))) (by rfl) ⟨rfl, B1.trans ((S9b.mono B1.size).trans (S2.below hq))⟩
theorem Za9 {n0 : Nat} (h : Pr w p W n0 d 0 t) (hi : n0 < W.length) (hk : kdW W n0 ≠ 0) :
  Calls Tryz.prog 46 #[.pointer (some ⟨p, 0, none⟩)] w fun r w' => r = .returned (Zdh W n0) ∧ Pr w' p W (n0 + 1) d 0 t ∧ Fr p w.heap.size w w' := by
 have hiI : (n0 : Int) < (W.length : Int) := by omega
 have hi0 : (0 : Int) ≤ (n0 : Int) := by omega
 have hpl := h.lt
 go_enter Tryz.func46, Tryz.ntmps46
 go_wp2_with (refine Zid _ rfl rfl ?_)
 intro q w1 E1 hq B1
 have h1 := h.bel B1
 obtain ⟨b, off, c, c0, c1, c2, c3, c4, cf, k0, k1, k2, _⟩ := h1.open_ hi
 go_wp2_with fail
 refine Zah fun A hA => ?_
 have hsz : A.tmps.size = 32 := by rw [hA]; rfl
 have st : A.tmps[3]? = some (undef) := by rw [hA]; rfl
 have s0 : A.tmps[0]? = some (.pointer (some ⟨p, 0, none⟩)) := by rw [hA]; rfl
 refine zR1 (fun A D a w' => ∃ (l : List Value) (vt : Value) (q4 : Nat), a = (Zaj A 4 l).put (some 3) vt ∧ l.length = 10 ∧ (∀ j, j < 10 → D j → l[j]? = some (nxtV W p n0 b off c j)) ∧ (D 10 → vt = .pointer (some ⟨q4, 0, none⟩)) ∧ (D 11 ∨ Below w1.heap.size w1 w') ∧ (D 11 → ∃ w9, Below w1.heap.size w1 w9 ∧ w1.heap.size ≤ q4 ∧ q4 < w9.heap.size ∧ w'.heap[q4]? = some (tkO (kdW W n0) (strOfNums (txW W n0)) (psW W n0 : Int)) ∧ St q4 w9 w') ∧ (D 10 → ¬ D 11 → (w'.heap[q4]? = some (tkO 0 ⟨#[]⟩ 0) ∧ w1.heap.size ≤ q4))) ?start ?step ?done
 case start => exact ⟨_, _, 0, Zbo A 4 10 3 _ (by omega) (by decide) st, zG 4 10 hsz, zK, zf, .inr ((Below.refl _ _).drew), zf, zF⟩
 case step =>
  clear hA
  intro i o ho D a w' hI hn hcl hd
  obtain ⟨l, vt, q4, ha, Lh, hl, hvt, hB, hQ, hZ⟩ := hI
  match i, ho with
  | 0, ho =>
   cases zq ho
   have ev : a.tmps[0]? = some (.pointer (some ⟨p, 0, none⟩)) := zU 0 ha Lh hsz s0
   exact zx (.pointer (some ⟨p, 0, none⟩)) (by simp [execOp, ev, go_sem]) ⟨_, vt, q4, zt 0 ha Lh hsz, zh Lh, zk Lh hl, zr hvt, zl hB, zr hQ, zs hZ⟩
  | 1, ho =>
   cases zq ho
   have ev : a.tmps[4]? = some (.pointer (some ⟨p, 0, none⟩)) := zw ha hsz Lh hl 0 hd
   exact zx (.pointer (some ⟨p, 0, none⟩)) (by simp [execOp, ev, go_sem]) ⟨_, vt, q4, zt 1 ha Lh hsz, zh Lh, zk Lh hl, zr hvt, zl hB, zr hQ, zs hZ⟩
  | 2, ho =>
   cases zq ho
   have ev : a.tmps[5]? = some (.pointer (some ⟨p, 0, none⟩)) := zw ha hsz Lh hl 1 hd
   exact zx (.pointer (some ⟨p, 0, none⟩)) (by simp [execOp, ev, go_sem]) ⟨_, vt, q4, zt 2 ha Lh hsz, zh Lh, zk Lh hl, zr hvt, zl hB, zr hQ, zs hZ⟩
  | 3, ho =>
   cases zq ho
   have ev : a.tmps[6]? = some (.pointer (some ⟨p, 0, none⟩)) := zw ha hsz Lh hl 2 hd
   have hb := hB.resolve_left (fun h => hn (zc hcl 8 3 rfl (zc hcl 9 8 rfl (zc hcl 11 9 rfl h))))
   have y0 := (hb.cell (p := ⟨p, 0, none⟩) (block_lt_of_cell c0)).trans c0
   exact zx (.slice (some ⟨b, off, none⟩) W.length c) (by simp [execOp, ev, go_sem, y0]) ⟨_, vt, q4, zt 3 ha Lh hsz, zh Lh, zk Lh hl, zr hvt, zl hB, zr hQ, zs hZ⟩
  | 4, ho =>
   cases zq ho
   have ev : a.tmps[0]? = some (.pointer (some ⟨p, 0, none⟩)) := zU 0 ha Lh hsz s0
   exact zx (.pointer (some ⟨p, 0, none⟩)) (by simp [execOp, ev, go_sem]) ⟨_, vt, q4, zt 4 ha Lh hsz, zh Lh, zk Lh hl, zr hvt, zl hB, zr hQ, zs hZ⟩
  | 5, ho =>
   cases zq ho
   have ev : a.tmps[8]? = some (.pointer (some ⟨p, 0, none⟩)) := zw ha hsz Lh hl 4 hd
   exact zx (.pointer (some ⟨p, 0, none⟩)) (by simp [execOp, ev, go_sem]) ⟨_, vt, q4, zt 5 ha Lh hsz, zh Lh, zk Lh hl, zr hvt, zl hB, zr hQ, zs hZ⟩
  | 6, ho =>
   cases zq ho
   have ev : a.tmps[9]? = some (.pointer (some ⟨p, 0, none⟩)) := zw ha hsz Lh hl 5 hd
   exact zx (.pointer (some ⟨p, 1, none⟩)) (by simp [execOp, ev, go_sem]) ⟨_, vt, q4, zt 6 ha Lh hsz, zh Lh, zk Lh hl, zr hvt, zl hB, zr hQ, zs hZ⟩
  | 7, ho =>
   cases zq ho
   have ev : a.tmps[10]? = some (.pointer (some ⟨p, 1, none⟩)) := zw ha hsz Lh hl 6 hd
   have hb := hB.resolve_left (fun h => hn (zc hcl 8 7 rfl (zc hcl 9 8 rfl (zc hcl 11 9 rfl h))))
   have y0 := (hb.cell (p := ⟨p, 1, none⟩) (block_lt_of_cell c1)).trans c1
   exact zx (.int .i64 (n0 : Int)) (by simp [execOp, ev, go_sem, y0]) ⟨_, vt, q4, zt 7 ha Lh hsz, zh Lh, zk Lh hl, zr hvt, zl hB, zr hQ, zs hZ⟩
  | 8, ho =>
   cases zq ho
   have ev : a.tmps[7]? = some (.slice (some ⟨b, off, none⟩) W.length c) := zw ha hsz Lh hl 3 hd
   have ev' : a.tmps[11]? = some (.int .i64 (n0 : Int)) := zw ha hsz Lh hl 7 hd
   exact zx (.pointer (some ⟨b, off + n0 * 3, none⟩)) (by simp [execOp, ev, ev', go_sem, hi0, hiI, Za7]) ⟨_, vt, q4, zt 8 ha Lh hsz, zh Lh, zk Lh hl, zr hvt, zl hB, zr hQ, zs hZ⟩
  | 9, ho =>
   cases zq ho
   have ev : a.tmps[12]? = some (.pointer (some ⟨b, off + n0 * 3, none⟩)) := zw ha hsz Lh hl 8 hd
   have hb := hB.resolve_left (fun h => hn (zc hcl 11 9 rfl h))
   have y0 := (hb.cell (p := ⟨b, off + n0 * 3, none⟩) (block_lt_of_cell k0)).trans k0
   have y1 := (hb.cell (p := ⟨b, off + n0 * 3 + 1, none⟩) (block_lt_of_cell k1)).trans k1
   have y2 := (hb.cell (p := ⟨b, off + n0 * 3 + 2, none⟩) (block_lt_of_cell k2)).trans k2
   exact zx (.agg #[.int .i64 (kdW W n0), .string (strOfNums (txW W n0)), .int .i64 (psW W n0 : Int)]) (by simp [execOp, ev, go_sem, y0, y1, y2, Za7]) ⟨_, vt, q4, zt 9 ha Lh hsz, zh Lh, zk Lh hl, zr hvt, zl hB, zr hQ, zs hZ⟩
  | 10, ho =>
   cases zq ho
   have hb := hB.resolve_left (fun h => hn (zc hcl 11 10 rfl h))
   refine Zba (w' := w'.alloc (tkO 0 ⟨#[]⟩ 0)) (v := .pointer (some ⟨w'.heap.size, 0, none⟩)) (by simp [execOp, tkO, go_sem]) ?_
   exact ⟨l, (.pointer (some ⟨w'.heap.size, 0, none⟩)), w'.heap.size, by rw [ha]; exact Zbp _ _ _ _, Lh, zJ hl, fun _ => rfl, .inr (hb.trans (Below.mono Zbc hb.size)), za (fun h => hn (zc hcl 11 10 rfl h)), fun _ _ => ⟨Zc0 w' _, hb.size⟩⟩
  | 11, ho =>
   cases zq ho
   have ev : a.tmps[13]? = some (.agg #[.int .i64 (kdW W n0), .string (strOfNums (txW W n0)), .int .i64 (psW W n0 : Int)]) := zw ha hsz Lh hl 9 hd
   have hb := hB.resolve_left hn
   have Zq := hZ (zd hd 10) hn
   have e4 : a.tmps[3]? = some (.pointer (some ⟨q4, 0, none⟩)) := by rw [ha, hvt (zd hd 10)]; exact Zkh _ 3 _ (by rw [Zen _ _ _ (by omega)]; omega)
   refine wp_store_row (P := Tryz.prog) 78 (.tmp 3) (.tmp 13) rfl q4 #[.int .i64 (kdW W n0), .string (strOfNums (txW W n0)), .int .i64 (psW W n0 : Int)] (by simpa [Act.eval] using Zav e4) (by simpa [Act.eval] using Zav ev) 78 _ Zq.1 (by kernel_rfl) rfl (by simp [Value.oneCell']) ?_
   exact ⟨l, vt, q4, ha, Lh, zJ hl, zr hvt, .inl (.inl rfl), fun _ => ⟨w', hb, Zq.2, lt_of_block Zq.1, setRow_heap w' q4 _ _ _ _ Zq.1, St.row w' q4 _⟩, zi⟩
  | i + 12, ho => simp at ho
 rintro D a w' ⟨l, vt, q4, ha, Lh, hl, hvt, hB, hQ, hZ⟩ hall
 obtain rfl := hvt (hall 10 (by decide))
 obtain ⟨v0, v1, v2, v3, v4, v5, v6, v7, v8, v9, rfl⟩ := zL10 Lh
 obtain ⟨w9, B9, hq4, hq9, E4, S9⟩ := hQ (hall 11 (by decide))
 subst hA
 have hfr : a = _ := ha
 rw [hfr]
 clear hfr ha
 simp only [Zaj, yA, yB, yC, yD, yE, yF, yG, yH]
 have S9b : Below w1.heap.size w1 w' := B9.trans (S9.below hq4)
 clear hl hB hZ hQ hall
 replace h1 := h1.bel S9b
 replace E1 := (S9b.block _ (lt_of_block E1)).trans E1
 obtain ⟨b, off, c, c0, c1, c2, c3, c4, cf, k0, k1, k2, _⟩ := h1.open_ hi
 obtain ⟨t0, t1, t2, tf⟩ := Za1 E4
 have heb : (kdW W n0 != 0) = true := by simp [hk]
 have hw : IntKind.i64.wrap ((n0 : Int) + 1) = (n0 : Int) + 1 := by have := h1.len; unfold maxLen at this; rw [IntKind.wrap_i64]; omega
 go_upto_region 4 with fail
 have h2 := h1.setAt (n0 + 1)
 have S2 := St.cell w' p 1 (.int .i64 ((n0 + 1 : Nat) : Int))
 have hpp := h1.lt
 have hs01 := B1.size
 have hqp : q ≠ p := by omega
 have hq4p : q4 ≠ p := by omega
 replace E1 := (S2.block q hqp).trans E1
 replace E4 := (S2.block q4 hq4p).trans E4
 rw [show ((n0 + 1 : Nat) : Int) = (n0 : Int) + 1 by omega] at *
 generalize w'.setCell ⟨p, 1, none⟩ (.int .i64 ((n0 : Int) + 1)) = w5 at *
 clear c0 c1 c2 c3 c4 cf k0 k1 k2 t0 t1 t2 tf
 obtain ⟨t0, t1, t2, tf⟩ := Za1 E4
 go_wp2_with (refine Zgf _ rfl _ _ rfl rfl q _ _ _ rfl rfl E1 ?_)
 intro w2 E2 S3
 go_wp2
 exact bodyPost_ret (v := Zdh W n0) (Zas (a := 2) (t := 78) (by rfl) (by rfl) (Zf5 E2)) (by rfl) ⟨rfl, h2.st S3 (by omega), (Fr.of_below (B1.trans (S9b.mono B1.size))).trans (S2.fr.trans (Fr.of_below (B := w.heap.size) (S3.below hq)) zo) zo⟩
end
end Go.Proofs.YtncfmhlikmibaaaGreatDoor
