/- An object as bytes. -/
import Derived.Test.YtjfaflmmanjjbaaAppN
namespace Go.Proofs.Ytjfaflmmanjjbaa
open Go.RowKit
set_option maxRecDepth 100000
def valsB (vs : List (Int × Int)) : List Int := vs.flatMap fun v => valB v.1 v.2
/-- The bytes of an object. -/
def objY (c : Int) (vs : List (Int × Int)) (bs : List Int) : List Int := uvar c.toNat ++ (uvar vs.length ++ (valsB vs ++ textB bs))
theorem valsB_snoc {vs : List (Int × Int)} {k : Nat} {x y : Int} (h : vs[k]? = some (x, y)) : valsB (vs.take (k + 1)) = valsB (vs.take k) ++ valB x y := by
  rw [take_at h]
  simp [valsB]
theorem okVs_at {vs : List (Int × Int)} {k : Nat} {x y : Int} (h : okVs vs = true) (hk : vs[k]? = some (x, y)) : okV x y = true := by
  unfold okVs at h
  rw [List.all_eq_true] at h
  exact h _ (List.mem_of_getElem? hk)
theorem okVs_take {vs : List (Int × Int)} (h : okVs vs = true) (k : Nat) : okVs (vs.take k) = true := by
  unfold okVs at h ⊢
  rw [List.all_eq_true] at h ⊢
  exact fun x hx => h x (List.mem_of_mem_take hx)
theorem valsB_len : ∀ {vs : List (Int × Int)}, okVs vs = true → (valsB vs).length ≤ vs.length * 11
  | [], _ => by simp [valsB]
  | v :: t, h => by
    unfold okVs at h
    rw [List.all_cons, Bool.and_eq_true] at h
    have h1 := valB_len h.1
    have h2 := valsB_len (vs := t) h.2
    have e : valsB (v :: t) = valB v.1 v.2 ++ valsB t := rfl
    rw [e, List.length_append, List.length_cons]
    omega
theorem okO_parts {c : Int} {vs : List (Int × Int)} {n : Nat} (h : okO c vs n = true) : (1 ≤ c ∧ c ≤ 4096) ∧ vs.length ≤ 256 ∧ n ≤ 1024 ∧ okVs vs = true := by
  unfold okO at h
  simp only [Bool.and_eq_true, decide_eq_true_eq] at h
  exact ⟨of_decide_eq_true h.1.1.1, h.1.1.2, h.1.2, h.2⟩
theorem OwnB.shape' {w : World} {base : Nat} {v : Value} {xs : List Int} (h : OwnB w base v xs) : ∃ a n c, v = .slice a n c := by
  obtain ⟨a, c, e⟩ := h.shape
  exact ⟨a, _, c, e⟩
set_option maxHeartbeats 4000000 in
theorem appendObj_any {w0 w : World} {v : Value} {xs : List Int} (h : OwnB w w0.heap.size v xs) {c : Int} {sa ba : Option Addr} {sn sc bn bc : Nat} {vs : List (Int × Int)} {bs : List Int} (ho : IsO w0 c sa sn sc ba bn bc vs bs) (hok : okO c vs bn = true) (B0 : Below w0.heap.size w0 w) (hl : xs.length ≤ 100000000) :
    Calls Try.prog 43 #[v, .agg #[.int .i64 c, .slice sa sn sc, .slice ba bn bc]] w fun e w' => ∃ v', e = .returned v' ∧ OwnB w' w0.heap.size v' (xs ++ objY c vs bs) ∧ Gr w0.heap.size w w' := by
  obtain ⟨hc, hn, hbn, hvs⟩ := okO_parts hok
  obtain ⟨a, na, ca, rfl⟩ := h.shape'
  have hsz := ho.v.size
  have hbsz := ho.b.size
  obtain ⟨m, rfl⟩ : ∃ m : Nat, c = (m : Int) := ⟨c.toNat, by omega⟩
  have hul1 : (uvar m).length ≤ 10 := by rw [uvar_length m (by omega)]; exact (usz_bd m).2
  have hul2 : (uvar sn).length ≤ 10 := by rw [uvar_length sn (by omega)]; exact (usz_bd sn).2
  have hbase := B0.size
  have e0 : objY (m : Int) vs bs = uvar m ++ (uvar sn ++ (valsB vs ++ textB bs)) := by unfold objY; rw [Int.toNat_natCast, hsz]
  rw [e0]
  clear e0 hok
  go_enter Try.func43, Try.ntmps43
  go_wp2_with fail
  refine (appendNumber_any (h.below box_below) m (by omega) (by omega) (Nat.le_trans hbase box_below.size)).mono ?_
  rintro e w2 ⟨v2, rfl, O2, G2⟩
  have E2 := G2.keep w.heap.size #[.int .i64 (m : Int), .slice sa sn sc, .slice ba bn bc] 27 (by decide) (new1 _ _)
  have G2' : Gr w0.heap.size w w2 := (Gr.of box_below hbase).trans G2
  clear G2 h
  obtain ⟨z0, z1, z2, zf⟩ := obj_cells (c := (m : Int)) E2
  obtain ⟨a2, n2, c2, rfl⟩ := O2.shape'
  have hb2 := G2'.below.size
  go_wp2_with fail
  refine (appendNumber_any O2 sn (by omega) (by rw [List.length_append]; omega) (by omega)).mono ?_
  rintro e w3 ⟨v3, rfl, O3, G3⟩
  have E3 := G3.keep w.heap.size _ 27 (by decide) E2
  have G3' := G2'.trans G3
  obtain ⟨a3, n3, c3, rfl⟩ := O3.shape'
  clear O2 E2 G2' G3 z0 z1 z2 zf
  obtain ⟨z0, z1, z2, zf⟩ := obj_cells (c := (m : Int)) E3
  go_wp2
  obtain ⟨ys, hys⟩ : ∃ ys, Hid (xs ++ uvar m ++ uvar sn = ys) := ⟨_, rfl⟩
  have hyl : ys.length ≤ 100000020 := by rw [← hys.out, List.length_append, List.length_append]; omega
  rw [hys.out] at O3
  clear z0 z1 z2 zf hul1 hul2
  go_loopw [0, 21] (fun bv iv wr => ∃ (k : Nat) (a : Option Addr) (n c : Nat), k ≤ sn ∧ iv = .int .i64 (k : Int) ∧ bv = .slice a n c ∧ OwnB wr w0.heap.size (.slice a n c) (ys ++ valsB (vs.take k)) ∧ Gr w0.heap.size w wr ∧ wr.heap[w.heap.size]? = some (objB (m : Int) (.slice sa sn sc) (.slice ba bn bc))) (fun _ iv _ => sn - (intOf iv).toNat)
  case atStart => exact ⟨0, a3, n3, c3, by omega, rfl, rfl, by simpa [valsB] using O3, G3', E3⟩
  case round =>
    clear O3 G3' E3
    obtain ⟨k, a, n, c, hk, rfl, rfl, O, G, E⟩ := hrel
    have hvl := valsB_len (okVs_take hvs k)
    rw [List.length_take] at hvl
    have hbr := G.below.size
    by_cases hlt : k < sn
    · obtain ⟨b, off, x, y, rfl, hbl, c0, c1, hx, _, _⟩ := (ho.v.below (B0.trans G.below)).at_ k hlt
      have hok := okVs_at hvs hx.out
      have hsn := valsB_snoc hx.out
      replace hsn : Hid (valsB (vs.take (k + 1)) = valsB (vs.take k) ++ valB x y) := hsn
      go_wp2_with fail
      refine (appendVal_any (O.below box_below) x y hok (by rw [List.length_append]; omega) (by simp; omega)).mono ?_
      rintro e w5 ⟨v5, rfl, O5, G5⟩
      have G6 := G.trans ((Gr.of box_below (by omega)).trans G5)
      have E6 := G5.keep w.heap.size _ 27 (by decide) (old1 E _)
      obtain ⟨a5, n5, c5, rfl⟩ := O5.shape'
      rw [List.append_assoc, ← hsn.out] at O5
      clear O G E G5 c0 c1 hsn hok
      go_wp2
      go_roundw
      case rel => exact ⟨k + 1, a5, n5, c5, by omega, by go_num, rfl, O5, G6, E6⟩
      case measure => simp [intOf]; omega
    · rw [List.take_of_length_le (by omega)] at O
      obtain ⟨z0, z1, z2, zf⟩ := obj_cells E
      have hB := ho.b.below (B0.trans G.below)
      go_wp2_with fail
      refine (text_to hB (by omega)).mono ?_
      rintro e w5 ⟨av, cv, rfl, I5, B5⟩
      have O5 := O.below B5
      have sz5 := B5.size
      have htl := textB_len bs (by omega)
      have husz := usz_bd bs.length
      replace htl : Hid ((textB bs).length = usz bs.length + bs.length) := htl
      obtain ⟨tn, htn⟩ : ∃ n, Hid ((textB bs).length = n) := ⟨_, rfl⟩
      rw [htn.out] at I5 ⊢
      have htl2 : tn ≤ 2000 := by have h1 := htl.out; have h2 := htn.out; omega
      have hvl2 : (valsB vs).length ≤ 2816 := by have := valsB_len hvs; omega
      clear z0 z1 z2 zf hB O E hvl
      go_wp2_with (at_builtin; refine app_own _ rfl _ _ rfl w0.heap.size _ (ys ++ valsB vs) rfl O5 _ _ _ _ rfl I5 (by rw [List.length_append]; omega) (by omega) ?_)
      intro a6 n6 c6 w6 O6 G6
      have G7 := G.trans ((Gr.of B5 (by omega)).trans G6)
      have e7 : xs ++ (uvar m ++ (uvar sn ++ (valsB vs ++ textB bs))) = ys ++ valsB vs ++ textB bs := by rw [← hys.out]; simp only [List.append_assoc]
      replace e7 : Hid (xs ++ (uvar m ++ (uvar sn ++ (valsB vs ++ textB bs))) = ys ++ valsB vs ++ textB bs) := e7
      clear O5 I5 G G6 B5
      go_wp2
      go_ret
      exact ⟨_, rfl, by rw [e7.out]; first | exact O6 | (rw [List.append_assoc]; exact O6), G7⟩
theorem objY_byte {c : Int} {vs : List (Int × Int)} {bs : List Int} (hok : okO c vs bs.length = true) (hb : ∀ x ∈ bs, 0 ≤ x ∧ x < 256) : ∀ x ∈ objY c vs bs, 0 ≤ x ∧ x < 256 := by
  obtain ⟨hc, hn, hbn, hvs⟩ := okO_parts hok
  unfold objY
  refine append_bytes _ _ (uvar_byte _ (by omega)) (append_bytes _ _ (uvar_byte _ (by omega)) (append_bytes _ _ ?_ (textB_byte _ hb (by omega))))
  intro x hx
  unfold valsB at hx
  rw [List.mem_flatMap] at hx
  obtain ⟨v, hv, hx⟩ := hx
  unfold okVs at hvs
  rw [List.all_eq_true] at hvs
  exact valB_byte (hvs v hv) x hx
theorem objY_len {c : Int} {vs : List (Int × Int)} {bs : List Int} (hok : okO c vs bs.length = true) : (objY c vs bs).length ≤ 4000 := by
  obtain ⟨hc, hn, hbn, hvs⟩ := okO_parts hok
  unfold objY
  have h1 := uvar_length c.toNat (by omega)
  have h2 := usz_bd c.toNat
  have h3 := uvar_length vs.length (by omega)
  have h4 := usz_bd vs.length
  have h5 := valsB_len hvs
  have h6 := textB_len bs (by omega)
  have h7 := usz_bd bs.length
  simp only [List.length_append]
  omega
set_option maxHeartbeats 1000000 in
theorem put_ok {w : World} {c : Int} {sa ba : Option Addr} {sn sc bn bc : Nat} {vs : List (Int × Int)} {bs : List Int} (h : IsO w c sa sn sc ba bn bc vs bs) (hok : okO c vs bn = true) :
    Calls Try.prog 22 #[.agg #[.int .i64 c, .slice sa sn sc, .slice ba bn bc]] w fun e w' => ∃ v, e = .returned (.tuple #[v, .int .i64 0]) ∧ OwnB w' w.heap.size v (objY c vs bs) ∧ Below w.heap.size w w' := by
  have hbm := h.b.most
  have hbr := h.b.room
  go_enter Try.func22, Try.ntmps22
  go_wp2_with fail
  refine (rightObj_any c (h.below box_below).v (by omega)).mono ?_
  rintro e w2 ⟨rfl, B2⟩
  rw [hok]
  have B3 : Below w.heap.size w w2 := below_size box_below box_below.size B2
  have E3 := (B2.block w.heap.size (by simp)).trans (new1 w (objB c (.slice sa sn sc) (.slice ba bn bc)))
  obtain ⟨z0, z1, z2, zf⟩ := obj_cells E3
  clear B2
  go_wp2_with fail
  refine (appendObj_any (ownB_nil w2 w.heap.size) h hok B3 (by simp)).mono ?_
  rintro e w5 ⟨v, rfl, O5, G5⟩
  rw [List.nil_append] at O5
  have B6 := B3.trans G5.below
  obtain ⟨a, n, cc, rfl⟩ := O5.shape'
  clear z0 z1 z2 zf E3 G5
  go_wp2
  go_ret2
  exact ⟨_, rfl, O5, B6⟩
theorem put_no {w : World} {c : Int} {sa ba : Option Addr} {sn sc bn bc : Nat} {vs : List (Int × Int)} {bs : List Int} (h : IsO w c sa sn sc ba bn bc vs bs) (hok : okO c vs bn = false) :
    Calls Try.prog 22 #[.agg #[.int .i64 c, .slice sa sn sc, .slice ba bn bc]] w fun e w' => e = .returned (.tuple #[.slice none 0 0, .int .i64 1]) ∧ Below w.heap.size w w' := by
  have hbm := h.b.most
  have hbr := h.b.room
  go_enter Try.func22, Try.ntmps22
  go_wp2_with fail
  refine (rightObj_any c (h.below box_below).v (by omega)).mono ?_
  rintro e w2 ⟨rfl, B2⟩
  rw [hok]
  have B3 : Below w.heap.size w w2 := below_size box_below box_below.size B2
  clear B2
  go_wp2
  go_ret2
  exact ⟨rfl, B3⟩
end Go.Proofs.Ytjfaflmmanjjbaa
