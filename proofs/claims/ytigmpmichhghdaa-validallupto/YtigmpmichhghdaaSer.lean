/- Serial, of the document and of the program. -/
import Derived.Test.YtigmpmichhghdaaWth
namespace Go.Proofs.Ytigmpmichhghdaa
open Go.RowKit
set_option maxRecDepth 100000
/-- What Serial answers, from one on. -/
def serA (ds : List Tx) : Nat → List Tx → Value
  | k, [] => .tuple #[.int .i64 (k : Int), .int .i64 0, .bool true]
  | k, t :: r => match serR ds t with
    | some n => .tuple #[.int .i64 (k : Int), .int .i64 n, .bool false]
    | none => serA ds (k + 1) r
/-- None stood in the way so far. -/
def SerI (ms : List Tm) (k : Nat) : Prop := serA (ms.map Tm.d) 0 (ms.map Tm.d) = serA (ms.map Tm.d) k ((ms.drop k).map Tm.d)
theorem SerI.start {ms : List Tm} : SerI ms 0 := rfl
theorem SerI.none {ms : List Tm} {k : Nat} {x : Tm} (h : SerI ms k) (hx : ms[k]? = some x) (hr : serR (ms.map Tm.d) x.d = Option.none) : SerI ms (k + 1) := by
  unfold SerI at h ⊢
  have hk := (List.getElem?_eq_some_iff.1 hx).1
  have e : ms.drop k = x :: ms.drop (k + 1) := by
    rw [List.drop_eq_getElem_cons hk]
    congr 1
    have := hx
    rw [List.getElem?_eq_getElem hk] at this
    exact Option.some.inj this
  rw [h, e]
  show (match serR (ms.map Tm.d) x.d with | Option.some n => _ | Option.none => _) = _
  rw [hr]
theorem SerI.some {ms : List Tm} {k : Nat} {x : Tm} {q : Int} (h : SerI ms k) (hx : ms[k]? = Option.some x) (hr : serR (ms.map Tm.d) x.d = Option.some q) : serA (ms.map Tm.d) 0 (ms.map Tm.d) = .tuple #[.int .i64 (k : Int), .int .i64 q, .bool false] := by
  unfold SerI at h
  have hk := (List.getElem?_eq_some_iff.1 hx).1
  have e : ms.drop k = x :: ms.drop (k + 1) := by
    rw [List.drop_eq_getElem_cons hk]
    congr 1
    have := hx
    rw [List.getElem?_eq_getElem hk] at this
    exact Option.some.inj this
  rw [h, e]
  show (match serR (ms.map Tm.d) x.d with | Option.some n => _ | Option.none => _) = _
  rw [hr]
theorem SerI.fin {ms : List Tm} {k : Nat} (h : SerI ms k) (hk : ms.length = k) : serA (ms.map Tm.d) 0 (ms.map Tm.d) = .tuple #[.int .i64 (k : Int), .int .i64 0, .bool true] := by
  unfold SerI at h
  rw [h, List.drop_of_length_le (by omega)]
  rfl
set_option maxHeartbeats 8000000 in
theorem rserial_any {w : World} {da : Option Addr} {dn dc : Nat} {ms : List Tm} (h : IsTs w da dn dc ms) (hdn : dn ≤ 1048576) (hsh : Short ms) :
    Calls Try.prog 14 #[.slice da dn dc] w fun e w' => e = .returned (serA (ms.map Tm.d) 0 (ms.map Tm.d)) ∧ Below w.heap.size w w' := by
  have hsz : Hid (ms.length = dn) := h.size
  have hdnI : dn ≤ 9223372036854775807 := by omega
  go_enter Try.func14, Try.ntmps14
  go_wp2
  go_loopw [5] (fun iv wr => ∃ k : Nat, k ≤ dn ∧ iv = .int .i64 (k : Int) ∧ SerI ms k ∧ Below w.heap.size w wr) (fun iv _ => dn - (intOf iv).toNat)
  case atStart => exact ⟨0, by omega, rfl, SerI.start, Below.refl _ _⟩
  case round =>
    obtain ⟨k, hkk, rfl, hse, B⟩ := hrel
    by_cases hlt : k < dn
    · obtain ⟨b, off, x, rfl, _, d0, d1, d2, d3, hx, hxin⟩ := (h.below B).at_ k hlt
      have hkI : (k : Int) < (dn : Int) := by omega
      have hk0 : (0 : Int) ≤ (k : Int) := by omega
      have hxl := hsh x (List.mem_of_getElem? hx.out)
      have hI := h.below B
      obtain ⟨rc, hrc⟩ : ∃ rc, Hid (wiR (ms.map Tm.d) x.base x.rs x.ws (some x.com) = rc) := ⟨_, rfl⟩
      go_upto_region 4 with fail
      refine wp_region_inv' (fun A D a w' => ∃ v15 v16 v17 v18 v19 v20 v21 v22 v23 v24 v25 v14 v26 v27 v6 v7, a = ((((((((((((((((A.put (some 15) v15).put (some 16) v16).put (some 17) v17).put (some 18) v18).put (some 19) v19).put (some 20) v20).put (some 21) v21).put (some 22) v22).put (some 23) v23).put (some 24) v24).put (some 25) v25).put (some 14) v14).put (some 26) v26).put (some 27) v27).put (some 6) v6).put (some 7) v7) ∧ Below wr.heap.size wr w' ∧ (D 0 → v15 = .slice (some ⟨b, off, none⟩) dn dc) ∧ (D 1 → v16 = .slice (some ⟨b, off, none⟩) dn dc) ∧ (D 2 → v17 = .int .i64 (k : Int)) ∧ (D 3 → v18 = .pointer (some ⟨b, off + k * 4, none⟩)) ∧ (D 4 → v19 = .agg #[.int .i64 (Tm.base x), .int .i64 (Tm.com x), .slice (Tm.ra x) (Tm.rn x) (Tm.rc x), .slice (Tm.wa x) (Tm.wn x) (Tm.wc x)]) ∧ (D 5 → v20 = .slice (some ⟨b, off, none⟩) dn dc) ∧ (D 6 → v21 = .int .i64 (k : Int)) ∧ (D 7 → v22 = .pointer (some ⟨b, off + k * 4, none⟩)) ∧ (D 8 → v23 = .pointer (some ⟨b, off + k * 4 + 1, none⟩)) ∧ (D 9 → v24 = .int .i64 (Tm.com x)) ∧ (D 10 → v25 = .tuple #[.int .i64 (rc.getD 0), .bool rc.isSome]) ∧ (D 11 → v14 = .tuple #[.int .i64 (rc.getD 0), .bool rc.isSome]) ∧ (D 12 → v26 = .int .i64 (rc.getD 0)) ∧ (D 13 → v27 = .bool rc.isSome) ∧ (D 14 → v6 = .int .i64 (rc.getD 0)) ∧ (D 15 → v7 = .bool rc.isSome)) (by kernel_rfl) (by kernel_rfl) ?mono ?start ?step ?done
      case mono =>
        rintro D D' a w' hD ⟨v15, v16, v17, v18, v19, v20, v21, v22, v23, v24, v25, v14, v26, v27, v6, v7, ha, hB, e0, e1, e2, e3, e4, e5, e6, e7, e8, e9, e10, e11, e12, e13, e14, e15⟩
        exact ⟨v15, v16, v17, v18, v19, v20, v21, v22, v23, v24, v25, v14, v26, v27, v6, v7, ha, hB, fun h => e0 ((hD 0).2 h), fun h => e1 ((hD 1).2 h), fun h => e2 ((hD 2).2 h), fun h => e3 ((hD 3).2 h), fun h => e4 ((hD 4).2 h), fun h => e5 ((hD 5).2 h), fun h => e6 ((hD 6).2 h), fun h => e7 ((hD 7).2 h), fun h => e8 ((hD 8).2 h), fun h => e9 ((hD 9).2 h), fun h => e10 ((hD 10).2 h), fun h => e11 ((hD 11).2 h), fun h => e12 ((hD 12).2 h), fun h => e13 ((hD 13).2 h), fun h => e14 ((hD 14).2 h), fun h => e15 ((hD 15).2 h)⟩
      case start => exact ⟨u15, u16, u17, u18, u19, u20, u21, u22, u23, u24, u25, u14, u26, u27, u6, u7, by kernel_rfl, (Below.refl _ _).drew, fun h => h.elim, fun h => h.elim, fun h => h.elim, fun h => h.elim, fun h => h.elim, fun h => h.elim, fun h => h.elim, fun h => h.elim, fun h => h.elim, fun h => h.elim, fun h => h.elim, fun h => h.elim, fun h => h.elim, fun h => h.elim, fun h => h.elim, fun h => h.elim⟩
      case step =>
        intro i o ho D a w' hI hn hcl hd
        obtain ⟨v15, v16, v17, v18, v19, v20, v21, v22, v23, v24, v25, v14, v26, v27, v6, v7, ha, hB, e0, e1, e2, e3, e4, e5, e6, e7, e8, e9, e10, e11, e12, e13, e14, e15⟩ := hI
        match i, ho with
        | 0, ho =>
          cases Option.some.inj ho
          have ev : a.tmps[0]?.getD undef = .slice (some ⟨b, off, none⟩) dn dc := by rw [ha]; kernel_rfl
          refine wp_value (w' := w') (v := .slice (some ⟨b, off, none⟩) dn dc) (by simp [execOp, ev, go_sem]) ?_
          exact ⟨(.slice (some ⟨b, off, none⟩) dn dc), v16, v17, v18, v19, v20, v21, v22, v23, v24, v25, v14, v26, v27, v6, v7, by rw [ha]; kernel_rfl, hB, fun _ => rfl, fun h => e1 (h.resolve_left (by decide)), fun h => e2 (h.resolve_left (by decide)), fun h => e3 (h.resolve_left (by decide)), fun h => e4 (h.resolve_left (by decide)), fun h => e5 (h.resolve_left (by decide)), fun h => e6 (h.resolve_left (by decide)), fun h => e7 (h.resolve_left (by decide)), fun h => e8 (h.resolve_left (by decide)), fun h => e9 (h.resolve_left (by decide)), fun h => e10 (h.resolve_left (by decide)), fun h => e11 (h.resolve_left (by decide)), fun h => e12 (h.resolve_left (by decide)), fun h => e13 (h.resolve_left (by decide)), fun h => e14 (h.resolve_left (by decide)), fun h => e15 (h.resolve_left (by decide))⟩
        | 1, ho =>
          cases Option.some.inj ho
          have ev : a.tmps[0]?.getD undef = .slice (some ⟨b, off, none⟩) dn dc := by rw [ha]; kernel_rfl
          refine wp_value (w' := w') (v := .slice (some ⟨b, off, none⟩) dn dc) (by simp [execOp, ev, go_sem]) ?_
          exact ⟨v15, (.slice (some ⟨b, off, none⟩) dn dc), v17, v18, v19, v20, v21, v22, v23, v24, v25, v14, v26, v27, v6, v7, by rw [ha]; kernel_rfl, hB, fun h => e0 (h.resolve_left (by decide)), fun _ => rfl, fun h => e2 (h.resolve_left (by decide)), fun h => e3 (h.resolve_left (by decide)), fun h => e4 (h.resolve_left (by decide)), fun h => e5 (h.resolve_left (by decide)), fun h => e6 (h.resolve_left (by decide)), fun h => e7 (h.resolve_left (by decide)), fun h => e8 (h.resolve_left (by decide)), fun h => e9 (h.resolve_left (by decide)), fun h => e10 (h.resolve_left (by decide)), fun h => e11 (h.resolve_left (by decide)), fun h => e12 (h.resolve_left (by decide)), fun h => e13 (h.resolve_left (by decide)), fun h => e14 (h.resolve_left (by decide)), fun h => e15 (h.resolve_left (by decide))⟩
        | 2, ho =>
          cases Option.some.inj ho
          have ev : a.tmps[5]?.getD undef = .int .i64 (k : Int) := by rw [ha]; kernel_rfl
          refine wp_value (w' := w') (v := .int .i64 (k : Int)) (by simp [execOp, ev, go_sem]) ?_
          exact ⟨v15, v16, (.int .i64 (k : Int)), v18, v19, v20, v21, v22, v23, v24, v25, v14, v26, v27, v6, v7, by rw [ha]; kernel_rfl, hB, fun h => e0 (h.resolve_left (by decide)), fun h => e1 (h.resolve_left (by decide)), fun _ => rfl, fun h => e3 (h.resolve_left (by decide)), fun h => e4 (h.resolve_left (by decide)), fun h => e5 (h.resolve_left (by decide)), fun h => e6 (h.resolve_left (by decide)), fun h => e7 (h.resolve_left (by decide)), fun h => e8 (h.resolve_left (by decide)), fun h => e9 (h.resolve_left (by decide)), fun h => e10 (h.resolve_left (by decide)), fun h => e11 (h.resolve_left (by decide)), fun h => e12 (h.resolve_left (by decide)), fun h => e13 (h.resolve_left (by decide)), fun h => e14 (h.resolve_left (by decide)), fun h => e15 (h.resolve_left (by decide))⟩
        | 3, ho =>
          cases Option.some.inj ho
          have ev : a.tmps[16]?.getD undef = .slice (some ⟨b, off, none⟩) dn dc := by rw [ha, e1 (hd ⟨1, .data⟩ (by simp) rfl)]; kernel_rfl
          have ev' : a.tmps[17]?.getD undef = .int .i64 (k : Int) := by rw [ha, e2 (hd ⟨2, .data⟩ (by simp) rfl)]; kernel_rfl
          refine wp_value (w' := w') (v := .pointer (some ⟨b, off + k * 4, none⟩)) (by simp [execOp, ev, ev', go_sem, hkI, hk0]) ?_
          exact ⟨v15, v16, v17, (.pointer (some ⟨b, off + k * 4, none⟩)), v19, v20, v21, v22, v23, v24, v25, v14, v26, v27, v6, v7, by rw [ha]; kernel_rfl, hB, fun h => e0 (h.resolve_left (by decide)), fun h => e1 (h.resolve_left (by decide)), fun h => e2 (h.resolve_left (by decide)), fun _ => rfl, fun h => e4 (h.resolve_left (by decide)), fun h => e5 (h.resolve_left (by decide)), fun h => e6 (h.resolve_left (by decide)), fun h => e7 (h.resolve_left (by decide)), fun h => e8 (h.resolve_left (by decide)), fun h => e9 (h.resolve_left (by decide)), fun h => e10 (h.resolve_left (by decide)), fun h => e11 (h.resolve_left (by decide)), fun h => e12 (h.resolve_left (by decide)), fun h => e13 (h.resolve_left (by decide)), fun h => e14 (h.resolve_left (by decide)), fun h => e15 (h.resolve_left (by decide))⟩
        | 4, ho =>
          cases Option.some.inj ho
          have ev : a.tmps[18]?.getD undef = .pointer (some ⟨b, off + k * 4, none⟩) := by rw [ha, e3 (hd ⟨3, .data⟩ (by simp) rfl)]; kernel_rfl
          have z0 := (hB.cell (p := ⟨b, off + k * 4, none⟩) (lt_of_cell d0)).trans d0
          have z1 := (hB.cell (p := ⟨b, off + k * 4 + 1, none⟩) (lt_of_cell d1)).trans d1
          have z2 := (hB.cell (p := ⟨b, off + k * 4 + 2, none⟩) (lt_of_cell d2)).trans d2
          have z3 := (hB.cell (p := ⟨b, off + k * 4 + 3, none⟩) (lt_of_cell d3)).trans d3
          refine wp_value (w' := w') (v := .agg #[.int .i64 (Tm.base x), .int .i64 (Tm.com x), .slice (Tm.ra x) (Tm.rn x) (Tm.rc x), .slice (Tm.wa x) (Tm.wn x) (Tm.wc x)]) (by simp [execOp, ev, go_sem, z0, z1, z2, z3]) ?_
          exact ⟨v15, v16, v17, v18, (.agg #[.int .i64 (Tm.base x), .int .i64 (Tm.com x), .slice (Tm.ra x) (Tm.rn x) (Tm.rc x), .slice (Tm.wa x) (Tm.wn x) (Tm.wc x)]), v20, v21, v22, v23, v24, v25, v14, v26, v27, v6, v7, by rw [ha]; kernel_rfl, hB, fun h => e0 (h.resolve_left (by decide)), fun h => e1 (h.resolve_left (by decide)), fun h => e2 (h.resolve_left (by decide)), fun h => e3 (h.resolve_left (by decide)), fun _ => rfl, fun h => e5 (h.resolve_left (by decide)), fun h => e6 (h.resolve_left (by decide)), fun h => e7 (h.resolve_left (by decide)), fun h => e8 (h.resolve_left (by decide)), fun h => e9 (h.resolve_left (by decide)), fun h => e10 (h.resolve_left (by decide)), fun h => e11 (h.resolve_left (by decide)), fun h => e12 (h.resolve_left (by decide)), fun h => e13 (h.resolve_left (by decide)), fun h => e14 (h.resolve_left (by decide)), fun h => e15 (h.resolve_left (by decide))⟩
        | 5, ho =>
          cases Option.some.inj ho
          have ev : a.tmps[0]?.getD undef = .slice (some ⟨b, off, none⟩) dn dc := by rw [ha]; kernel_rfl
          refine wp_value (w' := w') (v := .slice (some ⟨b, off, none⟩) dn dc) (by simp [execOp, ev, go_sem]) ?_
          exact ⟨v15, v16, v17, v18, v19, (.slice (some ⟨b, off, none⟩) dn dc), v21, v22, v23, v24, v25, v14, v26, v27, v6, v7, by rw [ha]; kernel_rfl, hB, fun h => e0 (h.resolve_left (by decide)), fun h => e1 (h.resolve_left (by decide)), fun h => e2 (h.resolve_left (by decide)), fun h => e3 (h.resolve_left (by decide)), fun h => e4 (h.resolve_left (by decide)), fun _ => rfl, fun h => e6 (h.resolve_left (by decide)), fun h => e7 (h.resolve_left (by decide)), fun h => e8 (h.resolve_left (by decide)), fun h => e9 (h.resolve_left (by decide)), fun h => e10 (h.resolve_left (by decide)), fun h => e11 (h.resolve_left (by decide)), fun h => e12 (h.resolve_left (by decide)), fun h => e13 (h.resolve_left (by decide)), fun h => e14 (h.resolve_left (by decide)), fun h => e15 (h.resolve_left (by decide))⟩
        | 6, ho =>
          cases Option.some.inj ho
          have ev : a.tmps[5]?.getD undef = .int .i64 (k : Int) := by rw [ha]; kernel_rfl
          refine wp_value (w' := w') (v := .int .i64 (k : Int)) (by simp [execOp, ev, go_sem]) ?_
          exact ⟨v15, v16, v17, v18, v19, v20, (.int .i64 (k : Int)), v22, v23, v24, v25, v14, v26, v27, v6, v7, by rw [ha]; kernel_rfl, hB, fun h => e0 (h.resolve_left (by decide)), fun h => e1 (h.resolve_left (by decide)), fun h => e2 (h.resolve_left (by decide)), fun h => e3 (h.resolve_left (by decide)), fun h => e4 (h.resolve_left (by decide)), fun h => e5 (h.resolve_left (by decide)), fun _ => rfl, fun h => e7 (h.resolve_left (by decide)), fun h => e8 (h.resolve_left (by decide)), fun h => e9 (h.resolve_left (by decide)), fun h => e10 (h.resolve_left (by decide)), fun h => e11 (h.resolve_left (by decide)), fun h => e12 (h.resolve_left (by decide)), fun h => e13 (h.resolve_left (by decide)), fun h => e14 (h.resolve_left (by decide)), fun h => e15 (h.resolve_left (by decide))⟩
        | 7, ho =>
          cases Option.some.inj ho
          have ev : a.tmps[20]?.getD undef = .slice (some ⟨b, off, none⟩) dn dc := by rw [ha, e5 (hd ⟨5, .data⟩ (by simp) rfl)]; kernel_rfl
          have ev' : a.tmps[21]?.getD undef = .int .i64 (k : Int) := by rw [ha, e6 (hd ⟨6, .data⟩ (by simp) rfl)]; kernel_rfl
          refine wp_value (w' := w') (v := .pointer (some ⟨b, off + k * 4, none⟩)) (by simp [execOp, ev, ev', go_sem, hkI, hk0]) ?_
          exact ⟨v15, v16, v17, v18, v19, v20, v21, (.pointer (some ⟨b, off + k * 4, none⟩)), v23, v24, v25, v14, v26, v27, v6, v7, by rw [ha]; kernel_rfl, hB, fun h => e0 (h.resolve_left (by decide)), fun h => e1 (h.resolve_left (by decide)), fun h => e2 (h.resolve_left (by decide)), fun h => e3 (h.resolve_left (by decide)), fun h => e4 (h.resolve_left (by decide)), fun h => e5 (h.resolve_left (by decide)), fun h => e6 (h.resolve_left (by decide)), fun _ => rfl, fun h => e8 (h.resolve_left (by decide)), fun h => e9 (h.resolve_left (by decide)), fun h => e10 (h.resolve_left (by decide)), fun h => e11 (h.resolve_left (by decide)), fun h => e12 (h.resolve_left (by decide)), fun h => e13 (h.resolve_left (by decide)), fun h => e14 (h.resolve_left (by decide)), fun h => e15 (h.resolve_left (by decide))⟩
        | 8, ho =>
          cases Option.some.inj ho
          have ev : a.tmps[22]?.getD undef = .pointer (some ⟨b, off + k * 4, none⟩) := by rw [ha, e7 (hd ⟨7, .data⟩ (by simp) rfl)]; kernel_rfl
          refine wp_value (w' := w') (v := .pointer (some ⟨b, off + k * 4 + 1, none⟩)) (by simp [execOp, ev, go_sem]) ?_
          exact ⟨v15, v16, v17, v18, v19, v20, v21, v22, (.pointer (some ⟨b, off + k * 4 + 1, none⟩)), v24, v25, v14, v26, v27, v6, v7, by rw [ha]; kernel_rfl, hB, fun h => e0 (h.resolve_left (by decide)), fun h => e1 (h.resolve_left (by decide)), fun h => e2 (h.resolve_left (by decide)), fun h => e3 (h.resolve_left (by decide)), fun h => e4 (h.resolve_left (by decide)), fun h => e5 (h.resolve_left (by decide)), fun h => e6 (h.resolve_left (by decide)), fun h => e7 (h.resolve_left (by decide)), fun _ => rfl, fun h => e9 (h.resolve_left (by decide)), fun h => e10 (h.resolve_left (by decide)), fun h => e11 (h.resolve_left (by decide)), fun h => e12 (h.resolve_left (by decide)), fun h => e13 (h.resolve_left (by decide)), fun h => e14 (h.resolve_left (by decide)), fun h => e15 (h.resolve_left (by decide))⟩
        | 9, ho =>
          cases Option.some.inj ho
          have ev : a.tmps[23]?.getD undef = .pointer (some ⟨b, off + k * 4 + 1, none⟩) := by rw [ha, e8 (hd ⟨8, .data⟩ (by simp) rfl)]; kernel_rfl
          have z1 := (hB.cell (p := ⟨b, off + k * 4 + 1, none⟩) (lt_of_cell d1)).trans d1
          refine wp_value (w' := w') (v := .int .i64 (Tm.com x)) (by simp [execOp, ev, go_sem, z1]) ?_
          exact ⟨v15, v16, v17, v18, v19, v20, v21, v22, v23, (.int .i64 (Tm.com x)), v25, v14, v26, v27, v6, v7, by rw [ha]; kernel_rfl, hB, fun h => e0 (h.resolve_left (by decide)), fun h => e1 (h.resolve_left (by decide)), fun h => e2 (h.resolve_left (by decide)), fun h => e3 (h.resolve_left (by decide)), fun h => e4 (h.resolve_left (by decide)), fun h => e5 (h.resolve_left (by decide)), fun h => e6 (h.resolve_left (by decide)), fun h => e7 (h.resolve_left (by decide)), fun h => e8 (h.resolve_left (by decide)), fun _ => rfl, fun h => e10 (h.resolve_left (by decide)), fun h => e11 (h.resolve_left (by decide)), fun h => e12 (h.resolve_left (by decide)), fun h => e13 (h.resolve_left (by decide)), fun h => e14 (h.resolve_left (by decide)), fun h => e15 (h.resolve_left (by decide))⟩
        | 10, ho =>
          cases Option.some.inj ho
          have ev : a.tmps[15]?.getD undef = .slice (some ⟨b, off, none⟩) dn dc := by rw [ha, e0 (hd ⟨0, .data⟩ (by simp) rfl)]; kernel_rfl
          have ev' : a.tmps[19]?.getD undef = .agg #[.int .i64 (Tm.base x), .int .i64 (Tm.com x), .slice (Tm.ra x) (Tm.rn x) (Tm.rc x), .slice (Tm.wa x) (Tm.wn x) (Tm.wc x)] := by rw [ha, e4 (hd ⟨4, .data⟩ (by simp) rfl)]; kernel_rfl
          have ev'' : a.tmps[24]?.getD undef = .int .i64 (Tm.com x) := by rw [ha, e9 (hd ⟨9, .data⟩ (by simp) rfl)]; kernel_rfl
          have hck := within_end x.com (hI.below hB) hdn hsh (hxin.below hB) hxl.1 hxl.2
          rw [hrc.out] at hck
          unfold widV at hck
          refine wp_enter (f := 29) (args := #[.slice (some ⟨b, off, none⟩) dn dc, .agg #[.int .i64 (Tm.base x), .int .i64 (Tm.com x), .slice (Tm.ra x) (Tm.rn x) (Tm.rc x), .slice (Tm.wa x) (Tm.wn x) (Tm.wc x)], .int .i64 (Tm.com x), .bool false]) (by simp [execOp, ev, ev', ev'', go_sem]) ?_
          refine (hck).mono ?_
          rintro e w6 ⟨rfl, B6⟩
          refine ⟨_, rfl, ?_⟩
          exact ⟨v15, v16, v17, v18, v19, v20, v21, v22, v23, v24, (.tuple #[.int .i64 (rc.getD 0), .bool rc.isSome]), v14, v26, v27, v6, v7, by rw [ha]; kernel_rfl, below_size hB hB.size B6, fun h => e0 (h.resolve_left (by decide)), fun h => e1 (h.resolve_left (by decide)), fun h => e2 (h.resolve_left (by decide)), fun h => e3 (h.resolve_left (by decide)), fun h => e4 (h.resolve_left (by decide)), fun h => e5 (h.resolve_left (by decide)), fun h => e6 (h.resolve_left (by decide)), fun h => e7 (h.resolve_left (by decide)), fun h => e8 (h.resolve_left (by decide)), fun h => e9 (h.resolve_left (by decide)), fun _ => rfl, fun h => e11 (h.resolve_left (by decide)), fun h => e12 (h.resolve_left (by decide)), fun h => e13 (h.resolve_left (by decide)), fun h => e14 (h.resolve_left (by decide)), fun h => e15 (h.resolve_left (by decide))⟩
        | 11, ho =>
          cases Option.some.inj ho
          have ev : a.tmps[25]?.getD undef = .tuple #[.int .i64 (rc.getD 0), .bool rc.isSome] := by rw [ha, e10 (hd ⟨10, .data⟩ (by simp) rfl)]; kernel_rfl
          refine wp_value (w' := w') (v := .tuple #[.int .i64 (rc.getD 0), .bool rc.isSome]) (by simp [execOp, ev, go_sem]) ?_
          exact ⟨v15, v16, v17, v18, v19, v20, v21, v22, v23, v24, v25, (.tuple #[.int .i64 (rc.getD 0), .bool rc.isSome]), v26, v27, v6, v7, by rw [ha]; kernel_rfl, hB, fun h => e0 (h.resolve_left (by decide)), fun h => e1 (h.resolve_left (by decide)), fun h => e2 (h.resolve_left (by decide)), fun h => e3 (h.resolve_left (by decide)), fun h => e4 (h.resolve_left (by decide)), fun h => e5 (h.resolve_left (by decide)), fun h => e6 (h.resolve_left (by decide)), fun h => e7 (h.resolve_left (by decide)), fun h => e8 (h.resolve_left (by decide)), fun h => e9 (h.resolve_left (by decide)), fun h => e10 (h.resolve_left (by decide)), fun _ => rfl, fun h => e12 (h.resolve_left (by decide)), fun h => e13 (h.resolve_left (by decide)), fun h => e14 (h.resolve_left (by decide)), fun h => e15 (h.resolve_left (by decide))⟩
        | 12, ho =>
          cases Option.some.inj ho
          have ev : a.tmps[14]?.getD undef = .tuple #[.int .i64 (rc.getD 0), .bool rc.isSome] := by rw [ha, e11 (hd ⟨11, .data⟩ (by simp) rfl)]; kernel_rfl
          refine wp_value (w' := w') (v := .int .i64 (rc.getD 0)) (by simp [execOp, ev, go_sem]) ?_
          exact ⟨v15, v16, v17, v18, v19, v20, v21, v22, v23, v24, v25, v14, (.int .i64 (rc.getD 0)), v27, v6, v7, by rw [ha]; kernel_rfl, hB, fun h => e0 (h.resolve_left (by decide)), fun h => e1 (h.resolve_left (by decide)), fun h => e2 (h.resolve_left (by decide)), fun h => e3 (h.resolve_left (by decide)), fun h => e4 (h.resolve_left (by decide)), fun h => e5 (h.resolve_left (by decide)), fun h => e6 (h.resolve_left (by decide)), fun h => e7 (h.resolve_left (by decide)), fun h => e8 (h.resolve_left (by decide)), fun h => e9 (h.resolve_left (by decide)), fun h => e10 (h.resolve_left (by decide)), fun h => e11 (h.resolve_left (by decide)), fun _ => rfl, fun h => e13 (h.resolve_left (by decide)), fun h => e14 (h.resolve_left (by decide)), fun h => e15 (h.resolve_left (by decide))⟩
        | 13, ho =>
          cases Option.some.inj ho
          have ev : a.tmps[14]?.getD undef = .tuple #[.int .i64 (rc.getD 0), .bool rc.isSome] := by rw [ha, e11 (hd ⟨11, .data⟩ (by simp) rfl)]; kernel_rfl
          refine wp_value (w' := w') (v := .bool rc.isSome) (by simp [execOp, ev, go_sem]) ?_
          exact ⟨v15, v16, v17, v18, v19, v20, v21, v22, v23, v24, v25, v14, v26, (.bool rc.isSome), v6, v7, by rw [ha]; kernel_rfl, hB, fun h => e0 (h.resolve_left (by decide)), fun h => e1 (h.resolve_left (by decide)), fun h => e2 (h.resolve_left (by decide)), fun h => e3 (h.resolve_left (by decide)), fun h => e4 (h.resolve_left (by decide)), fun h => e5 (h.resolve_left (by decide)), fun h => e6 (h.resolve_left (by decide)), fun h => e7 (h.resolve_left (by decide)), fun h => e8 (h.resolve_left (by decide)), fun h => e9 (h.resolve_left (by decide)), fun h => e10 (h.resolve_left (by decide)), fun h => e11 (h.resolve_left (by decide)), fun h => e12 (h.resolve_left (by decide)), fun _ => rfl, fun h => e14 (h.resolve_left (by decide)), fun h => e15 (h.resolve_left (by decide))⟩
        | 14, ho =>
          cases Option.some.inj ho
          have ev : a.tmps[26]?.getD undef = .int .i64 (rc.getD 0) := by rw [ha, e12 (hd ⟨12, .data⟩ (by simp) rfl)]; kernel_rfl
          refine wp_value (w' := w') (v := .int .i64 (rc.getD 0)) (by simp [execOp, ev, go_sem]) ?_
          exact ⟨v15, v16, v17, v18, v19, v20, v21, v22, v23, v24, v25, v14, v26, v27, (.int .i64 (rc.getD 0)), v7, by rw [ha]; kernel_rfl, hB, fun h => e0 (h.resolve_left (by decide)), fun h => e1 (h.resolve_left (by decide)), fun h => e2 (h.resolve_left (by decide)), fun h => e3 (h.resolve_left (by decide)), fun h => e4 (h.resolve_left (by decide)), fun h => e5 (h.resolve_left (by decide)), fun h => e6 (h.resolve_left (by decide)), fun h => e7 (h.resolve_left (by decide)), fun h => e8 (h.resolve_left (by decide)), fun h => e9 (h.resolve_left (by decide)), fun h => e10 (h.resolve_left (by decide)), fun h => e11 (h.resolve_left (by decide)), fun h => e12 (h.resolve_left (by decide)), fun h => e13 (h.resolve_left (by decide)), fun _ => rfl, fun h => e15 (h.resolve_left (by decide))⟩
        | 15, ho =>
          cases Option.some.inj ho
          have ev : a.tmps[27]?.getD undef = .bool rc.isSome := by rw [ha, e13 (hd ⟨13, .data⟩ (by simp) rfl)]; kernel_rfl
          refine wp_value (w' := w') (v := .bool rc.isSome) (by simp [execOp, ev, go_sem]) ?_
          exact ⟨v15, v16, v17, v18, v19, v20, v21, v22, v23, v24, v25, v14, v26, v27, v6, (.bool rc.isSome), by rw [ha]; kernel_rfl, hB, fun h => e0 (h.resolve_left (by decide)), fun h => e1 (h.resolve_left (by decide)), fun h => e2 (h.resolve_left (by decide)), fun h => e3 (h.resolve_left (by decide)), fun h => e4 (h.resolve_left (by decide)), fun h => e5 (h.resolve_left (by decide)), fun h => e6 (h.resolve_left (by decide)), fun h => e7 (h.resolve_left (by decide)), fun h => e8 (h.resolve_left (by decide)), fun h => e9 (h.resolve_left (by decide)), fun h => e10 (h.resolve_left (by decide)), fun h => e11 (h.resolve_left (by decide)), fun h => e12 (h.resolve_left (by decide)), fun h => e13 (h.resolve_left (by decide)), fun h => e14 (h.resolve_left (by decide)), fun _ => rfl⟩
        | i + 16, ho => simp at ho
      case done =>
        rintro D a w' ⟨v15, v16, v17, v18, v19, v20, v21, v22, v23, v24, v25, v14, v26, v27, v6, v7, ha, hB, e0, e1, e2, e3, e4, e5, e6, e7, e8, e9, e10, e11, e12, e13, e14, e15⟩ hall
        obtain rfl := e0 (hall 0 (by decide))
        obtain rfl := e1 (hall 1 (by decide))
        obtain rfl := e2 (hall 2 (by decide))
        obtain rfl := e3 (hall 3 (by decide))
        obtain rfl := e4 (hall 4 (by decide))
        obtain rfl := e5 (hall 5 (by decide))
        obtain rfl := e6 (hall 6 (by decide))
        obtain rfl := e7 (hall 7 (by decide))
        obtain rfl := e8 (hall 8 (by decide))
        obtain rfl := e9 (hall 9 (by decide))
        obtain rfl := e10 (hall 10 (by decide))
        obtain rfl := e11 (hall 11 (by decide))
        obtain rfl := e12 (hall 12 (by decide))
        obtain rfl := e13 (hall 13 (by decide))
        obtain rfl := e14 (hall 14 (by decide))
        obtain rfl := e15 (hall 15 (by decide))
        clear hall e0 e1 e2 e3 e4 e5 e6 e7 e8 e9 e10 e11 e12 e13 e14 e15
        rw [ha]
        clear ha
        simp only [Act.put, List.setIfInBounds_toArray, List.set_cons_zero, List.set_cons_succ]
        have B9 := below_size B B.size hB
        clear hB
        cases rc with
        | none =>
          have hnx := hse.none hx.out hrc.out
          clear hse hrc hx
          dsimp only [Option.getD, Option.isSome]
          go_wp2
          go_roundw
          case rel => exact ⟨k + 1, by omega, by go_num, hnx, B9⟩
          case measure => simp [intOf]; omega
        | some q =>
          have hnx := hse.some hx.out hrc.out
          replace hnx : Hid (serA (ms.map Tm.d) 0 (ms.map Tm.d) = .tuple #[.int .i64 (k : Int), .int .i64 q, .bool false]) := hnx
          clear hse hrc hx
          dsimp only [Option.getD, Option.isSome]
          go_wp2
          refine bodyPost_ret (results_tmp3 rfl _ _ _) rfl ?_
          exact ⟨by rw [hnx.out]; rfl, B9⟩
    · have hge : ¬ (k : Int) < (dn : Int) := by omega
      obtain rfl : k = dn := by omega
      have hnx : Hid (serA (ms.map Tm.d) 0 (ms.map Tm.d) = .tuple #[.int .i64 (k : Int), .int .i64 0, .bool true]) := hse.fin hsz.out
      clear hse
      go_wp2
      refine bodyPost_ret (results_tmp3 rfl _ _ _) rfl ?_
      exact ⟨by rw [hnx.out]; rfl, B⟩
set_option maxHeartbeats 1000000 in
theorem closure30 {w : World} {tb : Nat} {c : Int} (x : Int) (h : w.cell? ⟨tb, 1, none⟩ = some (.int .i64 c)) :
    Calls Try.prog 30 #[.int .i64 x, .pointer (some ⟨tb, 0, none⟩)] w fun e w' => e = .returned (.bool (decide (x < c))) ∧ Below w.heap.size w w' := by
  go_enter Try.func30, Try.ntmps30
  go_wp2
  go_ret
  exact ⟨rfl, Below.refl _ _⟩
set_option maxHeartbeats 1000000 in
theorem open92 (w : World) : Calls Try.prog 92 #[.agg #[]] w fun e w' => e = .returned (.bool true) ∧ Below w.heap.size w w' := by
  go_enter Try.func92, Try.ntmps92
  go_wp2
  go_ret
  exact ⟨rfl, box_below⟩
set_option maxHeartbeats 1000000 in
theorem open90 (x : Int) (w : World) : Calls Try.prog 90 #[.agg #[.int .i64 x]] w fun e w' => e = .returned (.bool false) ∧ Below w.heap.size w w' := by
  go_enter Try.func90, Try.ntmps90
  go_wp2
  go_ret
  exact ⟨rfl, box_below⟩
theorem meth77 (w : World) : Sem.run Try.prog (method 236 77 (.agg #[]) "lapidary/valid.open") w = .ok (92, .agg #[]) w := by kernel_rfl
theorem meth72 (x : Int) (w : World) : Sem.run Try.prog (method 236 72 (.agg #[.int .i64 x]) "lapidary/valid.open") w = .ok (90, .agg #[.int .i64 x]) w := by kernel_rfl
set_option maxHeartbeats 8000000 in
theorem serial_any {w : World} {da : Option Addr} {dn dc : Nat} {ms : List Tm} (h : IsTs w da dn dc ms) (hdn : dn ≤ 1048576) (hsh : Short ms) :
    Calls Try.prog 13 #[.slice da dn dc] w fun e w' => e = .returned (serA (ms.map Tm.d) 0 (ms.map Tm.d)) ∧ Below w.heap.size w w' := by
  have hsz : Hid (ms.length = dn) := h.size
  have hdnI : dn ≤ 9223372036854775807 := by omega
  have eg30 : ∀ args w, (callFunc 30 args).run Try.prog w = .ok (.enter 30 args) w := enters_of Try.func30 (by kernel_rfl) rfl
  have hwr := writtenW h hdn hsh
  go_enter Try.func13, Try.ntmps13
  go_wp2_with fail
  refine hwr.mono ?_
  rintro e w1 ⟨bp, f, rfl, P, W, B1⟩
  clear hwr
  go_wp2
  go_loopw [16] (fun iv wr => ∃ k : Nat, k ≤ dn ∧ iv = .int .i64 (k : Int) ∧ SerI ms k ∧ Below w1.heap.size w1 wr) (fun iv _ => dn - (intOf iv).toNat)
  case atStart => exact ⟨0, by omega, rfl, SerI.start, Below.refl _ _⟩
  case round =>
    obtain ⟨k, hkk, rfl, hse, B⟩ := hrel
    have B5 : Below w.heap.size w wr := B1.trans (B.mono B1.size)
    by_cases hlt : k < dn
    · obtain ⟨b, off, x, rfl, _, d0, d1, d2, d3, hx, hxin⟩ := (h.below B5).at_ k hlt
      have hkI : (k : Int) < (dn : Int) := by omega
      have hxl := hsh x (List.mem_of_getElem? hx.out)
      have BA : Below wr.heap.size wr (wr.alloc (.cells #[.int .i64 x.base, .int .i64 x.com, .slice x.ra x.rn x.rc, .slice x.wa x.wn x.wc] 31)) := box_below
      have EA : (wr.alloc (.cells #[.int .i64 x.base, .int .i64 x.com, .slice x.ra x.rn x.rc, .slice x.wa x.wn x.wc] 31)).cell? ⟨wr.heap.size, 1, none⟩ = some (.int .i64 x.com) := by simp
      have hah := ahead_any (m := x) (g := 30) (lb := #[.pointer (some ⟨wr.heap.size, 0, none⟩)]) (cnt := fun y => decide (y < x.com)) ((P.below B).below BA) W.rise W.len (hxin.below BA) hxl.1 hxl.2 eg30 (fun V y hV => closure30 y ((hV.cell (p := ⟨wr.heap.size, 1, none⟩) (lt_of_cell EA)).trans EA))
      have hse2 : aheadR f x.base x.rs x.ws (fun y => decide (y < x.com)) = serR (ms.map Tm.d) x.d := ser_eq (t := x.d) W
      obtain ⟨rc, hrc⟩ : ∃ rc, Hid (serR (ms.map Tm.d) x.d = rc) := ⟨_, rfl⟩
      rw [hse2, hrc.out] at hah
      clear hse2
      have B2 := below_size B B.size BA
      go_wp2_with fail
      refine hah.mono ?_
      rintro e w5 ⟨rfl, B6⟩
      have B7 := below_size B2 B2.size B6
      have B8 : Below w.heap.size w w5 := B1.trans (B7.mono B1.size)
      clear hah d0 d1 d2 d3 EA
      cases rc with
      | none =>
        have hnx := hse.none hx.out hrc.out
        clear hse hrc hx
        unfold wayV
        have hm := meth77
        have ho := open92 w5
        go_wp2_with fail
        refine ho.mono ?_
        rintro e w6 ⟨rfl, B9⟩
        have B10 := below_size B7 B7.size B9
        clear ho hm
        go_wp2
        go_roundw
        case rel => exact ⟨k + 1, by omega, by go_num, hnx, B10⟩
        case measure => simp [intOf]; omega
      | some q =>
        have hnx : Hid (serA (ms.map Tm.d) 0 (ms.map Tm.d) = .tuple #[.int .i64 (k : Int), .int .i64 q, .bool false]) := hse.some hx.out hrc.out
        have htl := fun W => told_any (some q) W
        clear hse hrc hx
        unfold wayV at htl ⊢
        have hm := meth72
        have ho := open90 q w5
        go_wp2_with fail
        refine ho.mono ?_
        rintro e w6 ⟨rfl, B9⟩
        have B10 := below_size B8 B8.size B9
        clear ho hm
        go_wp2_with fail
        refine (htl _).mono ?_
        rintro e w7 ⟨rfl, B11⟩
        have B12 := below_size B10 B10.size B11
        dsimp only [Option.getD, eN, Option.isSome]
        clear htl
        go_wp2
        refine bodyPost_ret (results_tmp3 rfl _ _ _) rfl ?_
        exact ⟨by rw [hnx.out]; rfl, B12⟩
    · have hge : ¬ (k : Int) < (dn : Int) := by omega
      obtain rfl : k = dn := by omega
      have hnx : Hid (serA (ms.map Tm.d) 0 (ms.map Tm.d) = .tuple #[.int .i64 (k : Int), .int .i64 0, .bool true]) := hse.fin hsz.out
      clear hse
      go_wp2
      refine bodyPost_ret (results_tmp3 rfl _ _ _) rfl ?_
      exact ⟨by rw [hnx.out]; rfl, B5⟩
end Go.Proofs.Ytigmpmichhghdaa
