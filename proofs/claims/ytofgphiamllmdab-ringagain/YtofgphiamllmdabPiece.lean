/- piece.sector. -/
import Derived.Test.YtofgphiamllmdabReadH
import Derived.Laws.IdiomCopy
namespace Go.Proofs.Ytofgphiamllmdab
open Go.RowKit
set_option maxRecDepth 100000

/-- A piece's bytes ahead of its own. -/
def piece16 (life seq place : Int) (last : Bool) (n : Nat) : List Int := be 6 life ++ be 6 seq ++ be 2 place ++ be 1 (if last then 1 else 0) ++ be 1 (n : Int)
/-- A piece's bytes. -/
def pieceB (life seq place : Int) (last : Bool) (ys : List Int) : List Int := fillB (piece16 life seq place last ys.length ++ ys)
theorem piece16_len (life seq place : Int) (last : Bool) (n : Nat) : (piece16 life seq place last n).length = 16 := by simp [piece16, be_len]
theorem pieceB_sec (life seq place : Int) (last : Bool) {ys : List Int} (hy : ys.length ≤ 112) (hb : ∀ y ∈ ys, 0 ≤ y ∧ y < 256) : IsSec (pieceB life seq place last ys) :=
  ⟨fillB_len (by rw [List.length_append, piece16_len]; omega), fill_byte (fun x hx => by
    rcases List.mem_append.1 hx with hx | hx
    · unfold piece16 at hx
      simp only [List.mem_append] at hx
      rcases hx with (((hx | hx) | hx) | hx) | hx <;> exact be_byte _ _ x hx
    · exact hb x hx)⟩
set_option maxHeartbeats 1000000 in
theorem next_le {w : World} {cb g off len : Nat} (h : Cur w cb g off len) (n : Nat) (hn : n ≤ len) :
    Calls Try.prog 74 #[.pointer (some ⟨cb, 0, none⟩), .int .i64 (n : Int)] w fun e w' => e = .returned (.slice (some ⟨g, off, none⟩) n len) ∧ Only cb cb w w' := by
  by_cases hlt : n < len
  · refine (next_some h n hlt).mono ?_
    rintro e w' ⟨rfl, rfl⟩
    exact ⟨rfl, Only.set cb cb w 0 _⟩
  · obtain rfl : n = len := by omega
    have c := h.cell
    have f := h.frozen
    go_enter Try.func74, Try.ntmps74
    go_wp2
    go_ret
    exact ⟨rfl, Only.set cb cb w 0 _⟩

theorem Only.drew {c g : Nat} {w w' : World} (h : Only c g w w') : Only c g w w'.drew := ⟨h.os, h.tape, h.output, h.size, h.block⟩
theorem Only.wide {c : Nat} {w w' : World} (h : Only c c w w') (g : Nat) : Only c g w w' := ⟨h.os, h.tape, h.output, h.size, fun i h1 _ => h.block i h1 h1⟩
theorem copy_into {w : World} {sb gb go n c : Nat} {A ys : List Int} (hx : ArrS w sb 78 (fillB A)) (hAl : A.length = 16) (hyl : ys.length = n) (hn : n ≤ 112) (hys : ∀ i, i < n → w.cell? ⟨gb, go + i, none⟩ = some (.int .u8 (ys.getD i 0))) :
    (Builtin.copy_ #[38, 38] 3 #[.slice (some ⟨sb, 16, none⟩) n 112, .slice (some ⟨gb, go, none⟩) n c]).run Try.prog w = .ok (.int .i64 (n : Int)) (w.setCells sb 16 (ys.map (Value.int .u8))) := by
  have h := run_copy_cells (P := Try.prog) w 38 38 3 5 sb 16 n 112 ⟨gb, go, none⟩ n c (ys.map (Value.int .u8)) Try.underlying38 (by kernel_rfl) (by rw [List.length_map, hyl]; exact (Nat.min_self n).symm)
    (fun j v hj => by
      have hj' : j < n := by have := (List.getElem?_eq_some_iff.1 hj).1; simpa [hyl] using this
      rw [Addr.add_lit, hys j hj']
      rw [List.getElem?_map, List.getElem?_eq_getElem (by omega)] at hj
      rw [List.getD_eq_getElem?_getD, List.getElem?_eq_getElem (by omega)]
      simpa using hj)
    (fun j hj => by
      have hj' : j < n := by simpa [hyl] using hj
      rw [hx.cell (16 + j) (by rw [fillB_len (by omega)]; omega)]
      rfl)
    (fun j _ => hx.frozen _) (fun v hv => by obtain ⟨x, _, rfl⟩ := List.mem_map.1 hv; rfl)
  rw [List.length_map, hyl] at h
  exact h
theorem copied {w : World} {sb n : Nat} {A ys : List Int} (hx : ArrS w sb 78 (fillB A)) (hAl : A.length = 16) (hyl : ys.length = n) (hn : n ≤ 112) : ArrS (w.setCells sb 16 (ys.map (Value.int .u8))) sb 78 (fillB (A ++ ys)) := by
  have h := ArrS.setCells ys 16 w _ hx (by rw [fillB_len (by omega)]; omega)
  rw [lay_fill hAl (by omega)] at h
  exact h
set_option maxHeartbeats 4000000 in
theorem piece_sector (w : World) (life seq place : Int) (last : Bool) (gb go n c : Nat) (ys : List Int) (hyl : ys.length = n) (hn : n ≤ 112) (hg : gb < w.heap.size) (hcell : ∀ i, i < n → w.cell? ⟨gb, go + i, none⟩ = some (.int .u8 (ys.getD i 0))) :
    Calls Try.prog 84 #[.agg #[.int .i64 life, .int .i64 seq, .int .i64 place, .bool last, .slice (some ⟨gb, go, none⟩) n c]] w fun e w' => e = .returned (.agg (cellsB (pieceB life seq place last ys))) ∧ Below w.heap.size w w' := by
  go_enter Try.func84, Try.ntmps84
  go_wp2_with fail
  rw [zero78]
  have hb0 : Below w.heap.size w ((((w.alloc (.cells #[.int .i64 life, .int .i64 seq, .int .i64 place, .bool last, .slice (some ⟨gb, go, none⟩) n c] 131)).alloc (.cells (cellsB (fillB [])) 78)).alloc (.cells (cellsB (fillB [])) 78)).alloc (.cells #[.slice (some ⟨w.heap.size + 1 + 1, 0, none⟩) 128 128] 120)) :=
    ((((Below.refl _ w).alloc (Nat.le_refl _) _).alloc (by simp) _).alloc (by simp; omega) _).alloc (by simp; omega) _
  obtain ⟨W, hW⟩ : ∃ W, ((((w.alloc (.cells #[.int .i64 life, .int .i64 seq, .int .i64 place, .bool last, .slice (some ⟨gb, go, none⟩) n c] 131)).alloc (.cells (cellsB (fillB [])) 78)).alloc (.cells (cellsB (fillB [])) 78)).alloc (.cells #[.slice (some ⟨w.heap.size + 1 + 1, 0, none⟩) 128 128] 120)) = W := ⟨_, rfl⟩
  have b0 : W.heap[w.heap.size]? = some (.cells #[.int .i64 life, .int .i64 seq, .int .i64 place, .bool last, .slice (some ⟨gb, go, none⟩) n c] 131 (0, 0)) := by
    rw [← hW]
    exact (Below.heap_alloc _ _ _ (by simp <;> omega)).trans ((Below.heap_alloc _ _ _ (by simp <;> omega)).trans ((Below.heap_alloc _ _ _ (by simp <;> omega)).trans (heap_alloc_new _ _)))
  have b1 : W.heap[w.heap.size + 1]? = some (.cells (cellsB (fillB [])) 78 (0, 0)) := by
    rw [← hW]
    exact (Below.heap_alloc _ _ _ (by simp <;> omega)).trans ((Below.heap_alloc _ _ _ (by simp <;> omega)).trans (by have := heap_alloc_new (w.alloc (.cells #[.int .i64 life, .int .i64 seq, .int .i64 place, .bool last, .slice (some ⟨gb, go, none⟩) n c] 131)) (.cells (cellsB (fillB [])) 78); simpa using this))
  have b2 : ArrS W (w.heap.size + 1 + 1) 78 (fillB []) := by
    rw [← hW]
    exact (Below.heap_alloc _ _ _ (by simp <;> omega)).trans (by have := heap_alloc_new ((w.alloc (.cells #[.int .i64 life, .int .i64 seq, .int .i64 place, .bool last, .slice (some ⟨gb, go, none⟩) n c] 131)).alloc (.cells (cellsB (fillB [])) 78)) (.cells (cellsB (fillB [])) 78); simpa using this)
  have b3 : Cur W (w.heap.size + 1 + 1 + 1) (w.heap.size + 1 + 1) 0 (128 - 0) := by
    rw [← hW]
    have := heap_alloc_new (((w.alloc (.cells #[.int .i64 life, .int .i64 seq, .int .i64 place, .bool last, .slice (some ⟨gb, go, none⟩) n c] 131)).alloc (.cells (cellsB (fillB [])) 78)).alloc (.cells (cellsB (fillB [])) 78)) (.cells #[.slice (some ⟨w.heap.size + 1 + 1, 0, none⟩) 128 128] 120)
    simpa [Cur] using this
  rw [hW] at hb0 ⊢
  clear hW
  obtain ⟨pb, hpb⟩ : ∃ b, w.heap.size = b := ⟨_, rfl⟩
  obtain ⟨rb, hrb⟩ : ∃ b, w.heap.size + 1 = b := ⟨_, rfl⟩
  obtain ⟨sb, hsb⟩ : ∃ b, w.heap.size + 1 + 1 = b := ⟨_, rfl⟩
  obtain ⟨cb, hcb⟩ : ∃ b, w.heap.size + 1 + 1 + 1 = b := ⟨_, rfl⟩
  have n1 : pb ≠ sb ∧ pb ≠ cb ∧ rb ≠ sb ∧ rb ≠ cb ∧ cb ≠ sb ∧ pb ≠ rb ∧ gb ≠ sb ∧ gb ≠ cb := by omega
  have n2 : w.heap.size ≤ pb ∧ w.heap.size ≤ rb ∧ w.heap.size ≤ sb ∧ w.heap.size ≤ cb := by omega
  rw [hcb, hsb] at b3
  rw [hsb] at b2
  rw [hrb] at b1
  rw [hcb, hsb, hrb]
  rw [hpb] at b0
  have e0 : (Value.pointer (some ⟨w.heap.size, 0, none⟩)) = .pointer (some ⟨pb, 0, none⟩) := by rw [hpb]
  have e6 : (Value.pointer (some ⟨w.heap.size, 6, none⟩)) = .pointer (some ⟨pb, 6, none⟩) := by rw [hpb]
  rw [e0]
  clear hcb hsb hrb e0 e6 hpb
  have hpd : ∀ W', Only cb sb W W' → W'.cell? ⟨pb, 0, none⟩ = some (.int .i64 life) ∧ W'.cell? ⟨pb, 1, none⟩ = some (.int .i64 seq) ∧ W'.cell? ⟨pb, 2, none⟩ = some (.int .i64 place) ∧ W'.cell? ⟨pb, 3, none⟩ = some (.bool last) ∧ W'.cell? ⟨pb, 4, none⟩ = some (.slice (some ⟨gb, go, none⟩) n c) := fun W' O => by
    have e := (O.block pb (by omega) (by omega)).trans b0
    refine ⟨?_, ?_, ?_, ?_, ?_⟩ <;> (rw [cell_of_row _ pb _ _ _ _ e]; rfl)
  have hys : ∀ W', Only cb sb W W' → ∀ i, i < n → W'.cell? ⟨gb, go + i, none⟩ = some (.int .u8 (ys.getD i 0)) := fun W' O i hi => (World.cell?_of_block ((O.block gb (by omega) (by omega)).trans (hb0.block gb hg))).trans (hcell i hi)
  clear hcell
  have C0 := b3
  have A0 := b2
  have O0 := Only.refl cb sb W
  refine (putF (A := []) (off := 0) rfl C0 A0 6 (by decide) (by decide) life (by omega)).mono ?_
  rintro e W1 ⟨rfl, C1, A1, P1⟩
  have O1 := O0.trans P1
  clear C0 A0 P1 O0
  rw [List.nil_append] at A1
  obtain ⟨q0, q1, q2, q3, q4⟩ := hpd _ O1
  go_wp2_with fail
  refine (putF (A := be 6 life) (off := 6) (by simp [be_len]) C1 A1 6 (by decide) (by decide) seq (by omega)).mono ?_
  rintro e W2 ⟨rfl, C2, A2, P2⟩
  have O2 := O1.trans P2
  clear C1 A1 P2 O1 q0 q1 q2 q3 q4
  obtain ⟨q0, q1, q2, q3, q4⟩ := hpd _ O2
  go_wp2_with fail
  refine (putF (A := be 6 life ++ be 6 seq) (off := 12) (by simp [be_len]) C2 A2 2 (by decide) (by decide) place (by omega)).mono ?_
  rintro e W3 ⟨rfl, C3, A3, P3⟩
  have O3 := O2.trans P3
  clear C2 A2 P3 O2 q0 q1 q2 q3 q4
  cases last
  · obtain ⟨q0, q1, q2, q3, q4⟩ := hpd _ O3
    go_wp2_with fail
    refine (putF (A := be 6 life ++ be 6 seq ++ be 2 place) (off := 14) (by simp [be_len]) C3 A3 1 (by decide) (by decide) 0 (by omega)).mono ?_
    rintro e W4 ⟨rfl, C4, A4, P4⟩
    have O4 := O3.trans P4
    clear C3 A3 P4 O3 q0 q1 q2 q3 q4
    obtain ⟨q0, q1, q2, q3, q4⟩ := hpd _ O4
    go_wp2_with fail
    refine (putF (A := be 6 life ++ be 6 seq ++ be 2 place ++ be 1 0) (off := 15) (by simp [be_len]) C4 A4 1 (by decide) (by decide) (n : Int) (by omega)).mono ?_
    rintro e W5 ⟨rfl, C5, A5, P5⟩
    have O5 := O4.trans P5
    clear C4 A4 P5 O4 q0 q1 q2 q3 q4
    obtain ⟨PA, hAA⟩ : ∃ A, Hid (piece16 life seq place false n = A) := ⟨_, rfl⟩
    have hAl : PA.length = 16 := by rw [← hAA.out]; exact piece16_len _ _ _ _ _
    have hAe : be 6 life ++ be 6 seq ++ be 2 place ++ be 1 0 ++ be 1 (n : Int) = PA := hAA.out
    rw [hAe] at A5
    clear hAe
    have hn112 := hn
    go_wp2
    refine wp_region_inv' (fun A D a w' => ∃ v23 v24 v25 v26 v27 v28 v29, a = (((((((A.put (some 23) v23).put (some 24) v24).put (some 25) v25).put (some 26) v26).put (some 27) v27).put (some 28) v28).put (some 29) v29) ∧ Only cb sb W w' ∧ (D 3 ∨ Cur w' cb sb 16 112) ∧ (D 6 ∨ ArrS w' sb 78 (fillB PA)) ∧ (D 0 → v23 = .pointer (some ⟨pb, 4, none⟩)) ∧ (D 1 → v24 = .slice (some ⟨gb, go, none⟩) n c) ∧ (D 2 → v25 = .int .i64 (n : Int)) ∧ (D 3 → v26 = .slice (some ⟨sb, 16, none⟩) n 112) ∧ (D 4 → v27 = .pointer (some ⟨pb, 4, none⟩)) ∧ (D 5 → v28 = .slice (some ⟨gb, go, none⟩) n c) ∧ (D 6 → v29 = .int .i64 (n : Int)) ∧ (D 6 → ArrS w' sb 78 (fillB (PA ++ ys)))) (by kernel_rfl) (by kernel_rfl) ?mono ?start ?step ?done
    case mono =>
      rintro D D' a w' hD ⟨v23, v24, v25, v26, v27, v28, v29, ha, hO, hC, hA, e0, e1, e2, e3, e4, e5, e6, hz⟩
      exact ⟨v23, v24, v25, v26, v27, v28, v29, ha, hO, hC.imp_left (hD 3).1, hA.imp_left (hD 6).1, fun h => e0 ((hD 0).2 h), fun h => e1 ((hD 1).2 h), fun h => e2 ((hD 2).2 h), fun h => e3 ((hD 3).2 h), fun h => e4 ((hD 4).2 h), fun h => e5 ((hD 5).2 h), fun h => e6 ((hD 6).2 h), fun h => hz ((hD 6).2 h)⟩
    case start => exact ⟨undef, undef, undef, undef, undef, undef, undef, by kernel_rfl, (O5.drew), .inr (C5), .inr (A5), fun h => h.elim, fun h => h.elim, fun h => h.elim, fun h => h.elim, fun h => h.elim, fun h => h.elim, fun h => h.elim, fun h => h.elim⟩
    case step =>
      intro i o ho D a w' hI hn hcl hd
      obtain ⟨v23, v24, v25, v26, v27, v28, v29, ha, hO, hC, hA, e0, e1, e2, e3, e4, e5, e6, hz⟩ := hI
      match i, ho with
      | 0, ho =>
        cases Option.some.inj ho
        have ev : a.tmps[1]?.getD undef = .pointer (some ⟨pb, 0, none⟩) := by rw [ha]; kernel_rfl
        refine wp_value (w' := w') (v := .pointer (some ⟨pb, 4, none⟩)) (by simp [execOp, ev, go_sem, Addr.add_lit]) ?_
        exact ⟨(.pointer (some ⟨pb, 4, none⟩)), v24, v25, v26, v27, v28, v29, by rw [ha]; kernel_rfl, hO, hC.imp_left .inr, hA.imp_left .inr, fun _ => rfl, fun h => e1 (h.resolve_left (by decide)), fun h => e2 (h.resolve_left (by decide)), fun h => e3 (h.resolve_left (by decide)), fun h => e4 (h.resolve_left (by decide)), fun h => e5 (h.resolve_left (by decide)), fun h => e6 (h.resolve_left (by decide)), fun h => hz (h.resolve_left (by decide))⟩
      | 1, ho =>
        cases Option.some.inj ho
        have ev : a.tmps[23]?.getD undef = .pointer (some ⟨pb, 4, none⟩) := by rw [ha, e0 (hd ⟨0, .data⟩ (by simp) rfl)]; kernel_rfl
        have hc := (hpd w' hO).2.2.2.2
        refine wp_value (w' := w') (v := .slice (some ⟨gb, go, none⟩) n c) (by simp [execOp, ev, go_sem, hc]) ?_
        exact ⟨v23, (.slice (some ⟨gb, go, none⟩) n c), v25, v26, v27, v28, v29, by rw [ha]; kernel_rfl, hO, hC.imp_left .inr, hA.imp_left .inr, fun h => e0 (h.resolve_left (by decide)), fun _ => rfl, fun h => e2 (h.resolve_left (by decide)), fun h => e3 (h.resolve_left (by decide)), fun h => e4 (h.resolve_left (by decide)), fun h => e5 (h.resolve_left (by decide)), fun h => e6 (h.resolve_left (by decide)), fun h => hz (h.resolve_left (by decide))⟩
      | 2, ho =>
        cases Option.some.inj ho
        have ev : a.tmps[24]?.getD undef = .slice (some ⟨gb, go, none⟩) n c := by rw [ha, e1 (hd ⟨1, .data⟩ (by simp) rfl)]; kernel_rfl
        refine wp_value (w' := w') (v := .int .i64 (n : Int)) (by simp [execOp, ev, go_sem]) ?_
        exact ⟨v23, v24, (.int .i64 (n : Int)), v26, v27, v28, v29, by rw [ha]; kernel_rfl, hO, hC.imp_left .inr, hA.imp_left .inr, fun h => e0 (h.resolve_left (by decide)), fun h => e1 (h.resolve_left (by decide)), fun _ => rfl, fun h => e3 (h.resolve_left (by decide)), fun h => e4 (h.resolve_left (by decide)), fun h => e5 (h.resolve_left (by decide)), fun h => e6 (h.resolve_left (by decide)), fun h => hz (h.resolve_left (by decide))⟩
      | 3, ho =>
        cases Option.some.inj ho
        have ev : a.tmps[4]?.getD undef = .pointer (some ⟨cb, 0, none⟩) := by rw [ha]; kernel_rfl
        have ev' : a.tmps[25]?.getD undef = .int .i64 (n : Int) := by rw [ha, e2 (hd ⟨2, .data⟩ (by simp) rfl)]; kernel_rfl
        refine wp_enter (f := 74) (args := #[.pointer (some ⟨cb, 0, none⟩), .int .i64 (n : Int)]) (by simp [execOp, ev, ev', go_sem]) ?_
        refine (next_le (hC.resolve_left hn) n (by omega)).mono ?_
        rintro e w6 ⟨rfl, P9⟩
        refine ⟨_, rfl, ?_⟩
        exact ⟨v23, v24, v25, (.slice (some ⟨sb, 16, none⟩) n 112), v27, v28, v29, by rw [ha]; kernel_rfl, hO.trans (P9.wide sb), .inl (.inl rfl), hA.imp .inr (fun h => (P9.block sb (by omega) (by omega)).trans h), fun h => e0 (h.resolve_left (by decide)), fun h => e1 (h.resolve_left (by decide)), fun h => e2 (h.resolve_left (by decide)), fun _ => rfl, fun h => e4 (h.resolve_left (by decide)), fun h => e5 (h.resolve_left (by decide)), fun h => e6 (h.resolve_left (by decide)), fun h => absurd (h.resolve_left (by decide)) (fun h => hn (hcl 6 _ rfl h ⟨3, .data⟩ (by simp) rfl))⟩
      | 4, ho =>
        cases Option.some.inj ho
        have ev : a.tmps[1]?.getD undef = .pointer (some ⟨pb, 0, none⟩) := by rw [ha]; kernel_rfl
        refine wp_value (w' := w') (v := .pointer (some ⟨pb, 4, none⟩)) (by simp [execOp, ev, go_sem, Addr.add_lit]) ?_
        exact ⟨v23, v24, v25, v26, (.pointer (some ⟨pb, 4, none⟩)), v28, v29, by rw [ha]; kernel_rfl, hO, hC.imp_left .inr, hA.imp_left .inr, fun h => e0 (h.resolve_left (by decide)), fun h => e1 (h.resolve_left (by decide)), fun h => e2 (h.resolve_left (by decide)), fun h => e3 (h.resolve_left (by decide)), fun _ => rfl, fun h => e5 (h.resolve_left (by decide)), fun h => e6 (h.resolve_left (by decide)), fun h => hz (h.resolve_left (by decide))⟩
      | 5, ho =>
        cases Option.some.inj ho
        have ev : a.tmps[27]?.getD undef = .pointer (some ⟨pb, 4, none⟩) := by rw [ha, e4 (hd ⟨4, .data⟩ (by simp) rfl)]; kernel_rfl
        have hc := (hpd w' hO).2.2.2.2
        refine wp_value (w' := w') (v := .slice (some ⟨gb, go, none⟩) n c) (by simp [execOp, ev, go_sem, hc]) ?_
        exact ⟨v23, v24, v25, v26, v27, (.slice (some ⟨gb, go, none⟩) n c), v29, by rw [ha]; kernel_rfl, hO, hC.imp_left .inr, hA.imp_left .inr, fun h => e0 (h.resolve_left (by decide)), fun h => e1 (h.resolve_left (by decide)), fun h => e2 (h.resolve_left (by decide)), fun h => e3 (h.resolve_left (by decide)), fun h => e4 (h.resolve_left (by decide)), fun _ => rfl, fun h => e6 (h.resolve_left (by decide)), fun h => hz (h.resolve_left (by decide))⟩
      | 6, ho =>
        cases Option.some.inj ho
        have ev : a.tmps[26]?.getD undef = .slice (some ⟨sb, 16, none⟩) n 112 := by rw [ha, e3 (hd ⟨3, .data⟩ (by simp) rfl)]; kernel_rfl
        have ev' : a.tmps[28]?.getD undef = .slice (some ⟨gb, go, none⟩) n c := by rw [ha, e5 (hd ⟨5, .data⟩ (by simp) rfl)]; kernel_rfl
        have hA9 := hA.resolve_left hn
        have hcp := copy_into (c := c) hA9 hAl hyl hn112 (hys w' hO)
        refine wp_value (w' := w'.setCells sb 16 (ys.map (Value.int .u8))) (v := .int .i64 (n : Int)) (by simp [execOp, ev, ev', go_sem, hcp]) ?_
        exact ⟨v23, v24, v25, v26, v27, v28, (.int .i64 (n : Int)), by rw [ha]; kernel_rfl, hO.trans (Only.cells cb sb _ 16 w'), .inl (.inr (hd ⟨3, .data⟩ (by simp) rfl)), .inl (.inl rfl), fun h => e0 (h.resolve_left (by decide)), fun h => e1 (h.resolve_left (by decide)), fun h => e2 (h.resolve_left (by decide)), fun h => e3 (h.resolve_left (by decide)), fun h => e4 (h.resolve_left (by decide)), fun h => e5 (h.resolve_left (by decide)), fun _ => rfl, fun _ => copied hA9 hAl hyl hn112⟩
      | i + 7, ho => simp at ho
    case done =>
      rintro D a w' ⟨v23, v24, v25, v26, v27, v28, v29, ha, hO, hC, hA, e0, e1, e2, e3, e4, e5, e6, hz⟩ hall
      have A7 := hz (hall 6 (by decide))
      obtain rfl := e0 (hall 0 (by decide))
      obtain rfl := e1 (hall 1 (by decide))
      obtain rfl := e2 (hall 2 (by decide))
      obtain rfl := e3 (hall 3 (by decide))
      obtain rfl := e4 (hall 4 (by decide))
      obtain rfl := e5 (hall 5 (by decide))
      obtain rfl := e6 (hall 6 (by decide))
      clear hz hC hA hall e0 e1 e2 e3 e4 e5 e6
      rw [ha]
      clear ha
      simp only [Act.put, List.setIfInBounds_toArray, List.set_cons_zero, List.set_cons_succ]
      generalize w' = W7 at *
      have hr7 := (hO.block rb (by omega) (by omega)).trans b1
      have hXl : (fillB (PA ++ ys)).length = 128 := fillB_len (by rw [List.length_append, hAl]; omega)
      obtain ⟨X, hX⟩ : ∃ X, fillB (PA ++ ys) = X := ⟨_, rfl⟩
      rw [hX] at hXl A7
      have hXX : pieceB life seq place false ys = X := by unfold pieceB; rw [hyl, hAA.out, hX]
      have hsz1 : (Try.prog.info? 78).map (·.size) = some (cellsB X).size := by rw [cellsB_size, hXl]; kernel_rfl
      have hsz2 : (cellsB (fillB [])).size = (cellsB X).size := by rw [cellsB_size, cellsB_size, hXl, fillB_len (by decide)]
      have hone := cellsB_one X
      have hr8 : ArrS (W7.setRow rb (cellsB X)) rb 78 X := setRow_heap _ _ _ _ _ _ hr7
      have hl9 := load78 hr8 hXl
      have hB7 := below_setRow (hb0.trans (hO.below n2.2.2.2 n2.2.2.1)) n2.2.1 (cellsB X)
      clear hpd hys hO
      go_wp2_with (first | (refine wpList_value rfl (run_load78 rfl rfl A7 hXl) ?_) | refine wpList_store_row rfl 78 _ _ rfl rb _ rfl rfl 78 _ hr7 hsz1 hsz2 hone ?_)
      rw [hXX]
      exact bodyPost_ret (v := .agg (cellsB X)) (results_cell Try.results84 rfl hl9) rfl ⟨rfl, hB7⟩
  · obtain ⟨q0, q1, q2, q3, q4⟩ := hpd _ O3
    go_wp2_with fail
    refine (putF (A := be 6 life ++ be 6 seq ++ be 2 place) (off := 14) (by simp [be_len]) C3 A3 1 (by decide) (by decide) 1 (by omega)).mono ?_
    rintro e W4 ⟨rfl, C4, A4, P4⟩
    have O4 := O3.trans P4
    clear C3 A3 P4 O3 q0 q1 q2 q3 q4
    obtain ⟨q0, q1, q2, q3, q4⟩ := hpd _ O4
    go_wp2_with fail
    refine (putF (A := be 6 life ++ be 6 seq ++ be 2 place ++ be 1 1) (off := 15) (by simp [be_len]) C4 A4 1 (by decide) (by decide) (n : Int) (by omega)).mono ?_
    rintro e W5 ⟨rfl, C5, A5, P5⟩
    have O5 := O4.trans P5
    clear C4 A4 P5 O4 q0 q1 q2 q3 q4
    obtain ⟨PA, hAA⟩ : ∃ A, Hid (piece16 life seq place true n = A) := ⟨_, rfl⟩
    have hAl : PA.length = 16 := by rw [← hAA.out]; exact piece16_len _ _ _ _ _
    have hAe : be 6 life ++ be 6 seq ++ be 2 place ++ be 1 1 ++ be 1 (n : Int) = PA := hAA.out
    rw [hAe] at A5
    clear hAe
    have hn112 := hn
    go_wp2
    refine wp_region_inv' (fun A D a w' => ∃ v23 v24 v25 v26 v27 v28 v29, a = (((((((A.put (some 23) v23).put (some 24) v24).put (some 25) v25).put (some 26) v26).put (some 27) v27).put (some 28) v28).put (some 29) v29) ∧ Only cb sb W w' ∧ (D 3 ∨ Cur w' cb sb 16 112) ∧ (D 6 ∨ ArrS w' sb 78 (fillB PA)) ∧ (D 0 → v23 = .pointer (some ⟨pb, 4, none⟩)) ∧ (D 1 → v24 = .slice (some ⟨gb, go, none⟩) n c) ∧ (D 2 → v25 = .int .i64 (n : Int)) ∧ (D 3 → v26 = .slice (some ⟨sb, 16, none⟩) n 112) ∧ (D 4 → v27 = .pointer (some ⟨pb, 4, none⟩)) ∧ (D 5 → v28 = .slice (some ⟨gb, go, none⟩) n c) ∧ (D 6 → v29 = .int .i64 (n : Int)) ∧ (D 6 → ArrS w' sb 78 (fillB (PA ++ ys)))) (by kernel_rfl) (by kernel_rfl) ?mono ?start ?step ?done
    case mono =>
      rintro D D' a w' hD ⟨v23, v24, v25, v26, v27, v28, v29, ha, hO, hC, hA, e0, e1, e2, e3, e4, e5, e6, hz⟩
      exact ⟨v23, v24, v25, v26, v27, v28, v29, ha, hO, hC.imp_left (hD 3).1, hA.imp_left (hD 6).1, fun h => e0 ((hD 0).2 h), fun h => e1 ((hD 1).2 h), fun h => e2 ((hD 2).2 h), fun h => e3 ((hD 3).2 h), fun h => e4 ((hD 4).2 h), fun h => e5 ((hD 5).2 h), fun h => e6 ((hD 6).2 h), fun h => hz ((hD 6).2 h)⟩
    case start => exact ⟨undef, undef, undef, undef, undef, undef, undef, by kernel_rfl, (O5.drew), .inr (C5), .inr (A5), fun h => h.elim, fun h => h.elim, fun h => h.elim, fun h => h.elim, fun h => h.elim, fun h => h.elim, fun h => h.elim, fun h => h.elim⟩
    case step =>
      intro i o ho D a w' hI hn hcl hd
      obtain ⟨v23, v24, v25, v26, v27, v28, v29, ha, hO, hC, hA, e0, e1, e2, e3, e4, e5, e6, hz⟩ := hI
      match i, ho with
      | 0, ho =>
        cases Option.some.inj ho
        have ev : a.tmps[1]?.getD undef = .pointer (some ⟨pb, 0, none⟩) := by rw [ha]; kernel_rfl
        refine wp_value (w' := w') (v := .pointer (some ⟨pb, 4, none⟩)) (by simp [execOp, ev, go_sem, Addr.add_lit]) ?_
        exact ⟨(.pointer (some ⟨pb, 4, none⟩)), v24, v25, v26, v27, v28, v29, by rw [ha]; kernel_rfl, hO, hC.imp_left .inr, hA.imp_left .inr, fun _ => rfl, fun h => e1 (h.resolve_left (by decide)), fun h => e2 (h.resolve_left (by decide)), fun h => e3 (h.resolve_left (by decide)), fun h => e4 (h.resolve_left (by decide)), fun h => e5 (h.resolve_left (by decide)), fun h => e6 (h.resolve_left (by decide)), fun h => hz (h.resolve_left (by decide))⟩
      | 1, ho =>
        cases Option.some.inj ho
        have ev : a.tmps[23]?.getD undef = .pointer (some ⟨pb, 4, none⟩) := by rw [ha, e0 (hd ⟨0, .data⟩ (by simp) rfl)]; kernel_rfl
        have hc := (hpd w' hO).2.2.2.2
        refine wp_value (w' := w') (v := .slice (some ⟨gb, go, none⟩) n c) (by simp [execOp, ev, go_sem, hc]) ?_
        exact ⟨v23, (.slice (some ⟨gb, go, none⟩) n c), v25, v26, v27, v28, v29, by rw [ha]; kernel_rfl, hO, hC.imp_left .inr, hA.imp_left .inr, fun h => e0 (h.resolve_left (by decide)), fun _ => rfl, fun h => e2 (h.resolve_left (by decide)), fun h => e3 (h.resolve_left (by decide)), fun h => e4 (h.resolve_left (by decide)), fun h => e5 (h.resolve_left (by decide)), fun h => e6 (h.resolve_left (by decide)), fun h => hz (h.resolve_left (by decide))⟩
      | 2, ho =>
        cases Option.some.inj ho
        have ev : a.tmps[24]?.getD undef = .slice (some ⟨gb, go, none⟩) n c := by rw [ha, e1 (hd ⟨1, .data⟩ (by simp) rfl)]; kernel_rfl
        refine wp_value (w' := w') (v := .int .i64 (n : Int)) (by simp [execOp, ev, go_sem]) ?_
        exact ⟨v23, v24, (.int .i64 (n : Int)), v26, v27, v28, v29, by rw [ha]; kernel_rfl, hO, hC.imp_left .inr, hA.imp_left .inr, fun h => e0 (h.resolve_left (by decide)), fun h => e1 (h.resolve_left (by decide)), fun _ => rfl, fun h => e3 (h.resolve_left (by decide)), fun h => e4 (h.resolve_left (by decide)), fun h => e5 (h.resolve_left (by decide)), fun h => e6 (h.resolve_left (by decide)), fun h => hz (h.resolve_left (by decide))⟩
      | 3, ho =>
        cases Option.some.inj ho
        have ev : a.tmps[4]?.getD undef = .pointer (some ⟨cb, 0, none⟩) := by rw [ha]; kernel_rfl
        have ev' : a.tmps[25]?.getD undef = .int .i64 (n : Int) := by rw [ha, e2 (hd ⟨2, .data⟩ (by simp) rfl)]; kernel_rfl
        refine wp_enter (f := 74) (args := #[.pointer (some ⟨cb, 0, none⟩), .int .i64 (n : Int)]) (by simp [execOp, ev, ev', go_sem]) ?_
        refine (next_le (hC.resolve_left hn) n (by omega)).mono ?_
        rintro e w6 ⟨rfl, P9⟩
        refine ⟨_, rfl, ?_⟩
        exact ⟨v23, v24, v25, (.slice (some ⟨sb, 16, none⟩) n 112), v27, v28, v29, by rw [ha]; kernel_rfl, hO.trans (P9.wide sb), .inl (.inl rfl), hA.imp .inr (fun h => (P9.block sb (by omega) (by omega)).trans h), fun h => e0 (h.resolve_left (by decide)), fun h => e1 (h.resolve_left (by decide)), fun h => e2 (h.resolve_left (by decide)), fun _ => rfl, fun h => e4 (h.resolve_left (by decide)), fun h => e5 (h.resolve_left (by decide)), fun h => e6 (h.resolve_left (by decide)), fun h => absurd (h.resolve_left (by decide)) (fun h => hn (hcl 6 _ rfl h ⟨3, .data⟩ (by simp) rfl))⟩
      | 4, ho =>
        cases Option.some.inj ho
        have ev : a.tmps[1]?.getD undef = .pointer (some ⟨pb, 0, none⟩) := by rw [ha]; kernel_rfl
        refine wp_value (w' := w') (v := .pointer (some ⟨pb, 4, none⟩)) (by simp [execOp, ev, go_sem, Addr.add_lit]) ?_
        exact ⟨v23, v24, v25, v26, (.pointer (some ⟨pb, 4, none⟩)), v28, v29, by rw [ha]; kernel_rfl, hO, hC.imp_left .inr, hA.imp_left .inr, fun h => e0 (h.resolve_left (by decide)), fun h => e1 (h.resolve_left (by decide)), fun h => e2 (h.resolve_left (by decide)), fun h => e3 (h.resolve_left (by decide)), fun _ => rfl, fun h => e5 (h.resolve_left (by decide)), fun h => e6 (h.resolve_left (by decide)), fun h => hz (h.resolve_left (by decide))⟩
      | 5, ho =>
        cases Option.some.inj ho
        have ev : a.tmps[27]?.getD undef = .pointer (some ⟨pb, 4, none⟩) := by rw [ha, e4 (hd ⟨4, .data⟩ (by simp) rfl)]; kernel_rfl
        have hc := (hpd w' hO).2.2.2.2
        refine wp_value (w' := w') (v := .slice (some ⟨gb, go, none⟩) n c) (by simp [execOp, ev, go_sem, hc]) ?_
        exact ⟨v23, v24, v25, v26, v27, (.slice (some ⟨gb, go, none⟩) n c), v29, by rw [ha]; kernel_rfl, hO, hC.imp_left .inr, hA.imp_left .inr, fun h => e0 (h.resolve_left (by decide)), fun h => e1 (h.resolve_left (by decide)), fun h => e2 (h.resolve_left (by decide)), fun h => e3 (h.resolve_left (by decide)), fun h => e4 (h.resolve_left (by decide)), fun _ => rfl, fun h => e6 (h.resolve_left (by decide)), fun h => hz (h.resolve_left (by decide))⟩
      | 6, ho =>
        cases Option.some.inj ho
        have ev : a.tmps[26]?.getD undef = .slice (some ⟨sb, 16, none⟩) n 112 := by rw [ha, e3 (hd ⟨3, .data⟩ (by simp) rfl)]; kernel_rfl
        have ev' : a.tmps[28]?.getD undef = .slice (some ⟨gb, go, none⟩) n c := by rw [ha, e5 (hd ⟨5, .data⟩ (by simp) rfl)]; kernel_rfl
        have hA9 := hA.resolve_left hn
        have hcp := copy_into (c := c) hA9 hAl hyl hn112 (hys w' hO)
        refine wp_value (w' := w'.setCells sb 16 (ys.map (Value.int .u8))) (v := .int .i64 (n : Int)) (by simp [execOp, ev, ev', go_sem, hcp]) ?_
        exact ⟨v23, v24, v25, v26, v27, v28, (.int .i64 (n : Int)), by rw [ha]; kernel_rfl, hO.trans (Only.cells cb sb _ 16 w'), .inl (.inr (hd ⟨3, .data⟩ (by simp) rfl)), .inl (.inl rfl), fun h => e0 (h.resolve_left (by decide)), fun h => e1 (h.resolve_left (by decide)), fun h => e2 (h.resolve_left (by decide)), fun h => e3 (h.resolve_left (by decide)), fun h => e4 (h.resolve_left (by decide)), fun h => e5 (h.resolve_left (by decide)), fun _ => rfl, fun _ => copied hA9 hAl hyl hn112⟩
      | i + 7, ho => simp at ho
    case done =>
      rintro D a w' ⟨v23, v24, v25, v26, v27, v28, v29, ha, hO, hC, hA, e0, e1, e2, e3, e4, e5, e6, hz⟩ hall
      have A7 := hz (hall 6 (by decide))
      obtain rfl := e0 (hall 0 (by decide))
      obtain rfl := e1 (hall 1 (by decide))
      obtain rfl := e2 (hall 2 (by decide))
      obtain rfl := e3 (hall 3 (by decide))
      obtain rfl := e4 (hall 4 (by decide))
      obtain rfl := e5 (hall 5 (by decide))
      obtain rfl := e6 (hall 6 (by decide))
      clear hz hC hA hall e0 e1 e2 e3 e4 e5 e6
      rw [ha]
      clear ha
      simp only [Act.put, List.setIfInBounds_toArray, List.set_cons_zero, List.set_cons_succ]
      generalize w' = W7 at *
      have hr7 := (hO.block rb (by omega) (by omega)).trans b1
      have hXl : (fillB (PA ++ ys)).length = 128 := fillB_len (by rw [List.length_append, hAl]; omega)
      obtain ⟨X, hX⟩ : ∃ X, fillB (PA ++ ys) = X := ⟨_, rfl⟩
      rw [hX] at hXl A7
      have hXX : pieceB life seq place true ys = X := by unfold pieceB; rw [hyl, hAA.out, hX]
      have hsz1 : (Try.prog.info? 78).map (·.size) = some (cellsB X).size := by rw [cellsB_size, hXl]; kernel_rfl
      have hsz2 : (cellsB (fillB [])).size = (cellsB X).size := by rw [cellsB_size, cellsB_size, hXl, fillB_len (by decide)]
      have hone := cellsB_one X
      have hr8 : ArrS (W7.setRow rb (cellsB X)) rb 78 X := setRow_heap _ _ _ _ _ _ hr7
      have hl9 := load78 hr8 hXl
      have hB7 := below_setRow (hb0.trans (hO.below n2.2.2.2 n2.2.2.1)) n2.2.1 (cellsB X)
      clear hpd hys hO
      go_wp2_with (first | (refine wpList_value rfl (run_load78 rfl rfl A7 hXl) ?_) | refine wpList_store_row rfl 78 _ _ rfl rb _ rfl rfl 78 _ hr7 hsz1 hsz2 hone ?_)
      rw [hXX]
      exact bodyPost_ret (v := .agg (cellsB X)) (results_cell Try.results84 rfl hl9) rfl ⟨rfl, hB7⟩
end Go.Proofs.Ytofgphiamllmdab
