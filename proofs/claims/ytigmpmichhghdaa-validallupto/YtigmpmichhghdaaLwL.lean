/- ValidAll: its walk. -/
import Derived.Test.YtigmpmichhghdaaVal
import Derived.Test.YtigmpmichhghdaaLwC
namespace Go.Proofs.Ytigmpmichhghdaa
open Go.RowKit
set_option maxRecDepth 100000
/-- Where a transaction's Writes lie, whatever stands there. -/
def WB (N : Nat) (w : World) (m : Tm) : Prop := 0 < m.wn → ∃ g off cur, m.wa = some ⟨g, off, none⟩ ∧ N ≤ g ∧ w.heap[g]? = some (.cells cur 2 (0, 0)) ∧ off + m.wn ≤ cur.size
theorem WB.of {N : Nat} {w : World} {m : Tm} (h : OwnI w N (.slice m.wa m.wn m.wc) m.ws) : WB N w m := fun h0 => by
  obtain ⟨g, off, ha, hc⟩ := h.isI.cells h0
  obtain ⟨q1, cur, q2⟩ := own_block h.1 (g := g) (by rw [ha]; rfl)
  refine ⟨g, off, cur, ha, q1, q2, ?_⟩
  have h1 := hc (m.wn - 1) (by omega)
  rw [cell_of_row w g _ _ _ _ q2] at h1
  have h2 := (Array.getElem?_eq_some_iff.1 h1).1
  omega
/-- Where the law's loops stand. -/
structure LpI (N : Nat) (K : List Tm) (w1 w : World) (ov : Value) : Prop where
  row : w.ownsRow N 31 4 ov K.length (flatT K)
  each : ∀ m ∈ K, WB N w m
  bel : Below N w1 w
theorem LpI.set {N : Nat} {K : List Tm} {w1 w : World} {ov : Value} {g p : Nat} {cur : Array Value} (h : LpI N K w1 w ov) (hg : w.heap[g]? = some (.cells cur 2 (0, 0))) (hN : N ≤ g) : LpI N K w1 (w.setCell ⟨g, p, none⟩ (.int .i64 77)) ov := by
  refine ⟨own_setCell h.row hg (by decide), fun m hm h0 => ?_, below_setCell h.bel hN⟩
  obtain ⟨g', off, cur', ha, q1, q2, q3⟩ := h.each m hm h0
  by_cases e : g' = g
  · subst e
    rw [hg] at q2
    cases q2
    exact ⟨g', off, _, ha, q1, heap_setCell_same w g' p _ _ _ hg, by simpa using q3⟩
  · exact ⟨g', off, cur', ha, q1, (heap_setCell_other _ _ _ _ e).trans q2, q3⟩
theorem LpI.at_ {N : Nat} {K : List Tm} {w1 w : World} {aa : Option Addr} {an ac k : Nat} (h : LpI N K w1 w (.slice aa an ac)) (hk : k < K.length) : ∃ b x, aa = some ⟨b, 0, none⟩ ∧ Hid (K[k]? = some x) ∧ w.cell? ⟨b, 0 + k * 4 + 3, none⟩ = some (.slice x.wa x.wn x.wc) ∧ WB N w x := by
  rcases h.row.2 with ⟨e, h0⟩ | ⟨g, cap, cur, e, _⟩
  · omega
  · cases e
    have e : K[k]? = some K[k] := List.getElem?_eq_getElem hk
    obtain ⟨_, _, _, c3⟩ := rowT_own h.row k _ e
    exact ⟨g, K[k], rfl, e, c3, h.each _ (List.getElem_mem hk)⟩
set_option maxHeartbeats 8000000 in
theorem all_walk {w : World} {da : Option Addr} {dn dc : Nat} {ms : List Tm} (h : IsTs w da dn dc ms) (hdn : dn ≤ 1048576) (hsh : Short ms) :
    Calls Try.prog 4 #[.slice da dn dc] w fun e w' => e = .returned (.bool true) ∧ Below w.heap.size w w' := by
  have hsz : Hid (ms.length = dn) := h.size
  by_cases hbig : 100 < dn
  · have hbI : (100 : Int) < (dn : Int) := by omega
    have hkn := known_true w
    go_enter Try.func4, Try.ntmps4
    go_wp2_with fail
    refine hkn.mono ?_
    rintro e w9 ⟨rfl, B10⟩
    go_wp2
    go_ret
    exact ⟨rfl, B10⟩
  · have hbI : ¬ (100 : Int) < (dn : Int) := by omega
    have hg := given_any h hdn hsh
    go_enter Try.func4, Try.ntmps4
    go_wp2_with fail
    refine hg.mono ?_
    rintro e w1 ⟨ga, gn, gc, gm, rfl, OG, hgd, B1⟩
    clear hg
    replace hgd : Hid (gm.map Tm.d = ms.map Tm.d) := hgd
    have hgs : Short gm := short_of OG.isTs h hgd.out hsh
    have hgn : gn ≤ 100 := by
      have h1 := OG.isTs.size
      have h2 := congrArg List.length hgd.out
      rw [List.length_map, List.length_map, hsz.out] at h2
      omega
    have hI1 := h.below B1
    have hva := vall_any OG.isTs (by omega) hgs
    go_wp2_with fail
    refine hva.mono ?_
    rintro e w2 ⟨aa, an, ac, K, rfl, OA, hKd, hKw, hKs, B2⟩
    rw [hgd.out] at hKd
    replace hKd : Hid (K.map Tm.d = (allA (ms.map Tm.d)).1) := hKd
    have hanK : Hid (an = K.length) := by obtain ⟨_, _, _, e, hl⟩ := OA.shape; cases e; exact hl
    have hKl : K.length ≤ dn := by
      have h1 := (allI_all (ms.map Tm.d) ms.length).len
      rw [List.take_of_length_le (by rw [List.length_map]; exact Nat.le_refl _), ← hKd.out, List.length_map, hsz.out] at h1
      exact h1
    have B3 := below_size B1 B1.size B2
    have htk := taken_any OA.isTs (fun x hx => OA.2 x hx) (by rw [hanK.out]; omega)
    clear hva
    go_wp2_with fail
    refine htk.mono ?_
    rintro e w3 ⟨ta, tn, tc, rfl, OT, B4⟩
    have B5 := below_size B2 B2.size B4
    have hra := rall_any (hI1.below B5) (by omega) hsh
    clear htk
    go_wp2_with fail
    refine hra.mono ?_
    rintro e w4 ⟨ra, rn, rc, K2, rfl, OR, hK2, B6⟩
    have B7 := below_size B5 B5.size B6
    have htn : tn ≤ 1048576 := by have h1 := OT.isTs.size; omega
    have hsm := same_true (OT.isTs.below B6) OR.isTs (by rw [hKd.out, hK2]) htn hKs
    clear hra hK2
    go_wp2_with fail
    refine hsm.mono ?_
    rintro e w5 ⟨rfl, B8⟩
    have B9 := below_size B7 B7.size B8
    have OG5 := OG.below B9
    have htk := taken_any OG5.isTs (fun x hx => OG5.2 x hx) (by omega)
    clear hsm OR OT
    go_wp2_with fail
    refine htk.mono ?_
    rintro e w6 ⟨sa, sn, sc, rfl, OS, B10⟩
    have B11 := below_size B9 B9.size B10
    have hsn : sn ≤ 1048576 := by
      have h1 := OS.isTs.size
      have h2 := OG.isTs.size
      omega
    have hsm := same_true OS.isTs (hI1.below B11) hgd.out hsn hgs
    clear htk OG5
    go_wp2_with fail
    refine hsm.mono ?_
    rintro e w7 ⟨rfl, B12⟩
    have B13 := below_size B11 B11.size B12
    clear hsm OS hsn
    have B27 : Below w2.heap.size w2 w7 := below_size (below_size (below_size (below_size B4 B4.size B6) (Nat.le_trans B4.size B6.size) B8) (Nat.le_trans (Nat.le_trans B4.size B6.size) B8.size) B10) (Nat.le_trans (Nat.le_trans (Nat.le_trans B4.size B6.size) B8.size) B10.size) B12
    have OA7 := OA.below B27
    have hser := serial_any OA7.isTs (by rw [hanK.out]; omega) hKs
    rw [hKd.out, serA_all, ← hKd.out, List.length_map, ← hanK.out] at hser
    clear B4 B5 B6 B7 B8 B9 B10 B11 B12
    go_wp2_with fail
    refine hser.mono ?_
    rintro e w8 ⟨rfl, B14⟩
    have B15 := below_size B13 B13.size B14
    have B28 := below_size B27 B27.size B14
    have I8 : LpI w1.heap.size K w1 w8 (.slice aa an ac) := ⟨(OA7.below B14).1, fun m hm => WB.of ((hKw m hm).below B28), B15⟩
    clear hser OA7 B27 B28 B14 B13 OA hKw
    have hanI : an ≤ 9223372036854775807 := by rw [hanK.out]; omega
    go_wp2
    go_loopw [8] (fun iv wr => ∃ k : Nat, k ≤ an ∧ iv = .int .i64 (k : Int) ∧ LpI w1.heap.size K w1 wr (.slice aa an ac)) (fun iv _ => an - (intOf iv).toNat)
    case atStart => exact ⟨0, by omega, rfl, I8⟩
    case round =>
      obtain ⟨k, hk, rfl, I⟩ := hrel
      by_cases hlt : k < an
      · have hkI : (k : Int) < (an : Int) := by omega
        have hwk : IntKind.i64.wrap ((k : Int) + 1) = (k : Int) + 1 := by rw [IntKind.wrap_i64]; omega
        obtain ⟨b, x, rfl, hx, _, _⟩ := I.at_ (by rw [← hanK.out]; exact hlt)
        have hxm := List.mem_of_getElem? hx.out
        have hxw := (hKs x hxm).2
        go_wp2
        go_loopw [9] (fun iv wr => ∃ j : Nat, j ≤ x.wn ∧ iv = .int .i64 (j : Int) ∧ LpI w1.heap.size K w1 wr (.slice (some ⟨b, 0, none⟩) an ac)) (fun iv _ => x.wn - (intOf iv).toNat)
        case atStart => exact ⟨0, by omega, rfl, I⟩
        case round =>
          clear I
          obtain ⟨j, hj, rfl, I⟩ := hrel
          obtain ⟨b', x', he, hx', c3, hw⟩ := I.at_ (by rw [← hanK.out]; exact hlt)
          cases he
          obtain rfl : x' = x := by have := hx'.out; rw [hx.out] at this; exact (Option.some.inj this).symm
          clear hx'
          rw [Nat.zero_add] at c3
          by_cases hlj : j < x'.wn
          · have hjI : (j : Int) < (x'.wn : Int) := by omega
            have hwj : IntKind.i64.wrap ((j : Int) + 1) = (j : Int) + 1 := by rw [IntKind.wrap_i64]; omega
            obtain ⟨g, off, cur, ha, hN, hgb, hle⟩ := hw (by omega)
            have I2 := I.set (p := off + j) hgb hN
            have zc : ∃ z, wr.cell? ⟨g, off + j, none⟩ = some z := by
              rw [cell_of_row wr g _ _ _ _ hgb]
              exact ⟨_, Array.getElem?_eq_getElem (by omega)⟩
            obtain ⟨z, zc⟩ := zc
            have zf : wr.frozen? ⟨g, off + j, none⟩ = false := by
              unfold World.frozen?
              rw [hgb]
              rfl
            rw [ha] at c3
            clear I hgb
            go_wp2
            go_roundw
            case rel => exact ⟨j + 1, by omega, by go_num, I2⟩
            case measure => simp [intOf]; omega
          · have hge : ¬ (j : Int) < (x'.wn : Int) := by omega
            go_wp2
            go_roundw
            case rel => exact ⟨k + 1, by omega, by go_num, I⟩
            case measure => simp [intOf]; omega
      · have hge : ¬ (k : Int) < (an : Int) := by omega
        have OGr := OG.below I.bel
        have htk := taken_any OGr.isTs (fun x hx => OGr.2 x hx) (by omega)
        have Br := I.bel
        go_wp2_with fail
        refine htk.mono ?_
        rintro e w9 ⟨sa, sn, sc, rfl, OS, B20⟩
        have B21 := below_size Br Br.size B20
        have hsn : sn ≤ 1048576 := by
          have h1 := OS.isTs.size
          have h2 := OG.isTs.size
          omega
        have hsm := same_true OS.isTs (hI1.below B21) hgd.out hsn hgs
        clear htk OGr I
        go_wp2_with fail
        refine hsm.mono ?_
        rintro e w10 ⟨rfl, B22⟩
        have B23 := below_size B21 B21.size B22
        have B24 : Below w.heap.size w w10 := B1.trans (B23.mono B1.size)
        have hkn := known_true w10
        clear hsm OS
        go_wp2_with fail
        refine hkn.mono ?_
        rintro e w11 ⟨rfl, B25⟩
        have B26 := below_size B24 B24.size B25
        clear hkn
        go_wp2
        go_ret
        exact ⟨rfl, B26⟩
end Go.Proofs.Ytigmpmichhghdaa
