/- The document's Of: a small number, by its eight bytes. -/
import Derived.Test.YtgammgdckneoiabDoorMade
namespace Go.Proofs.YtgammgdckneoiabDoor
open Go.RowKit

theorem bytes_step (V i : Nat) (hi : i < 8) : bytesN (8 - (i + 1)) (V / 256 ^ (i + 1)) ++ [((V / 256 ^ i % 256 : Nat) : Int)] = bytesN (8 - i) (V / 256 ^ i) := by
  obtain ⟨m, hm⟩ : ∃ m, 8 - i = m + 1 := ⟨8 - i - 1, by omega⟩
  rw [hm, show 8 - (i + 1) = m by omega]
  rw [show bytesN (m + 1) (V / 256 ^ i) = bytesN m (V / 256 ^ i / 256) ++ [((V / 256 ^ i % 256 : Nat) : Int)] from rfl, Nat.div_div_eq_div_mul, ← Nat.pow_succ]

set_option maxRecDepth 100000 in
set_option maxHeartbeats 2000000 in
theorem rof_any (n : Int) (w : World) (h0 : -9223372036854775808 ≤ n) (h1 : n ≤ 9223372036854775807) :
    Calls Tryd.prog 14 #[.int .i64 n] w fun e w' => ∃ v, e = .returned (.agg #[.bool (decide (n < 0)), v]) ∧ OwnB w' w.heap.size v (mag n.natAbs) ∧ Below w.heap.size w w' := by
  have hbel : Below w.heap.size w (w.alloc (.cells #[.bool false, .slice none 0 0] 24)) := (Below.refl _ _).alloc (Nat.le_refl _) _
  have hvar0 : (w.alloc (.cells #[.bool false, .slice none 0 0] 24)).heap[w.heap.size]? = some (.cells #[.bool false, .slice none 0 0] 24 (0, 0)) := heap_alloc_new w _
  obtain ⟨V, hV⟩ : ∃ V, Hid (n.natAbs = V) := ⟨_, rfl⟩
  have hV64 : V < 18446744073709551616 := by have := hV.out; omega
  by_cases hn : n < 0
  · have hd : decide (n < 0) = true := by simpa using hn
    have hwr : IntKind.u64.wrap (-IntKind.u64.wrap n) = (V : Int) := by rw [wrapNeg n h0 hn, hV.out]
    have H8 : Hid (val8 (bytesN 8 V) = V) := val8_bytesN 8 V (by omega)
    go_enter Tryd.func14, Tryd.ntmps14
    go_wp2
    go_loopw [4, 5] (fun v i wr => ∃ j : Nat, j ≤ 8 ∧ i = .int .i64 ((j : Int) - 1) ∧ wr.ownsRow (w.heap.size + 1) 5 1 v (8 - j) ((bytesN (8 - j) (V / 256 ^ j)).map (Value.int .u8)) ∧ wr.heap[w.heap.size]? = some (.cells #[.bool false, .slice none 0 0] 24 (0, 0)) ∧ Below w.heap.size w wr) (fun _ i _ => ((intOf i) + 1).toNat)
    case atStart => exact ⟨8, Nat.le_refl _, rfl, World.ownsRow_nil _ _ _ _, hvar0, hbel⟩
    case round =>
      obtain ⟨j, hj, rfl, hown, hvar, hbw⟩ := hrel
      match j, hj with
      | 0, _ =>
        obtain ⟨av, cv, hu, hB⟩ := (ownB_of hown (bytesN_lt _ _)).2
        rw [bytesN_len] at hu hB
        subst hu
        have hB8 : IsB wr av 8 cv (bytesN 8 V) := by simpa using hB
        clear hB hown
        go_wp2_with fail
        refine (made_any true hB8 (by decide)).mono ?_
        rintro e w3 ⟨v3, rfl, hO3, hb3⟩
        rw [H8.out] at hO3 ⊢
        obtain ⟨av3, cv3, rfl, _⟩ := hO3.2
        have hlt := lt_of_block hvar
        have hvar3 := (hb3.block w.heap.size hlt).trans hvar
        obtain ⟨y0, y1, g0, g1⟩ := intVarT hvar3
        have hb3' := below_size hbw (Nat.le_refl _) hb3
        have hne : decide (V ≠ 0) = true := by have := hV.out; simp; omega
        rw [hne]
        clear hvar hvar0 hB8
        go_wp2
        rw [hd, hV.out]
        exact bodyPost_ret (v := .agg #[.bool true, .slice av3 (mag V).length cv3]) (by simp [results, Tryd.results14, go_sem, y0, y1]) rfl ⟨_, rfl, hO3.put hlt (Nat.le_of_lt hlt), below_put hb3' (Nat.le_refl _)⟩
      | i + 1, hj =>
        have ei : (((i + 1 : Nat) : Int) - 1) = (i : Int) := by omega
        rw [ei]
        have Hst : Hid (bytesN (8 - (i + 1)) (V / 256 ^ (i + 1)) ++ [((V / 256 ^ i % 256 : Nat) : Int)] = bytesN (8 - i) (V / 256 ^ i)) := bytes_step V i (by omega)
        have hbv : (V : Int) / 2 ^ (8 * i) % 256 = ((V / 256 ^ i % 256 : Nat) : Int) := by
          rw [show (256 : Nat) ^ i = 2 ^ (8 * i) by rw [Nat.pow_mul]]; simp
        have kl := isB_lit wr #[.int .u8 ((V : Int) / 2 ^ (8 * i) % 256)] [((V / 256 ^ i % 256 : Nat) : Int)] 1 rfl (by decide) (by rw [hbv]; rfl) (by intro x hx; simp at hx; omega) (0, 0)
        have hown' := hown.alloc (.cells #[.int .u8 ((V : Int) / 2 ^ (8 * i) % 256)] 5)
        have hlt := lt_of_block hvar
        have hvar' := (Below.heap_alloc wr (.cells #[.int .u8 ((V : Int) / 2 ^ (8 * i) % 256)] 5) _ hlt).trans hvar
        have hbw' := hbw.alloc hbw.size (.cells #[.int .u8 ((V : Int) / 2 ^ (8 * i) % 256)] 5)
        clear hbv hown hvar hbw
        go_wp2_with (at_builtin; refine app_bytes _ rfl _ _ rfl (w.heap.size + 1) _ (8 - (i + 1)) _ rfl hown' _ 1 1 _ rfl kl (by omega) (by omega) (by simp; omega) ?_)
        intro v2 w2 hown2 hb2
        have hown3 : w2.ownsRow (w.heap.size + 1) 5 1 v2 (8 - i) ((bytesN (8 - i) (V / 256 ^ i)).map (Value.int .u8)) := by
          rw [← Hst.out, show 8 - i = 7 - i + 1 by omega]; simpa using hown2
        clear kl hown' hown2
        go_wp2
        go_roundw
        case rel => exact ⟨i, by omega, by go_num, hown3, (hb2.block _ (by omega)).trans hvar', hbw'.trans (hb2.mono (by omega))⟩
        case measure => simp [intOf]
  · have hd : decide (n < 0) = false := by simpa using hn
    have hwr : IntKind.u64.wrap n = (V : Int) := by rw [wrapU]; have := hV.out; omega
    have H8 : Hid (val8 (bytesN 8 V) = V) := val8_bytesN 8 V (by omega)
    go_enter Tryd.func14, Tryd.ntmps14
    go_wp2
    go_loopw [4, 5] (fun v i wr => ∃ j : Nat, j ≤ 8 ∧ i = .int .i64 ((j : Int) - 1) ∧ wr.ownsRow (w.heap.size + 1) 5 1 v (8 - j) ((bytesN (8 - j) (V / 256 ^ j)).map (Value.int .u8)) ∧ wr.heap[w.heap.size]? = some (.cells #[.bool false, .slice none 0 0] 24 (0, 0)) ∧ Below w.heap.size w wr) (fun _ i _ => ((intOf i) + 1).toNat)
    case atStart => exact ⟨8, Nat.le_refl _, rfl, World.ownsRow_nil _ _ _ _, hvar0, hbel⟩
    case round =>
      obtain ⟨j, hj, rfl, hown, hvar, hbw⟩ := hrel
      match j, hj with
      | 0, _ =>
        obtain ⟨av, cv, hu, hB⟩ := (ownB_of hown (bytesN_lt _ _)).2
        rw [bytesN_len] at hu hB
        subst hu
        have hB8 : IsB wr av 8 cv (bytesN 8 V) := by simpa using hB
        clear hB hown
        go_wp2_with fail
        refine (made_any false hB8 (by decide)).mono ?_
        rintro e w3 ⟨v3, rfl, hO3, hb3⟩
        rw [H8.out] at hO3 ⊢
        obtain ⟨av3, cv3, rfl, _⟩ := hO3.2
        have hlt := lt_of_block hvar
        have hvar3 := (hb3.block w.heap.size hlt).trans hvar
        obtain ⟨y0, y1, g0, g1⟩ := intVarT hvar3
        have hb3' := below_size hbw (Nat.le_refl _) hb3
        rw [Bool.false_and]
        clear hvar hvar0 hB8
        go_wp2
        rw [hd, hV.out]
        exact bodyPost_ret (v := .agg #[.bool false, .slice av3 (mag V).length cv3]) (by simp [results, Tryd.results14, go_sem, y0, y1]) rfl ⟨_, rfl, hO3.put hlt (Nat.le_of_lt hlt), below_put hb3' (Nat.le_refl _)⟩
      | i + 1, hj =>
        have ei : (((i + 1 : Nat) : Int) - 1) = (i : Int) := by omega
        rw [ei]
        have Hst : Hid (bytesN (8 - (i + 1)) (V / 256 ^ (i + 1)) ++ [((V / 256 ^ i % 256 : Nat) : Int)] = bytesN (8 - i) (V / 256 ^ i)) := bytes_step V i (by omega)
        have hbv : (V : Int) / 2 ^ (8 * i) % 256 = ((V / 256 ^ i % 256 : Nat) : Int) := by
          rw [show (256 : Nat) ^ i = 2 ^ (8 * i) by rw [Nat.pow_mul]]; simp
        have kl := isB_lit wr #[.int .u8 ((V : Int) / 2 ^ (8 * i) % 256)] [((V / 256 ^ i % 256 : Nat) : Int)] 1 rfl (by decide) (by rw [hbv]; rfl) (by intro x hx; simp at hx; omega) (0, 0)
        have hown' := hown.alloc (.cells #[.int .u8 ((V : Int) / 2 ^ (8 * i) % 256)] 5)
        have hlt := lt_of_block hvar
        have hvar' := (Below.heap_alloc wr (.cells #[.int .u8 ((V : Int) / 2 ^ (8 * i) % 256)] 5) _ hlt).trans hvar
        have hbw' := hbw.alloc hbw.size (.cells #[.int .u8 ((V : Int) / 2 ^ (8 * i) % 256)] 5)
        clear hbv hown hvar hbw
        go_wp2_with (at_builtin; refine app_bytes _ rfl _ _ rfl (w.heap.size + 1) _ (8 - (i + 1)) _ rfl hown' _ 1 1 _ rfl kl (by omega) (by omega) (by simp; omega) ?_)
        intro v2 w2 hown2 hb2
        have hown3 : w2.ownsRow (w.heap.size + 1) 5 1 v2 (8 - i) ((bytesN (8 - i) (V / 256 ^ i)).map (Value.int .u8)) := by
          rw [← Hst.out, show 8 - i = 7 - i + 1 by omega]; simpa using hown2
        clear kl hown' hown2
        go_wp2
        go_roundw
        case rel => exact ⟨i, by omega, by go_num, hown3, (hb2.block _ (by omega)).trans hvar', hbw'.trans (hb2.mono (by omega))⟩
        case measure => simp [intOf]
end Go.Proofs.YtgammgdckneoiabDoor
