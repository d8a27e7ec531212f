/- given: transactions as the program has them. -/
import Derived.Test.YtigmpmichhghdaaOne
namespace Go.Proofs.Ytigmpmichhghdaa
open Go.RowKit
set_option maxRecDepth 100000
/-- All lists of some transactions are short. -/
def Short (ms : List Tm) : Prop := ∀ m ∈ ms, m.rn ≤ 1048576 ∧ m.wn ≤ 1048576
def GivP (w : World) (ms : List Tm) (e : Ending) (w' : World) : Prop := ∃ a n c ms', e = .returned (.slice a n c) ∧ OwnT 0 w' w.heap.size 31 (.slice a n c) ms' ∧ ms'.map Tm.d = ms.map Tm.d ∧ Below w.heap.size w w'
theorem Tm.d_len {m m' : Tm} {w : World} {N : Nat} (h : m'.d = m.d) (h1 : St N w m') (h2 : m.In w) : m'.rn = m.rn ∧ m'.wn = m.wn := by
  have e1 : m'.rs = m.rs := congrArg Tx.rs h
  have e2 : m'.ws = m.ws := congrArg Tx.ws h
  rw [← h1.r.1.size, ← h2.r.1.size, ← h1.w.1.size, ← h2.w.1.size, e1, e2]
  exact ⟨rfl, rfl⟩
set_option maxHeartbeats 4000000 in
theorem given_any {w : World} {a : Option Addr} {n cap : Nat} {ms : List Tm} (h : IsTs w a n cap ms) (hn : n ≤ 1048576) (hsh : Short ms) :
    Calls Try.prog 9 #[.slice a n cap] w fun e w' => GivP w ms e w' := by
  go_enter Try.func9, Try.ntmps9
  go_wp2
  go_loopw [3, 4] (fun ov iv wr => ∃ (k : Nat) (ms' : List Tm), k ≤ n ∧ iv = .int .i64 (k : Int) ∧ OwnT 0 wr w.heap.size 31 ov ms' ∧ ms'.map Tm.d = (ms.take k).map Tm.d ∧ Below w.heap.size w wr) (fun _ iv _ => n - (intOf iv).toNat)
  case atStart => exact ⟨0, [], by omega, rfl, ownT_nil _ _ _ _, rfl, Below.refl _ _⟩
  case round =>
    obtain ⟨k, ms', hk, rfl, O, hd, B⟩ := hrel
    obtain ⟨a4, n4, c4, rfl, hn4⟩ := O.shape
    replace hn4 : Hid (n4 = ms'.length) := hn4
    have hl' : Hid (ms'.length = k) := by
      have := congrArg List.length hd
      rw [List.length_map, List.length_map, List.length_take, h.size] at this
      unfold Hid
      omega
    replace hd : Hid (ms'.map Tm.d = (ms.take k).map Tm.d) := hd
    by_cases hlt : k < n
    · obtain ⟨b, off, m, rfl, hbl, c0, c1, c2, c3, hx, hin⟩ := (h.below B).at_ k hlt
      have hm := hsh m (List.mem_of_getElem? hx.out)
      have hone := one_any hin hm.1 hm.2
      go_wp2_with fail
      refine hone.mono ?_
      rintro e w1 ⟨m', rfl, hmd, _, _, S1, B1⟩
      clear hone c0 c1 c2 c3
      have O1 := O.below B1
      have B2 := below_size B B.size B1
      have O2 := O1.below (box_below (o := .cells #[.int .i64 m'.base, .int .i64 m'.com, .slice m'.ra m'.rn m'.rc, .slice m'.wa m'.wn m'.wc] 31))
      have S2 := S1.below (box_below (o := .cells #[.int .i64 m'.base, .int .i64 m'.com, .slice m'.ra m'.rn m'.rc, .slice m'.wa m'.wn m'.wc] 31))
      have B3 := below_size B2 B2.size (box_below (o := .cells #[.int .i64 m'.base, .int .i64 m'.com, .slice m'.ra m'.rn m'.rc, .slice m'.wa m'.wn m'.wc] 31))
      have hlc : ms'.length ≤ 1954687338265 := by rw [hl'.out]; omega
      go_wp2_with (at_builtin; refine app_txn Try.underlying26 Try.info31 (by decide) _ rfl _ _ rfl w.heap.size _ _ rfl O2 _ m' rfl lit_cells S2 hlc B3.size (Nat.zero_le _) ?_)
      intro a5 n5 c5 w2 O3 B4 _
      have B5 := B3.trans B4
      clear B3 B4 O2 O1 O S1 S2
      go_wp2
      go_roundw
      case rel =>
        refine ⟨k + 1, ms' ++ [m'], by omega, by go_num, O3, ?_, B5⟩
        rw [take_at hx.out, List.map_append, List.map_append, hd.out]
        simp [hmd]
      case measure => simp [intOf]; omega
    · go_wp2
      go_ret
      have hd' := hd.out
      rw [List.take_of_length_le (by rw [h.size]; omega)] at hd'
      exact ⟨_, _, _, ms', rfl, O, hd', B⟩
end Go.Proofs.Ytigmpmichhghdaa
