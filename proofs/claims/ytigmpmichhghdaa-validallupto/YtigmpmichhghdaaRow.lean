/- Rows of transactions that are put together; Count. -/
import Derived.Test.YtigmpmichhghdaaLwP
namespace Go.Proofs.Ytigmpmichhghdaa
open Go.RowKit
set_option maxRecDepth 100000
theorem IsTs.nil' {w : World} {a : Option Addr} {len cap : Nat} {ms : List Tm} (h : IsTs w a len cap ms) : a = none → len = 0 ∧ cap = 0 := fun e => by
  have h1 := h.nil0 e
  have h2 := h.room
  omega
theorem IsTs.cellsAt {w : World} {a : Option Addr} {len cap : Nat} {ms : List Tm} (h : IsTs w a len cap ms) : ∀ ad, a = some ad → ∀ j u, (flatT ms)[j]? = some u → w.cell? (ad.add j) = some u := by
  intro ad ha j u hj
  have hl : j < ms.length * 4 := by have := (List.getElem?_eq_some_iff.1 hj).1; rw [flatT_len] at this; exact this
  have hsz := h.size
  obtain ⟨b, off, ha', hr⟩ := h.cells (by omega)
  rw [ha] at ha'
  cases ha'
  have h1 : j / 4 < ms.length := by omega
  have e := flatT_at ms (j / 4) ms[j / 4] (List.getElem?_eq_getElem h1) (j % 4) (by omega)
  rw [show j / 4 * 4 + j % 4 = j by omega, hj] at e
  obtain ⟨c0, c1, c2, c3⟩ := hr (j / 4) ms[j / 4] (List.getElem?_eq_getElem h1)
  rw [addr_add]
  have hj4 : j = j / 4 * 4 + j % 4 := by omega
  have h4 : j % 4 = 0 ∨ j % 4 = 1 ∨ j % 4 = 2 ∨ j % 4 = 3 := by omega
  rcases h4 with q | q | q | q
  · rw [q] at e hj4; cases e; rw [show off + j = off + j / 4 * 4 by omega]; exact c0
  · rw [q] at e hj4; cases e; rw [show off + j = off + j / 4 * 4 + 1 by omega]; exact c1
  · rw [q] at e hj4; cases e; rw [show off + j = off + j / 4 * 4 + 2 by omega]; exact c2
  · rw [q] at e hj4; cases e; rw [show off + j = off + j / 4 * 4 + 3 by omega]; exact c3
/-- append of a row of transactions that came in. -/
theorem app_txns {t e : Nat} (htu : Try.prog.underlying t = some (.slice e)) (hinfo : (Try.prog.info? e).map (fun i => (i.zero, i.size, i.bytes)) = some (some (.agg #[.int .i64 0, .int .i64 0, .slice none 0 0, .slice none 0 0]), 4, 64)) (he : e ≠ 2)
    {ops : Array Oper} {rest : List Oper} {o : Oper} {a : Act} {Q : Exit → Act → World → Prop} {N : Nat} (w : World) (hgd : o.guard = none) (s x : Operand)
    (ho : o.op = .call { callee := .builtin .append, args := #[s, x], argTypes := #[t, t] })
    (base : Nat) (v : Value) (ms : List Tm) (hs : a.eval s = v) (hown : OwnT N w base e v ms)
    (ab : Option Addr) (len cap : Nat) (xs : List Tm) (hx : a.eval x = .slice ab len cap) (hB : IsTs w ab len cap xs) (hSt : ∀ m ∈ xs, St N w m)
    (h47 : ms.length + len ≤ 1954687338265) (hbase : base ≤ w.heap.size) (hN : N ≤ base)
    (h : ∀ a' n' c' w', OwnT N w' base e (.slice a' n' c') (ms ++ xs) → Below base w w' → wpList Try.prog ops Q rest (a.put o.dst (.slice a' n' c')) w') : wpList Try.prog ops Q (o :: rest) a w := by
  obtain ⟨i0, hi, hz0, hz1, hz2⟩ := info_parts hinfo
  have hsz := hB.size
  cases ab with
  | none =>
    obtain ⟨rfl, rfl⟩ := hB.nil' rfl
    obtain rfl : xs = [] := List.eq_nil_of_length_eq_zero hB.size
    refine wpList_append_own_none hgd s x t ho base e i0 4 htu hi v ms.length _ hs hown.1 hx ?_
    obtain ⟨a', n', c', rfl, _⟩ := hown.shape
    exact h a' n' c' w (by rw [List.append_nil]; exact hown) (Below.refl _ _)
  | some ad =>
    refine wpList_append_own w hgd s x t ho base e i0 (.agg #[.int .i64 0, .int .i64 0, .slice none 0 0, .slice none 0 0]) 4 64 htu hi hz0 hz1 hz2 rfl (by decide) _ ms.length _ hs hown.1 ad len cap (flatT xs) hx (by rw [flatT_len, hsz]) (hB.cellsAt ad rfl) (flatT_one xs) (by unfold maxLen; omega) (by omega) hbase ?_
    intro v' w' hown' hgrow _
    have kn := keepN_grown hown he hN hgrow
    have O : OwnT N w' base e v' (ms ++ xs) := by
      refine ⟨by rw [flatT_app, List.length_append, hsz]; exact hown', fun m hm => ?_⟩
      rcases List.mem_append.1 hm with hm | hm
      · exact (hown.2 m hm).kept kn
      · exact (hSt m hm).kept kn
    obtain ⟨a', n', c', hv, _⟩ := O.shape
    subst hv
    exact h a' n' c' w' O ((Below.refl _ _).grown hgrow hbase (fun j hj => (hown.1.lt j hj).1))
theorem IsTs.take {w : World} {b off n cap L : Nat} {ms : List Tm} (h : IsTs w (some ⟨b, off, none⟩) n cap ms) (hL : L ≤ n) : IsTs w (some ⟨b, off, none⟩) L cap (ms.take L) := by
  have h1 := h.size
  have h2 := h.room
  refine ⟨by rw [List.length_take]; omega, by omega, h.most, by simp, fun h0 => ⟨b, off, rfl, fun i m hm => ?_⟩, fun m hm => h.each m (List.mem_of_mem_take hm)⟩
  obtain ⟨b', off', e, hr⟩ := h.cells (by omega)
  cases e
  have hi : i < L := by have := (List.getElem?_eq_some_iff.1 hm).1; rw [List.length_take] at this; omega
  rw [List.getElem?_take_of_lt hi] at hm
  exact hr i m hm
theorem IsTs.drop {w : World} {b off n cap L : Nat} {ms : List Tm} (h : IsTs w (some ⟨b, off, none⟩) n cap ms) (hL : L ≤ n) : IsTs w (some ⟨b, off + L * 4, none⟩) (n - L) (cap - L) (ms.drop L) := by
  have h1 := h.size
  have h2 := h.room
  have h3 := h.most
  refine ⟨by rw [List.length_drop]; omega, by omega, by omega, by simp, fun h0 => ⟨b, off + L * 4, rfl, fun i m hm => ?_⟩, fun m hm => h.each m (List.mem_of_mem_drop hm)⟩
  obtain ⟨b', off', e, hr⟩ := h.cells (by omega)
  cases e
  rw [List.getElem?_drop] at hm
  have := hr (L + i) m hm
  rw [show off + L * 4 + i * 4 = off + (L + i) * 4 by omega]
  exact this
set_option maxHeartbeats 1000000 in
theorem count_any (k : Int) (n : Nat) (h1 : 1 ≤ n) (h2 : n ≤ 2000000) (w : World) :
    Calls Try.prog 20 #[.int .i64 k, .int .i64 (n : Int)] w fun e w' => ∃ c : Nat, c < n ∧ e = .returned (.int .i64 (c : Int)) ∧ w = w' := by
  have ha := Int.tmod_lt_of_pos k (show (0 : Int) < n by omega)
  have hb := Int.lt_tmod_of_pos k (show (0 : Int) < n by omega)
  have hlt : ¬ (n : Int) < 1 := by omega
  have hn0 : ¬ (n : Int) = 0 := by omega
  have hw0 : IntKind.i64.wrap (k.tmod n) = k.tmod n := by rw [IntKind.wrap_i64]; omega
  have hw1 : IntKind.i64.wrap (k.tmod n + n) = k.tmod n + n := by rw [IntKind.wrap_i64]; omega
  go_enter Try.func20, Try.ntmps20
  by_cases hneg : k.tmod n < 0
  · go_wp2
    go_ret
    exact ⟨(k.tmod n + n).toNat, by omega, by rw [Int.toNat_of_nonneg (by omega)]; rfl, rfl⟩
  · go_wp2
    go_ret
    exact ⟨(k.tmod n).toNat, by omega, by rw [Int.toNat_of_nonneg (by omega)]; rfl, rfl⟩
end Go.Proofs.Ytigmpmichhghdaa
