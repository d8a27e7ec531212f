/- RcSum: the reckoning; ops that are made. -/
import Derived.Test.YtkkilenokpoaoaaBag
namespace Go.Proofs.Ytkkilenokpoaoaa
open Go.RowKit
set_option maxRecDepth 100000
def tot : List Int → Int
  | [] => 0
  | z :: t => z.tmod 1000000 + tot t
theorem tot_snoc (xs : List Int) (x : Int) : tot (xs ++ [x]) = tot xs + x.tmod 1000000 := by
  induction xs with
  | nil => simp [tot]
  | cons z t ih => simp only [List.cons_append, tot, ih]; omega
def opsOf (zs : List Int) : List Pp := zs.map fun z => ⟨5, true, 3, z.tmod 1000000⟩
theorem tmod_bd (z : Int) : -999999 ≤ z.tmod 1000000 ∧ z.tmod 1000000 ≤ 999999 := by
  have h1 := Int.tmod_lt_of_pos z (b := 1000000) (by decide)
  have h2 : -1000000 < z.tmod 1000000 := by
    rcases Int.le_total 0 z with h | h
    · have := Int.tmod_nonneg 1000000 h
      omega
    · have h3 := Int.tmod_nonneg 1000000 (show 0 ≤ -z by omega)
      have h4 := Int.tmod_lt_of_pos (-z) (b := 1000000) (by decide)
      rw [Int.neg_tmod] at h3 h4
      omega
  omega
theorem play_tot : ∀ (zs : List Int) (n B : Int), -B ≤ n → n ≤ B → B + 1000000 * zs.length ≤ 1000000000 → playS cnt [(3, n)] (opsOf zs) = some [(3, n + tot zs)]
  | [], n, B, h1, h2, h3 => by simp [opsOf, playS, tot]
  | z :: t, n, B, h1, h2, h3 => by
    have hb := tmod_bd z
    have e : cnt [(3, n)] ⟨5, true, 3, z.tmod 1000000⟩ = some [(3, n + z.tmod 1000000)] :=
      cnt_yes (p := ⟨5, true, 3, z.tmod 1000000⟩) ⟨rfl, rfl, rfl, (show -1152921504606846976 ≤ n + z.tmod 1000000 by omega), (show n + z.tmod 1000000 < 1152921504606846976 by omega)⟩
    have hl : ((z :: t).length : Int) = t.length + 1 := by simp
    have ih := play_tot t (n + z.tmod 1000000) (B + 1000000) (by omega) (by omega) (by omega)
    have e2 : playS cnt [(3, n)] (opsOf (z :: t)) = playS cnt [(3, n + z.tmod 1000000)] (opsOf t) := by
      show (match cnt [(3, n)] ⟨5, true, 3, z.tmod 1000000⟩ with | none => none | some us' => playS cnt us' (opsOf t)) = _
      rw [e]
    rw [e2, ih]
    simp only [tot]
    rw [show n + z.tmod 1000000 + tot t = n + (z.tmod 1000000 + tot t) by omega]
theorem opsOf_ok (zs : List Int) : ∀ p ∈ opsOf zs, p.ok := by
  intro p hp
  obtain ⟨z, _, rfl⟩ := List.mem_map.1 hp
  have := tmod_bd z
  unfold Pp.ok I64
  simp only
  omega
theorem Try.info66 : (Try.prog.info? 66).map (fun i => (i.zero, i.size, i.bytes)) = some (some (.agg #[.int .i64 0, .bool false, .int .i64 0, .int .i64 0]), 4, 32) := by kernel_rfl
theorem IsP.cellsAt {w : World} {a : Option Addr} {len cap : Nat} {ps : List Pp} (h : IsP w a len cap ps) : ∀ ad, a = some ad → ∀ j u, (flatP ps)[j]? = some u → w.cell? (ad.add j) = some u := by
  intro ad ha j u hj
  have hjl : j < ps.length * 4 := by
    have := (List.getElem?_eq_some_iff.1 hj).1
    rwa [flatP_len] at this
  obtain ⟨b, off, hb, hc⟩ := h.cells (by have := h.size; omega)
  rw [ha] at hb
  obtain rfl := Option.some.inj hb
  have hi : j / 4 < ps.length := by omega
  obtain ⟨p, hp⟩ : ∃ p, ps[j / 4]? = some p := ⟨_, List.getElem?_eq_getElem hi⟩
  have hf := flatP_at ps (j / 4) p hp (j % 4) (by omega)
  rw [show j / 4 * 4 + j % 4 = j by omega, hj] at hf
  obtain ⟨c0, c1, c2, c3⟩ := hc _ _ hp
  rw [addr_add]
  have hm : j % 4 = 0 ∨ j % 4 = 1 ∨ j % 4 = 2 ∨ j % 4 = 3 := by omega
  rcases hm with e | e | e | e
  · rw [e] at hf
    cases hf
    rw [show off + j = off + j / 4 * 4 by omega]
    exact c0
  · rw [e] at hf
    cases hf
    rw [show off + j = off + j / 4 * 4 + 1 by omega]
    exact c1
  · rw [e] at hf
    cases hf
    rw [show off + j = off + j / 4 * 4 + 2 by omega]
    exact c2
  · rw [e] at hf
    cases hf
    rw [show off + j = off + j / 4 * 4 + 3 by omega]
    exact c3
theorem OwnP.wf {w : World} {base : Nat} {v : Value} {ps : List Pp} (h : OwnP w base v ps) : ∀ p ∈ ps, p.ok := by
  obtain ⟨_, _, _, _, k⟩ := h
  exact k.wf
theorem app_ops {ops : Array Oper} {rest : List Oper} {o : Oper} {a : Act} {Q : Exit → Act → World → Prop} (w : World) (hgd : o.guard = none) (s x : Operand)
    (ho : o.op = .call { callee := .builtin .append, args := #[s, x], argTypes := #[48, 48] })
    (base : Nat) (v : Value) (xs : List Pp) (hs : a.eval s = v) (hown : OwnP w base v xs)
    (ad : Addr) (len cap : Nat) (ys : List Pp) (hx : a.eval x = .slice (some ad) len cap) (hB : IsP w (some ad) len cap ys) (h47 : xs.length + len ≤ 4398046511104) (hbase : base ≤ w.heap.size)
    (h : ∀ a' n' c' w', OwnP w' base (.slice a' n' c') (xs ++ ys) → Below base w w' → wpList Try.prog ops Q rest (a.put o.dst (.slice a' n' c')) w') : wpList Try.prog ops Q (o :: rest) a w := by
  obtain ⟨i0, hi, hz0, hz1, hz2⟩ := info_parts Try.info66
  refine wpList_append_own w hgd s x 48 ho base 66 i0 (.agg #[.int .i64 0, .bool false, .int .i64 0, .int .i64 0]) 4 32 Try.underlying48 hi hz0 hz1 hz2 rfl (by decide) _ xs.length _ hs hown.1 ad len cap (flatP ys) hx (by rw [flatP_len, hB.size]) (hB.cellsAt ad rfl) (flatP_one ys) (by unfold maxLen; omega) (by omega) hbase ?_
  intro v' w' hown' hgrow _
  rw [← flatP_app] at hown'
  have O := ownP_of hown' (fun p hp => (List.mem_append.1 hp).elim (hown.wf p) (hB.wf p))
  obtain ⟨_, a', c', rfl, _⟩ := id O
  exact h a' _ c' w' O ((Below.refl _ _).grown hgrow hbase (fun j hj => (hown.1.lt j hj).1))
end Go.Proofs.Ytkkilenokpoaoaa
