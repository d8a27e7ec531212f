/- Rows of words. -/
import Derived.Test.YtlhmeipbcioncaaDoorLxH
import Derived.Lib.LazyBuf
namespace Go.Proofs.YtlhmeipbcioncaaDoor
open Go.RowKit
set_option maxRecDepth 100000
theorem addr_add (b off i : Nat) : (⟨b, off, none⟩ : Addr).add i = ⟨b, off + i, none⟩ := by unfold Addr.add; split <;> simp_all
theorem Tryd.info35 : (Tryd.prog.info? 35).map (fun i => (i.zero, i.size, i.bytes)) = some (some (.agg #[.int .i64 0, .string ⟨#[]⟩, .int .i64 0]), 3, 32) := by kernel_rfl
theorem Tryd.info44 : (Tryd.prog.info? 44).map (fun i => (i.zero, i.size, i.bytes)) = some (some (.agg #[.int .i64 0, .string ⟨#[]⟩, .int .i64 0]), 3, 32) := by kernel_rfl
/-- Words as cells. -/
def flatT : List Tk → List Value
  | [] => []
  | v :: t => .int .i64 v.kind :: .string (strOfNums v.text) :: .int .i64 (v.pos : Int) :: flatT t
theorem flatT_len : ∀ vs : List Tk, (flatT vs).length = vs.length * 3
  | [] => rfl
  | v :: t => by simp only [flatT, List.length_cons, flatT_len t]; omega
theorem flatT_app : ∀ vs us : List Tk, flatT (vs ++ us) = flatT vs ++ flatT us
  | [], _ => rfl
  | v :: t, us => by simp only [flatT, List.cons_append, flatT_app t us]
theorem flatT_at : ∀ (vs : List Tk) (i : Nat) (v : Tk), vs[i]? = some v → (flatT vs)[i * 3]? = some (.int .i64 v.kind) ∧ (flatT vs)[i * 3 + 1]? = some (.string (strOfNums v.text)) ∧ (flatT vs)[i * 3 + 2]? = some (.int .i64 (v.pos : Int))
  | [], _, _, h => by simp at h
  | u :: t, 0, v, h => by
    simp at h
    subst h
    exact ⟨rfl, rfl, rfl⟩
  | u :: t, i + 1, v, h => by
    have := flatT_at t i v (by simpa using h)
    rw [show (i + 1) * 3 = i * 3 + 3 by omega]
    exact this
def tk0 : Tk := ⟨0, [], 0⟩
/-- A slice of words that is read. -/
structure IsT (w : World) (a : Option Addr) (len cap : Nat) (ts : List Tk) : Prop where
  size : ts.length = len
  room : len ≤ cap
  most : cap ≤ maxLen
  nil0 : a = none → cap = 0
  cells : 0 < len → ∃ b off, a = some ⟨b, off, none⟩ ∧ ∀ i, i < len → w.cell? ⟨b, off + i * 3, none⟩ = some (.int .i64 (ts.getD i tk0).kind) ∧ w.cell? ⟨b, off + i * 3 + 1, none⟩ = some (.string (strOfNums (ts.getD i tk0).text)) ∧ w.cell? ⟨b, off + i * 3 + 2, none⟩ = some (.int .i64 ((ts.getD i tk0).pos : Int))
theorem ltC {w : World} {b o : Nat} {v : Value} (h : w.cell? ⟨b, o, none⟩ = some v) : b < w.heap.size := block_lt_of_cell h
theorem IsT.below {w w' : World} {a : Option Addr} {len cap : Nat} {ts : List Tk} (h : IsT w a len cap ts) (hb : Below w.heap.size w w') : IsT w' a len cap ts :=
  ⟨h.size, h.room, h.most, h.nil0, fun h0 => by
    obtain ⟨b, off, ha, hc⟩ := h.cells h0
    exact ⟨b, off, ha, fun i hi => ⟨(hb.cell (ltC (hc i hi).1)).trans (hc i hi).1, (hb.cell (ltC (hc i hi).2.1)).trans (hc i hi).2.1, (hb.cell (ltC (hc i hi).2.2)).trans (hc i hi).2.2⟩⟩⟩
theorem isT_nil (w : World) : IsT w none 0 0 [] := ⟨rfl, Nat.le_refl _, by decide, fun _ => rfl, fun h => absurd h (by decide)⟩
theorem isT_own {w : World} {base n cap ty g : Nat} {ts : List Tk} (h : w.ownsRow base ty 3 (.slice (some ⟨g, 0, none⟩) n cap) n (flatT ts)) : IsT w (some ⟨g, 0, none⟩) n cap ts := by
  have hl : ts.length = n := by have := h.1; rw [flatT_len] at this; omega
  have h2 := h.2
  refine ⟨hl, ?_, ?_, by simp, fun _ => ⟨g, 0, rfl, fun i hi => ?_⟩⟩
  · rcases h2 with ⟨h', _⟩ | ⟨g', cap', cur, h', _, _, hnc, _⟩
    · simp at h'
    · simp at h'; omega
  · rcases h2 with ⟨h', _⟩ | ⟨g', cap', cur, h', _, _, _, hcm, _⟩
    · simp at h'
    · simp at h'; omega
  · have e : ts[i]? = some (ts.getD i tk0) := by simp [show i < ts.length by omega]
    have hf := flatT_at ts i _ e
    have h3 := World.ownsRow.cells h (g := g) rfl (i * 3) _ hf.1
    have h4 := World.ownsRow.cells h (g := g) rfl (i * 3 + 1) _ hf.2.1
    have h5 := World.ownsRow.cells h (g := g) rfl (i * 3 + 2) _ hf.2.2
    rw [addr_add] at h3 h4 h5
    exact ⟨h3, h4, h5⟩
/-- A row of words of the call's own. -/
def OwnT (w : World) (base ty : Nat) (v : Value) (ts : List Tk) : Prop := w.ownsRow base ty 3 v ts.length (flatT ts)
theorem OwnT.nil (w : World) (base ty : Nat) : OwnT w base ty (.slice none 0 0) [] := World.ownsRow_nil w base ty 3
theorem OwnT.isT {w : World} {base ty : Nat} {v : Value} {ts : List Tk} (h : OwnT w base ty v ts) : ∃ a cap, v = .slice a ts.length cap ∧ IsT w a ts.length cap ts := by
  rcases h.2 with ⟨rfl, h0⟩ | ⟨g, cap, cur, rfl, _⟩
  · have : ts = [] := List.eq_nil_of_length_eq_zero h0
    subst this
    exact ⟨none, 0, rfl, isT_nil w⟩
  · exact ⟨_, cap, rfl, isT_own h⟩
theorem OwnT.below {w w' : World} {base ty : Nat} {v : Value} {ts : List Tk} (h : OwnT w base ty v ts) (hb : Below w.heap.size w w') : OwnT w' base ty v ts := by
  obtain ⟨h1, h2⟩ := h
  refine ⟨h1, ?_⟩
  rcases h2 with h2 | ⟨g, cap, cur, e, hg, hh, rest⟩
  · exact .inl h2
  · exact .inr ⟨g, cap, cur, e, hg, (hb.block _ (lt_of_block hh)).trans hh, rest⟩
theorem one_cells {w : World} {g : Nat} {kd : Int} {s : ByteArray} {p : Int} {ty : Nat} (h : w.heap[g]? = some (.cells #[.int .i64 kd, .string s, .int .i64 p] ty)) : ∀ j u, ([.int .i64 kd, .string s, .int .i64 p] : List Value)[j]? = some u → w.cell? ((⟨g, 0, none⟩ : Addr).add j) = some u := by
  intro j u hj
  rw [addr_add, Nat.zero_add]
  match j, hj with
  | 0, hj => simp at hj; subst hj; simp [World.cell?, h]
  | 1, hj => simp at hj; subst hj; simp [World.cell?, h]
  | 2, hj => simp at hj; subst hj; simp [World.cell?, h]
/-- append of one word, which lies in a block of its own. -/
theorem app_tok {ops : Array Oper} {rest : List Oper} {o : Oper} {a : Act} {Q : Exit → Act → World → Prop} (w : World) (sl ty : Nat) (hU : Tryd.prog.underlying sl = some (.slice ty)) (hI : (Tryd.prog.info? ty).map (fun i => (i.zero, i.size, i.bytes)) = some (some (.agg #[.int .i64 0, .string ⟨#[]⟩, .int .i64 0]), 3, 32)) (hgd : o.guard = none) (s x : Operand)
    (ho : o.op = .call { callee := .builtin .append, args := #[s, x], argTypes := #[sl, sl] })
    (base : Nat) (v : Value) (ts : List Tk) (hs : a.eval s = v) (hown : OwnT w base ty v ts)
    (g : Nat) (t : Tk) (hx : a.eval x = .slice (some ⟨g, 0, none⟩) 1 1) (hg : w.heap[g]? = some (.cells #[.int .i64 t.kind, .string (strOfNums t.text), .int .i64 (t.pos : Int)] ty)) (hn : ts.length ≤ 1000000) (hbase : base ≤ w.heap.size)
    (h : ∀ v' w', OwnT w' base ty v' (ts ++ [t]) → Below base w w' → wpList Tryd.prog ops Q rest (a.put o.dst v') w') : wpList Tryd.prog ops Q (o :: rest) a w := by
  obtain ⟨i0, hi, hz0, hz1, hz2⟩ := info_parts hI
  refine wpList_append_own w hgd s x sl ho base ty i0 (.agg #[.int .i64 0, .string ⟨#[]⟩, .int .i64 0]) 3 32 hU hi hz0 hz1 hz2 rfl (by decide) _ ts.length _ hs hown ⟨g, 0, none⟩ 1 1 (flatT [t]) hx rfl (one_cells hg) (by intro u hu; simp only [flatT, List.mem_cons, List.not_mem_nil, or_false] at hu; rcases hu with rfl | rfl | rfl <;> rfl) (by unfold maxLen; omega) (by omega) hbase ?_
  intro v' w' hown' hgrow _
  refine h v' w' ?_ ((Below.refl _ _).grown hgrow hbase (fun j hj => (World.ownsRow.lt hown j hj).1))
  unfold OwnT
  rw [flatT_app, List.length_append]
  exact hown'
end Go.Proofs.YtlhmeipbcioncaaDoor
