/- Numbers and transactions in memory: what is read, what is owned; append. -/
import Derived.Test.YtigmpmichhghdaaHlp
namespace Go.Proofs.Ytigmpmichhghdaa
open Go.RowKit
set_option maxRecDepth 100000
theorem Try.info2 : (Try.prog.info? 2).map (fun i => (i.zero, i.size, i.bytes)) = some (some (.int .i64 0), 1, 8) := by kernel_rfl
theorem Try.info31 : (Try.prog.info? 31).map (fun i => (i.zero, i.size, i.bytes)) = some (some (.agg #[.int .i64 0, .int .i64 0, .slice none 0 0, .slice none 0 0]), 4, 64) := by kernel_rfl
theorem Try.info25 : (Try.prog.info? 25).map (fun i => (i.zero, i.size, i.bytes)) = some (some (.agg #[.int .i64 0, .int .i64 0, .slice none 0 0, .slice none 0 0]), 4, 64) := by kernel_rfl
theorem cell_eq {w w' : World} {b o : Nat} (h : w'.heap[b]? = w.heap[b]?) : w'.cell? ⟨b, o, none⟩ = w.cell? ⟨b, o, none⟩ := by
  unfold World.cell?
  rw [h]
/-- A slice of numbers that is only read. -/
structure IsI (w : World) (a : Option Addr) (len cap : Nat) (zs : List Int) : Prop where
  size : zs.length = len
  room : len ≤ cap
  most : cap ≤ maxLen
  nil0 : a = none → cap = 0
  wf : ∀ z ∈ zs, I64 z
  cells : 0 < len → ∃ b off, a = some ⟨b, off, none⟩ ∧ ∀ i, i < len → w.cell? ⟨b, off + i, none⟩ = some (.int .i64 (zs.getD i 0))
theorem IsI.below {w w' : World} {a : Option Addr} {len cap : Nat} {zs : List Int} (h : IsI w a len cap zs) (hb : Below w.heap.size w w') : IsI w' a len cap zs :=
  ⟨h.size, h.room, h.most, h.nil0, h.wf, fun h0 => by
    obtain ⟨b, off, ha, hc⟩ := h.cells h0
    exact ⟨b, off, ha, fun i hi => (hb.cell (lt_of_cell (hc i hi))).trans (hc i hi)⟩⟩
theorem IsI.at_ {w : World} {a : Option Addr} {len cap : Nat} {zs : List Int} (h : IsI w a len cap zs) (k : Nat) (hk : k < len) : ∃ b off x, a = some ⟨b, off, none⟩ ∧ b < w.heap.size ∧ w.cell? ⟨b, off + k, none⟩ = some (.int .i64 x) ∧ Hid (zs[k]? = some x) ∧ I64 x := by
  obtain ⟨b, off, ha, hc⟩ := h.cells (by omega)
  have hl : k < zs.length := by have := h.size; omega
  have e : zs[k]? = some (zs.getD k 0) := by simp [hl]
  exact ⟨b, off, _, ha, lt_of_cell (hc k hk), hc k hk, e, h.wf _ (List.mem_of_getElem? e)⟩
theorem isI_nil (w : World) : IsI w none 0 0 [] := ⟨rfl, Nat.le_refl _, by decide, fun _ => rfl, by simp, fun h => absurd h (by decide)⟩
theorem IsI.nil' {w : World} {a : Option Addr} {len cap : Nat} {zs : List Int} (h : IsI w a len cap zs) : a = none → len = 0 ∧ cap = 0 := fun e => by
  have h1 := h.nil0 e
  have h2 := h.room
  omega
theorem IsI.cellsAt {w : World} {a : Option Addr} {len cap : Nat} {zs : List Int} (h : IsI w a len cap zs) : ∀ ad, a = some ad → ∀ j u, (zs.map (Value.int .i64))[j]? = some u → w.cell? (ad.add j) = some u := by
  intro ad ha j u hj
  have hl : j < len := by have := (List.getElem?_eq_some_iff.1 hj).1; rw [List.length_map, h.size] at this; exact this
  obtain ⟨b, off, ha', hc⟩ := h.cells (by omega)
  rw [ha] at ha'
  cases ha'
  rw [addr_add, hc j hl]
  have hz : j < zs.length := by have := h.size; omega
  rw [List.getElem?_map, List.getElem?_eq_getElem hz] at hj
  simp only [Option.map_some, Option.some.injEq] at hj
  rw [← hj]
  simp [hz]
theorem ints_one (zs : List Int) : ∀ u ∈ zs.map (Value.int .i64), u.oneCell' = true := by
  intro u hu
  obtain ⟨z, _, rfl⟩ := List.mem_map.1 hu
  rfl
/-- A slice of numbers of the call's own. -/
def OwnI (w : World) (base : Nat) (v : Value) (xs : List Int) : Prop := w.ownsRow base 2 1 v xs.length (xs.map (Value.int .i64)) ∧ ∀ x ∈ xs, I64 x
theorem OwnI.shape {w : World} {base : Nat} {v : Value} {xs : List Int} (h : OwnI w base v xs) : ∃ a n c, v = .slice a n c ∧ n = xs.length := by
  rcases h.1.2 with ⟨rfl, h0⟩ | ⟨g, cap, cur, rfl, _⟩
  · exact ⟨none, 0, 0, rfl, h0.symm⟩
  · exact ⟨_, _, _, rfl, rfl⟩
theorem OwnI.below {w w' : World} {base : Nat} {v : Value} {xs : List Int} (h : OwnI w base v xs) (hb : Below w.heap.size w w') : OwnI w' base v xs := ⟨own_below h.1 hb, h.2⟩
theorem OwnI.mono {w : World} {b b' : Nat} {v : Value} {xs : List Int} (h : OwnI w b v xs) (hb : b' ≤ b) : OwnI w b' v xs := ⟨own_mono h.1 hb, h.2⟩
theorem ownI_nil (w : World) (base : Nat) : OwnI w base (.slice none 0 0) [] := ⟨World.ownsRow_nil _ _ _ _, by simp⟩
theorem OwnI.isI {w : World} {base n c : Nat} {a : Option Addr} {xs : List Int} (h : OwnI w base (.slice a n c) xs) : IsI w a n c xs := by
  obtain ⟨h1, h2⟩ := h
  rcases h1.2 with ⟨e, h0⟩ | ⟨g, cap, cur, e, hb, hg, hl, hm, hs, ht⟩
  · have : xs = [] := List.eq_nil_of_length_eq_zero h0
    subst this
    cases e
    exact isI_nil w
  · have hn : n = xs.length := by cases e; rfl
    have hc : c = cap := by cases e; rfl
    subst hn hc
    cases e
    refine ⟨rfl, hl, hm, by simp, h2, fun h0 => ⟨g, 0, rfl, fun i hi => ?_⟩⟩
    have := World.ownsRow.cells h1 (g := g) rfl i (.int .i64 (xs.getD i 0)) (by rw [List.getElem?_map, List.getElem?_eq_getElem hi]; simp [hi])
    rw [addr_add] at this
    exact this
/-- append of a slice of numbers. -/
theorem app_ints {ops : Array Oper} {rest : List Oper} {o : Oper} {a : Act} {Q : Exit → Act → World → Prop} (w : World) (hgd : o.guard = none) (s x : Operand)
    (ho : o.op = .call { callee := .builtin .append, args := #[s, x], argTypes := #[23, 23] })
    (base : Nat) (v : Value) (xs : List Int) (hs : a.eval s = v) (hown : OwnI w base v xs)
    (ab : Option Addr) (len cap : Nat) (ys : List Int) (hx : a.eval x = .slice ab len cap) (hB : IsI w ab len cap ys) (h47 : xs.length + len ≤ 17592186044415) (hbase : base ≤ w.heap.size)
    (h : ∀ a' n' c' w', OwnI w' base (.slice a' n' c') (xs ++ ys) → Below base w w' → w.grownBy w' v.ownBlock → wpList Try.prog ops Q rest (a.put o.dst (.slice a' n' c')) w') : wpList Try.prog ops Q (o :: rest) a w := by
  obtain ⟨i0, hi, hz0, hz1, hz2⟩ := info_parts Try.info2
  have hsz := hB.size
  cases ab with
  | none =>
    obtain ⟨rfl, rfl⟩ := hB.nil' rfl
    obtain rfl : ys = [] := List.eq_nil_of_length_eq_zero hB.size
    refine wpList_append_own_none hgd s x 23 ho base 2 i0 1 Try.underlying23 hi v xs.length _ hs hown.1 hx ?_
    obtain ⟨a', n', c', rfl, _⟩ := hown.shape
    exact h a' n' c' w (by rw [List.append_nil]; exact hown) (Below.refl _ _) ⟨rfl, rfl, rfl, Nat.le_refl _, fun _ _ _ => rfl⟩
  | some ad =>
    refine wpList_append_own w hgd s x 23 ho base 2 i0 (.int .i64 0) 1 8 Try.underlying23 hi hz0 hz1 hz2 rfl (by decide) _ xs.length _ hs hown.1 ad len cap (ys.map (Value.int .i64)) hx (by rw [List.length_map, hsz, Nat.mul_one]) (hB.cellsAt ad rfl) (ints_one ys) (by unfold maxLen; omega) (by omega) hbase ?_
    intro v' w' hown' hgrow _
    have O : OwnI w' base v' (xs ++ ys) := ⟨by rw [List.map_append, List.length_append, hsz]; exact hown', fun z hz => by
      rcases List.mem_append.1 hz with hz | hz
      · exact hown.2 z hz
      · exact hB.wf z hz⟩
    obtain ⟨a', n', c', hv, _⟩ := O.shape
    subst hv
    exact h a' n' c' w' O ((Below.refl _ _).grown hgrow hbase (fun j hj => (hown.1.lt j hj).1)) hgrow
/-- A transaction as it lies in memory. -/
structure Tm where
  base : Int
  com : Int
  ra : Option Addr
  rn : Nat
  rc : Nat
  wa : Option Addr
  wn : Nat
  wc : Nat
  rs : List Int
  ws : List Int
def Tm.cells (m : Tm) : List Value := [.int .i64 m.base, .int .i64 m.com, .slice m.ra m.rn m.rc, .slice m.wa m.wn m.wc]
/-- A transaction as it is meant. -/
structure Tx where
  base : Int
  com : Int
  rs : List Int
  ws : List Int
def Tm.d (m : Tm) : Tx := ⟨m.base, m.com, m.rs, m.ws⟩
/-- A slice of numbers that lies below a number, or in a block of numbers. -/
def StI (N : Nat) (w : World) (a : Option Addr) (n c : Nat) (xs : List Int) : Prop := IsI w a n c xs ∧ ∀ b off, a = some ⟨b, off, none⟩ → 0 < n → (b < N ∨ ∃ cur, w.heap[b]? = some (.cells cur 2 (0, 0)))
/-- What is kept where numbers are. -/
structure KeepN (N : Nat) (w w' : World) : Prop where
  low : ∀ b, b < N → b < w.heap.size → w'.heap[b]? = w.heap[b]?
  num : ∀ (b : Nat) (cur : Array Value), w.heap[b]? = some (Obj.cells cur 2 (0, 0)) → w'.heap[b]? = w.heap[b]?
theorem StI.kept {N : Nat} {w w' : World} {a : Option Addr} {n c : Nat} {xs : List Int} (h : StI N w a n c xs) (k : KeepN N w w') : StI N w' a n c xs := by
  obtain ⟨h1, h2⟩ := h
  have key : ∀ b off, a = some ⟨b, off, none⟩ → 0 < n → (∀ i, i < n → w.cell? ⟨b, off + i, none⟩ = some (.int .i64 (xs.getD i 0))) → w'.heap[b]? = w.heap[b]? := fun b off ha h0 hc => by
    rcases h2 b off ha h0 with hb | ⟨cur, hb⟩
    · exact k.low b hb (lt_of_cell (hc 0 h0))
    · exact k.num b cur hb
  refine ⟨⟨h1.size, h1.room, h1.most, h1.nil0, h1.wf, fun h0 => ?_⟩, fun b off ha h0 => ?_⟩
  · obtain ⟨b, off, ha, hc⟩ := h1.cells h0
    exact ⟨b, off, ha, fun i hi => (cell_eq (key b off ha h0 hc)).trans (hc i hi)⟩
  · rcases h2 b off ha h0 with hb | ⟨cur, hb⟩
    · exact .inl hb
    · exact .inr ⟨cur, (k.num b cur hb).trans hb⟩
theorem IsI.st {w : World} {a : Option Addr} {n c : Nat} {xs : List Int} (h : IsI w a n c xs) : StI w.heap.size w a n c xs := ⟨h, fun b off ha h0 => by
  obtain ⟨b', off', ha', hc⟩ := h.cells h0
  rw [ha] at ha'
  cases ha'
  exact .inl (lt_of_cell (hc 0 h0))⟩
theorem OwnI.st {w : World} {base n c : Nat} {a : Option Addr} {xs : List Int} (h : OwnI w base (.slice a n c) xs) : StI 0 w a n c xs := ⟨h.isI, fun b off ha h0 => by
  subst ha
  obtain ⟨_, cur, hc⟩ := own_block h.1 (g := b) rfl
  exact .inr ⟨cur, hc⟩⟩
theorem StI.mono {N M : Nat} {w : World} {a : Option Addr} {n c : Nat} {xs : List Int} (h : StI N w a n c xs) (hm : N ≤ M) : StI M w a n c xs := ⟨h.1, fun b off ha h0 => (h.2 b off ha h0).imp (fun k => Nat.lt_of_lt_of_le k hm) id⟩
/-- What is known of a transaction that is read. -/
structure St (N : Nat) (w : World) (m : Tm) : Prop where
  b64 : I64 m.base
  c64 : I64 m.com
  r : StI N w m.ra m.rn m.rc m.rs
  w : StI N w m.wa m.wn m.wc m.ws
def Tm.In (w : World) (m : Tm) : Prop := St w.heap.size w m
theorem St.kept {N : Nat} {w w' : World} {m : Tm} (h : St N w m) (k : KeepN N w w') : St N w' m := ⟨h.b64, h.c64, h.r.kept k, h.w.kept k⟩
theorem St.mono {N M : Nat} {w : World} {m : Tm} (h : St N w m) (hm : N ≤ M) : St M w m := ⟨h.b64, h.c64, h.r.mono hm, h.w.mono hm⟩
theorem St.inn {N : Nat} {w : World} {m : Tm} (h : St N w m) : m.In w := ⟨h.b64, h.c64, h.r.1.st, h.w.1.st⟩
theorem KeepN.of_below {N : Nat} {w w' : World} (h : Below w.heap.size w w') : KeepN N w w' := ⟨fun b _ hb => h.block b hb, fun b _ hc => h.block b (lt_of_block hc)⟩
theorem St.below {N : Nat} {w w' : World} {m : Tm} (h : St N w m) (hb : Below w.heap.size w w') : St N w' m := h.kept (KeepN.of_below hb)
theorem Tm.In.below {w w' : World} {m : Tm} (h : m.In w) (hb : Below w.heap.size w w') : m.In w' := (St.below h hb).inn
def flatT (ms : List Tm) : List Value := ms.flatMap Tm.cells
theorem flatT_len : ∀ ms : List Tm, (flatT ms).length = ms.length * 4
  | [] => rfl
  | s :: t => by
    have h := flatT_len t
    have e : flatT (s :: t) = s.cells ++ flatT t := rfl
    rw [e, List.length_append, h, List.length_cons]
    simp [Tm.cells]
    omega
theorem flatT_app (ss tt : List Tm) : flatT (ss ++ tt) = flatT ss ++ flatT tt := by unfold flatT; rw [List.flatMap_append]
theorem flatT_at : ∀ (ss : List Tm) (i : Nat) (s : Tm), ss[i]? = some s → ∀ j, j < 4 → (flatT ss)[i * 4 + j]? = s.cells[j]?
  | [], _, _, h, _, _ => by cases h
  | t :: r, 0, s, h, j, hj => by
    cases h
    have e : flatT (t :: r) = t.cells ++ flatT r := rfl
    rw [e, Nat.zero_mul, Nat.zero_add, List.getElem?_append_left (by simp [Tm.cells]; omega)]
  | t :: r, i + 1, s, h, j, hj => by
    have e : flatT (t :: r) = t.cells ++ flatT r := rfl
    have h' : r[i]? = some s := h
    rw [e, List.getElem?_append_right (by simp [Tm.cells]; omega), show (i + 1) * 4 + j - t.cells.length = i * 4 + j by simp [Tm.cells]; omega]
    exact flatT_at r i s h' j hj
theorem cells_one (s : Tm) : ∀ u ∈ s.cells, u.oneCell' = true := by
  intro u hu
  simp only [Tm.cells, List.mem_cons, List.not_mem_nil, or_false] at hu
  rcases hu with rfl | rfl | rfl | rfl <;> rfl
theorem flatT_one (ss : List Tm) : ∀ u ∈ flatT ss, u.oneCell' = true := by
  intro u hu
  unfold flatT at hu
  obtain ⟨s, _, hs⟩ := List.mem_flatMap.1 hu
  exact cells_one s u hs
/-- The cells of a row of transactions. -/
def RowT (w : World) (b off : Nat) (ms : List Tm) : Prop := ∀ i m, ms[i]? = some m → w.cell? ⟨b, off + i * 4, none⟩ = some (.int .i64 m.base) ∧ w.cell? ⟨b, off + i * 4 + 1, none⟩ = some (.int .i64 m.com) ∧ w.cell? ⟨b, off + i * 4 + 2, none⟩ = some (.slice m.ra m.rn m.rc) ∧ w.cell? ⟨b, off + i * 4 + 3, none⟩ = some (.slice m.wa m.wn m.wc)
/-- A slice of transactions that is only read. -/
structure IsTs (w : World) (a : Option Addr) (n cap : Nat) (ms : List Tm) : Prop where
  size : ms.length = n
  room : n ≤ cap
  most : cap ≤ maxLen
  nil0 : a = none → cap = 0
  cells : 0 < n → ∃ b off, a = some ⟨b, off, none⟩ ∧ RowT w b off ms
  each : ∀ m ∈ ms, m.In w
theorem RowT.below {w w' : World} {b off : Nat} {ms : List Tm} (h : RowT w b off ms) (hb : Below w.heap.size w w') : RowT w' b off ms := fun i m hm => by
  obtain ⟨c0, c1, c2, c3⟩ := h i m hm
  have hl := lt_of_cell c0
  exact ⟨(hb.cell hl).trans c0, (hb.cell hl).trans c1, (hb.cell hl).trans c2, (hb.cell hl).trans c3⟩
theorem IsTs.below {w w' : World} {a : Option Addr} {n cap : Nat} {ms : List Tm} (h : IsTs w a n cap ms) (hb : Below w.heap.size w w') : IsTs w' a n cap ms :=
  ⟨h.size, h.room, h.most, h.nil0, fun h0 => by
    obtain ⟨b, off, ha, hr⟩ := h.cells h0
    exact ⟨b, off, ha, hr.below hb⟩, fun m hm => (h.each m hm).below hb⟩
theorem IsTs.at_ {w : World} {a : Option Addr} {n cap : Nat} {ms : List Tm} (h : IsTs w a n cap ms) (k : Nat) (hk : k < n) : ∃ b off m, a = some ⟨b, off, none⟩ ∧ b < w.heap.size ∧ w.cell? ⟨b, off + k * 4, none⟩ = some (.int .i64 m.base) ∧ w.cell? ⟨b, off + k * 4 + 1, none⟩ = some (.int .i64 m.com) ∧ w.cell? ⟨b, off + k * 4 + 2, none⟩ = some (.slice m.ra m.rn m.rc) ∧ w.cell? ⟨b, off + k * 4 + 3, none⟩ = some (.slice m.wa m.wn m.wc) ∧ Hid (ms[k]? = some m) ∧ m.In w := by
  obtain ⟨b, off, ha, hr⟩ := h.cells (by omega)
  have hl : k < ms.length := by have := h.size; omega
  have e : ms[k]? = some ms[k] := List.getElem?_eq_getElem hl
  obtain ⟨c0, c1, c2, c3⟩ := hr k _ e
  exact ⟨b, off, ms[k], ha, lt_of_cell c0, c0, c1, c2, c3, e, h.each _ (List.mem_of_getElem? e)⟩
/-- A slice of transactions of the call's own. -/
def OwnT (N : Nat) (w : World) (base t : Nat) (v : Value) (ms : List Tm) : Prop := w.ownsRow base t 4 v ms.length (flatT ms) ∧ ∀ m ∈ ms, St N w m
theorem ownT_nil (N : Nat) (w : World) (base t : Nat) : OwnT N w base t (.slice none 0 0) [] := ⟨World.ownsRow_nil _ _ _ _, by simp⟩
theorem OwnT.shape {N : Nat} {w : World} {base t : Nat} {v : Value} {ms : List Tm} (h : OwnT N w base t v ms) : ∃ a n c, v = .slice a n c ∧ n = ms.length := by
  rcases h.1.2 with ⟨rfl, h0⟩ | ⟨g, cap, cur, rfl, _⟩
  · exact ⟨none, 0, 0, rfl, h0.symm⟩
  · exact ⟨_, _, _, rfl, rfl⟩
theorem OwnT.below {N : Nat} {w w' : World} {base t : Nat} {v : Value} {ms : List Tm} (h : OwnT N w base t v ms) (hb : Below w.heap.size w w') : OwnT N w' base t v ms := ⟨own_below h.1 hb, fun m hm => (h.2 m hm).below hb⟩
theorem OwnT.lower {N : Nat} {w : World} {b b' t : Nat} {v : Value} {ms : List Tm} (h : OwnT N w b t v ms) (hb : b' ≤ b) : OwnT N w b' t v ms := ⟨own_mono h.1 hb, h.2⟩
theorem rowT_own {w : World} {base t n c g : Nat} {ms : List Tm} (h : w.ownsRow base t 4 (.slice (some ⟨g, 0, none⟩) n c) ms.length (flatT ms)) : RowT w g 0 ms := fun i s hs => by
  have key : ∀ j v, s.cells[j]? = some v → w.cell? ⟨g, 0 + i * 4 + j, none⟩ = some v := fun j v hj => by
    have h5 : j < 4 := by have := (List.getElem?_eq_some_iff.1 hj).1; simpa [Tm.cells] using this
    have hc := World.ownsRow.cells h (g := g) rfl (i * 4 + j) v (by rw [flatT_at ms i s hs j h5]; exact hj)
    rw [addr_add] at hc
    rw [Nat.add_assoc]
    exact hc
  exact ⟨key 0 _ rfl, key 1 _ rfl, key 2 _ rfl, key 3 _ rfl⟩
theorem OwnT.isTs {N : Nat} {w : World} {base t n c : Nat} {a : Option Addr} {ms : List Tm} (h : OwnT N w base t (.slice a n c) ms) : IsTs w a n c ms := by
  obtain ⟨h1, h3⟩ := h
  rcases h1.2 with ⟨e, h0⟩ | ⟨g, cap, cur, e, hb, hg, hl, hm, hrest⟩
  · have : ms = [] := List.eq_nil_of_length_eq_zero h0
    subst this
    cases e
    exact ⟨rfl, Nat.le_refl _, by decide, fun _ => rfl, fun h => absurd h (by simp), by simp⟩
  · cases e
    exact ⟨rfl, hl, hm, by simp, fun _ => ⟨g, 0, rfl, rowT_own h1⟩, fun m hm => (h3 m hm).inn⟩
theorem tcell_at {m : Tm} {w : World} {b : Nat} (h : ∀ j v, m.cells[j]? = some v → w.cell? ⟨b, j, none⟩ = some v) : ∀ j u, (flatT [m])[j]? = some u → w.cell? ((⟨b, 0, none⟩ : Addr).add j) = some u := by
  intro j u hj
  have e : flatT [m] = m.cells := by simp [flatT]
  rw [e] at hj
  rw [addr_add, Nat.zero_add]
  exact h j u hj
theorem lit_cells {w : World} {m : Tm} {t : Nat} : ∀ (j : Nat) (v : Value), m.cells[j]? = some v → (w.alloc (.cells #[.int .i64 m.base, .int .i64 m.com, .slice m.ra m.rn m.rc, .slice m.wa m.wn m.wc] t)).cell? ⟨w.heap.size, j, none⟩ = some v := by
  intro j v hj
  match j with
  | 0 => cases hj; simp
  | 1 => cases hj; simp
  | 2 => cases hj; simp
  | 3 => cases hj; simp
  | j + 4 => cases hj
theorem keepN_grown {N : Nat} {w w' : World} {base t : Nat} {v : Value} {ms : List Tm} (h : OwnT N w base t v ms) (ht : t ≠ 2) (hN : N ≤ base) (hg : w.grownBy w' v.ownBlock) : KeepN N w w' := by
  refine ⟨fun b hb hl => hg.block b hl (fun e => ?_), fun b cur hc => hg.block b (lt_of_block hc) (fun e => own_ne h.1 hc (fun k => ht k.symm) e.symm)⟩
  have := (own_block h.1 e.symm).1
  omega
/-- What an append of one leaves. -/
theorem OwnT.push {N : Nat} {w w' : World} {base t : Nat} {v v' : Value} {ms : List Tm} {m : Tm} (h : OwnT N w base t v ms) (hm : St N w m) (ht : t ≠ 2) (hN : N ≤ base) (hg : w.grownBy w' v.ownBlock) (ho : w'.ownsRow base t 4 v' (ms.length + 1) (flatT ms ++ flatT [m])) : OwnT N w' base t v' (ms ++ [m]) := by
  have k := keepN_grown h ht hN hg
  refine ⟨by rw [flatT_app, List.length_append]; exact ho, fun x hx => ?_⟩
  rcases List.mem_append.1 hx with hx | hx
  · exact (h.2 x hx).kept k
  · rw [List.mem_singleton] at hx
    subst hx
    exact hm.kept k
/-- append of one transaction. -/
theorem app_txn {t e : Nat} (htu : Try.prog.underlying t = some (.slice e)) (hinfo : (Try.prog.info? e).map (fun i => (i.zero, i.size, i.bytes)) = some (some (.agg #[.int .i64 0, .int .i64 0, .slice none 0 0, .slice none 0 0]), 4, 64)) (he : e ≠ 2)
    {ops : Array Oper} {rest : List Oper} {o : Oper} {a : Act} {Q : Exit → Act → World → Prop} {N : Nat} (w : World) (hgd : o.guard = none) (s x : Operand)
    (ho : o.op = .call { callee := .builtin .append, args := #[s, x], argTypes := #[t, t] })
    (base : Nat) (v : Value) (ms : List Tm) (hs : a.eval s = v) (hown : OwnT N w base e v ms)
    (b : Nat) (m : Tm) (hx : a.eval x = .slice (some ⟨b, 0, none⟩) 1 1) (hc : ∀ j v, m.cells[j]? = some v → w.cell? ⟨b, j, none⟩ = some v) (hm : St N w m)
    (h47 : ms.length ≤ 1954687338265) (hbase : base ≤ w.heap.size) (hN : N ≤ base)
    (h : ∀ a' n' c' w', OwnT N w' base e (.slice a' n' c') (ms ++ [m]) → Below base w w' → w.grownBy w' v.ownBlock → wpList Try.prog ops Q rest (a.put o.dst (.slice a' n' c')) w') : wpList Try.prog ops Q (o :: rest) a w := by
  obtain ⟨i0, hi, hz0, hz1, hz2⟩ := info_parts hinfo
  refine wpList_append_own w hgd s x t ho base e i0 (.agg #[.int .i64 0, .int .i64 0, .slice none 0 0, .slice none 0 0]) 4 64 htu hi hz0 hz1 hz2 rfl (by decide) _ ms.length _ hs hown.1 ⟨b, 0, none⟩ 1 1 (flatT [m]) hx rfl (tcell_at hc) (flatT_one _) (by unfold maxLen; omega) (by omega) hbase ?_
  intro v' w' hown' hgrow _
  have O := hown.push hm he hN hgrow hown'
  obtain ⟨a', n', c', hv, _⟩ := O.shape
  subst hv
  exact h a' n' c' w' O ((Below.refl _ _).grown hgrow hbase (fun j hj => (hown.1.lt j hj).1)) hgrow
/-- A transaction in a block of its own. -/
def txB (m : Tm) (t : Nat) : Obj := .cells #[.int .i64 m.base, .int .i64 m.com, .slice m.ra m.rn m.rc, .slice m.wa m.wn m.wc] t (0, 0)
theorem tx_cells {w : World} {b t : Nat} {m : Tm} (h : w.heap[b]? = some (txB m t)) : w.cell? ⟨b, 0, none⟩ = some (.int .i64 m.base) ∧ w.cell? ⟨b, 1, none⟩ = some (.int .i64 m.com) ∧ w.cell? ⟨b, 2, none⟩ = some (.slice m.ra m.rn m.rc) ∧ w.cell? ⟨b, 3, none⟩ = some (.slice m.wa m.wn m.wc) ∧ ∀ i, w.frozen? ⟨b, i, none⟩ = false := by
  unfold txB at h
  refine ⟨?_, ?_, ?_, ?_, fun i => ?_⟩
  · rw [cell_of_row w b 0 _ _ _ h]; rfl
  · rw [cell_of_row w b 1 _ _ _ h]; rfl
  · rw [cell_of_row w b 2 _ _ _ h]; rfl
  · rw [cell_of_row w b 3 _ _ _ h]; rfl
  · unfold World.frozen?
    rw [h]
    rfl
end Go.Proofs.Ytigmpmichhghdaa
