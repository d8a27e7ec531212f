/- Objects as values: what is read, what is owned; copies. -/
import Derived.Test.YtajdelinfkodbaaRows
import Derived.WalkKit
import Derived.WalkSpells
import Derived.WalkLawsBesides
import Derived.Below
import Derived.Laws.AppendOwnNone
import Derived.Lib.AppendZeros
import Derived.Lib.LazyBuf
import Derived.Deep.CutBlock
import Derived.Orders
import Derived.Calls
import Derived.BigQuiet
import Derived.Deep.QuietTactic
import Derived.ChangeKeysEq
import Derived.Deep.LoopGhost
import Derived.WalkMore
import Derived.Lib.SmallJoins
import Derived.Deep.Slices
namespace Go.Proofs.Ytajdelinfkodbaa
open Go.RowKit 
set_option maxRecDepth 100000
theorem box_below {w : World} {o : Obj} : Below w.heap.size w (w.alloc o) := (Below.refl _ _).alloc (Nat.le_refl _) _
set_option maxRecDepth 100000

/-- What is known of a slice of values that is only read: kinds and numbers. -/
structure IsV (w : World) (a : Option Addr) (len cap : Nat) (vs : List (Int × Int)) : Prop where
  size : vs.length = len
  room : len ≤ cap
  most : cap ≤ maxLen
  nil0 : a = none → cap = 0
  wf : ∀ v ∈ vs, (-9223372036854775808 ≤ v.1 ∧ v.1 ≤ 9223372036854775807) ∧ (-9223372036854775808 ≤ v.2 ∧ v.2 ≤ 9223372036854775807)
  cells : 0 < len → ∃ b off, a = some ⟨b, off, none⟩ ∧ ∀ i, i < len → w.cell? ⟨b, off + i * 2, none⟩ = some (.int .i64 (vs.getD i (0, 0)).1) ∧ w.cell? ⟨b, off + i * 2 + 1, none⟩ = some (.int .i64 (vs.getD i (0, 0)).2)
theorem lt_of_cell {w : World} {b o : Nat} {v : Value} (h : w.cell? ⟨b, o, none⟩ = some v) : b < w.heap.size := block_lt_of_cell h
theorem IsV.below {w w' : World} {a : Option Addr} {len cap : Nat} {vs : List (Int × Int)} (h : IsV w a len cap vs) (hb : Below w.heap.size w w') : IsV w' a len cap vs :=
  ⟨h.size, h.room, h.most, h.nil0, h.wf, fun h0 => by
    obtain ⟨b, off, ha, hc⟩ := h.cells h0
    exact ⟨b, off, ha, fun i hi => ⟨(hb.cell (lt_of_cell (hc i hi).1)).trans (hc i hi).1, (hb.cell (lt_of_cell (hc i hi).2)).trans (hc i hi).2⟩⟩⟩
theorem take_at {α : Type} {l : List α} {x : α} {k : Nat} (h : l[k]? = some x) : l.take (k + 1) = l.take k ++ [x] := by
  obtain ⟨hl, e⟩ := List.getElem?_eq_some_iff.1 h
  rw [List.take_succ_eq_append_getElem hl, e]
theorem below_size {N : Nat} {w w1 w2 : World} (h : Below N w w1) (hN : N ≤ w1.heap.size) (k : Below w1.heap.size w1 w2) : Below N w w2 := h.trans (k.mono hN)
theorem IsV.at_ {w : World} {a : Option Addr} {len cap : Nat} {vs : List (Int × Int)} (h : IsV w a len cap vs) (k : Nat) (hk : k < len) : ∃ b off x y, a = some ⟨b, off, none⟩ ∧ b < w.heap.size ∧ w.cell? ⟨b, off + k * 2, none⟩ = some (.int .i64 x) ∧ w.cell? ⟨b, off + k * 2 + 1, none⟩ = some (.int .i64 y) ∧ Hid (vs[k]? = some (x, y)) ∧ (-9223372036854775808 ≤ x ∧ x ≤ 9223372036854775807) ∧ (-9223372036854775808 ≤ y ∧ y ≤ 9223372036854775807) := by
  obtain ⟨b, off, ha, hc⟩ := h.cells (by omega)
  have hl : k < vs.length := by have := h.size; omega
  have e : vs[k]? = some (vs.getD k (0, 0)) := by simp [hl]
  have hw := h.wf _ (List.mem_of_getElem? e)
  exact ⟨b, off, _, _, ha, lt_of_cell (hc k hk).1, (hc k hk).1, (hc k hk).2, e, hw⟩
set_option maxRecDepth 100000
theorem take_eq {α : Type} {l m : List α} {x : α} {k : Nat} (h : l[k]? = some x) (h' : m[k]? = some x) (e : l.take k = m.take k) : l.take (k + 1) = m.take (k + 1) := by
  rw [take_at h, take_at h', e]
theorem ne_at {l m : List (Int × Int)} {x y : Int × Int} {k : Nat} (h : l[k]? = some x) (h' : m[k]? = some y) (e : x ≠ y) : l ≠ m := by
  rintro rfl
  rw [h] at h'
  exact e (Option.some.inj h')
/-- What is known of a slice of bytes that is only read. -/
structure IsB (w : World) (a : Option Addr) (len cap : Nat) (xs : List Int) : Prop where
  size : xs.length = len
  room : len ≤ cap
  most : cap ≤ maxLen
  nil0 : a = none → cap = 0
  byte : ∀ x ∈ xs, 0 ≤ x ∧ x < 256
  cells : 0 < len → ∃ b off, a = some ⟨b, off, none⟩ ∧ ∀ i, i < len → w.cell? ⟨b, off + i, none⟩ = some (.int .u8 (xs.getD i 0))
set_option maxRecDepth 100000

theorem Try.info5 : (Try.prog.info? 5).map (fun i => (i.zero, i.size, i.bytes)) = some (some (.int .u8 0), 1, 1) := by kernel_rfl
set_option maxRecDepth 100000

theorem IsB.cellsAt {w : World} {a : Option Addr} {len cap : Nat} {xs : List Int} (h : IsB w a len cap xs) :
    ∀ ad, a = some ad → ∀ j u, (xs.map (Value.int .u8))[j]? = some u → w.cell? (ad.add j) = some u := by
  intro ad ha j u hj
  have hjl : j < xs.length := by
    have := (List.getElem?_eq_some_iff.1 hj).1
    simpa using this
  obtain ⟨b, off, hb, hc⟩ := h.cells (by have := h.size; omega)
  rw [ha] at hb
  obtain rfl := Option.some.inj hb
  have e := hc j (by have := h.size; omega)
  rw [show (⟨b, off, none⟩ : Addr).add j = ⟨b, off + j, none⟩ by simp [Addr.add], e]
  rw [List.getElem?_map, List.getElem?_eq_getElem hjl] at hj
  simp at hj
  rw [← hj]
  simp [hjl]
theorem IsB.one {w : World} {a : Option Addr} {len cap : Nat} {xs : List Int} (_ : IsB w a len cap xs) : ∀ u ∈ xs.map (Value.int .u8), u.oneCell' = true := by
  intro u hu
  obtain ⟨x, _, rfl⟩ := List.mem_map.1 hu
  rfl
theorem IsB.nil' {w : World} {a : Option Addr} {len cap : Nat} {xs : List Int} (h : IsB w a len cap xs) : a = none → len = 0 ∧ cap = 0 := by
  intro ha
  have := h.nil0 ha
  have := h.room
  omega
theorem IsB.lenMap {w : World} {a : Option Addr} {len cap : Nat} {xs : List Int} (h : IsB w a len cap xs) : (xs.map (Value.int .u8)).length = len * 1 := by
  rw [List.length_map, h.size, Nat.mul_one]
/-- Old memory that is as it was. -/
theorem IsB.below {w w' : World} {a : Option Addr} {len cap : Nat} {xs : List Int} (h : IsB w a len cap xs) (hb : Below w.heap.size w w') : IsB w' a len cap xs :=
  ⟨h.size, h.room, h.most, h.nil0, h.byte, fun h0 => by
    obtain ⟨b, off, ha, hc⟩ := h.cells h0
    exact ⟨b, off, ha, fun i hi => (hb.cell (block_lt_of_cell (hc i hi))).trans (hc i hi)⟩⟩
theorem IsB.block {w : World} {len cap b off : Nat} {sp : Option Nat} {xs : List Int} (h : IsB w (some ⟨b, off, sp⟩) len cap xs) (h0 : 0 < len) : b < w.heap.size := by
  obtain ⟨b', off', ha, hc⟩ := h.cells h0
  have := block_lt_of_cell (hc 0 h0)
  simp at ha
  simp at this
  omega
/-- What the call owns is such a slice. -/
theorem isB_own {w : World} {base n cap : Nat} {g : Nat} {xs : List Int} (h : w.ownsRow base 5 1 (.slice (some ⟨g, 0, none⟩) n cap) n (xs.map (Value.int .u8))) (hb : ∀ x ∈ xs, 0 ≤ x ∧ x < 256) : IsB w (some ⟨g, 0, none⟩) n cap xs := by
  have hl : xs.length = n := by have := h.1; simpa using this
  have h2 := h.2
  refine ⟨hl, ?_, ?_, by simp, hb, fun _ => ⟨g, 0, rfl, fun i hi => ?_⟩⟩
  · rcases h2 with ⟨h', _⟩ | ⟨g', cap', cur, h', _, _, hnc, _⟩
    · simp at h'
    · simp at h'; omega
  · rcases h2 with ⟨h', _⟩ | ⟨g', cap', cur, h', _, _, _, hcm, _⟩
    · simp at h'
    · simp at h'; omega
  · have := h.cellAt i (by omega)
    rw [Nat.zero_add, this, List.getElem?_map, List.getElem?_eq_getElem (by omega)]
    simp [show i < xs.length by omega]
/-- string(b). -/
theorem IsB.str {w : World} {a : Option Addr} {len cap : Nat} {xs : List Int} (h : IsB w a len cap xs) : (convert 47 9 (.slice a len cap)).run Try.prog w = .ok (.string (strOfNums xs)) w := by
  cases a with
  | none =>
    obtain ⟨rfl, rfl⟩ := h.nil' rfl
    obtain rfl : xs = [] := List.eq_nil_of_length_eq_zero h.size
    exact run_convert_bytes_nil w 47 5 Try.underlying47 Try.underlying5 0 0 9 Try.underlying9
  | some ad =>
    by_cases h0 : 0 < len
    · obtain ⟨b, off, hb, hc⟩ := h.cells h0
      obtain rfl := Option.some.inj hb
      exact run_convert_bytes_arg w 47 5 Try.underlying47 Try.underlying5 b off len cap xs h.size hc 9 Try.underlying9
    · obtain rfl : len = 0 := by omega
      obtain rfl : xs = [] := List.eq_nil_of_length_eq_zero h.size
      rw [run_convert_bytes_string w 47 9 5 _ 0 cap Try.underlying47 Try.underlying5 Try.underlying9]
      simp [Conv.bytesToString]
      have hl : (loadCells ad 0).run Try.prog w = .ok #[] w := run_loadCells_list (P := Try.prog) w ad [] (fun j v hj => by simp at hj)
      rw [hl]
      simp [strOfNums]
      rfl
theorem growBy_le (need : Nat) : ∀ (f c : Nat), c ≤ need + (need + 768) / 4 → Builtin.growBy need f c ≤ need + (need + 768) / 4
  | 0, c, h => by unfold Builtin.growBy; exact h
  | f + 1, c, h => by
    unfold Builtin.growBy
    split
    · exact h
    · exact growBy_le need f (c + (c + 768) / 4) (by omega)
theorem nextcap_le (need old : Nat) (h : old < need) : Builtin.nextslicecap need old ≤ need + (need + 768) / 4 + 512 := by
  unfold Builtin.nextslicecap
  split
  · omega
  · split
    · omega
    · have := growBy_le need 4 old (by omega)
      omega
theorem app_some {ops : Array Oper} {rest : List Oper} {o : Oper} {a : Act} {Q : Exit → Act → World → Prop} (w : World) (hgd : o.guard = none) (s x : Operand)
    (ho : o.op = .call { callee := .builtin .append, args := #[s, x], argTypes := #[47, 47] })
    (base g n cap0 : Nat) (xs : List Int) (hs : a.eval s = .slice (some ⟨g, 0, none⟩) n cap0) (hown : w.ownsRow base 5 1 (.slice (some ⟨g, 0, none⟩) n cap0) n (xs.map (Value.int .u8)))
    (ad : Addr) (len cap : Nat) (ys : List Int) (hx : a.eval x = .slice (some ad) len cap) (hB : IsB w (some ad) len cap ys) (h47 : n + len ≤ 140737488500000) (hbase : base ≤ w.heap.size)
    (h : ∀ v' w', w'.ownsRow base 5 1 v' (n + len) ((xs ++ ys).map (Value.int .u8)) → Below base w w' → wpList Try.prog ops Q rest (a.put o.dst v') w') : wpList Try.prog ops Q (o :: rest) a w := by
  obtain ⟨i0, hi, hz0, hz1, hz2⟩ := info_parts Try.info5
  have hbg : base ≤ g := (hown.lt g rfl).1
  by_cases hroom : n + len ≤ cap0
  · refine wpList_append_fits w hgd s x 47 ho base 5 i0 1 Try.underlying47 hi hz1 g n cap0 _ hs hown ad len cap (ys.map (Value.int .u8)) hx hB.lenMap (hB.cellsAt ad rfl) hB.one hroom ?_
    intro w' hown' hgrow
    rw [← List.map_append] at hown'
    exact h _ w' hown' ((Below.refl _ _).grown hgrow hbase (by simpa using hbg))
  · have hr := run_append_grow (P := Try.prog) w 47 o.type 5 i0 (.int .u8 0) Try.underlying47 hi hz0 ⟨g, 0, none⟩ n cap0 (xs.map (Value.int .u8)) (by rw [hz1]; exact hown.1) (hown.cells (g := g) rfl) ad len cap (ys.map (Value.int .u8)) (by rw [hz1]; exact hB.lenMap) (hB.cellsAt ad rfl) (by omega) (by omega)
      (by have := nextcap_le (n + len) cap0 (by omega); rw [hz2]; omega)
    refine Lib.wpList_append_run w hgd s x 47 47 ho _ _ hs hx _ _ hr ?_
    have hge := grownCap_ge w (n + len) cap0 5
    have hcm : grownCap w (n + len) cap0 5 ≤ maxLen := grownCap_le_maxLen w (n + len) cap0 5 (by unfold maxLen; omega)
    have hl1 : (xs.map (Value.int .u8)).length = n := by simpa using hown.1
    have hl2 : (ys.map (Value.int .u8)).length = len := by simpa using hB.lenMap
    refine h _ _ ⟨?_, .inr ⟨w.heap.size, _, _, rfl, hbase, heap_alloc_new w.drew _, hge, hcm, ?_, ?_⟩⟩ ((Below.refl _ _).drew.alloc hbase _)
    · rw [List.map_append, List.length_append, hl1, hl2, Nat.mul_one]
    · simp only [Array.size_append, List.size_toArray, size_zeroCells, hl1, hl2]
      show n + len + (grownCap w (n + len) cap0 5 - (n + len)) * 1 = _
      omega
    · rw [Array.toList_append, Array.toList_append, List.map_append]
      simp only [Nat.mul_one]
      exact List.take_left' (by rw [List.length_append]; omega)
theorem app_bytes {ops : Array Oper} {rest : List Oper} {o : Oper} {a : Act} {Q : Exit → Act → World → Prop} (w : World) (hgd : o.guard = none) (s x : Operand)
    (ho : o.op = .call { callee := .builtin .append, args := #[s, x], argTypes := #[47, 47] })
    (base : Nat) (v : Value) (n : Nat) (xs : List Int) (hs : a.eval s = v) (hown : w.ownsRow base 5 1 v n (xs.map (Value.int .u8)))
    (ab : Option Addr) (len cap : Nat) (ys : List Int) (hx : a.eval x = .slice ab len cap) (hB : IsB w ab len cap ys) (h47 : n + len ≤ 140737488500000) (h47' : len ≤ 140737488355328) (hbase : base ≤ w.heap.size)
    (h : ∀ v' w', w'.ownsRow base 5 1 v' (n + len) ((xs ++ ys).map (Value.int .u8)) → Below base w w' → wpList Try.prog ops Q rest (a.put o.dst v') w') : wpList Try.prog ops Q (o :: rest) a w := by
  obtain ⟨i0, hi, hz0, hz1, hz2⟩ := info_parts Try.info5
  cases ab with
  | none =>
    obtain ⟨rfl, rfl⟩ := hB.nil' rfl
    obtain rfl : ys = [] := List.eq_nil_of_length_eq_zero hB.size
    refine wpList_append_own_none hgd s x 47 ho base 5 i0 1 Try.underlying47 hi v n _ hs hown hx ?_
    exact h v w (by simpa using hown) (Below.refl _ _)
  | some ad =>
    have hown0 := hown
    rcases hown.2 with ⟨rfl, rfl⟩ | ⟨g, cap0, cur, rfl, _⟩
    · refine wpList_append_own w hgd s x 47 ho base 5 i0 (.int .u8 0) 1 1 Try.underlying47 hi hz0 hz1 hz2 rfl (by decide) _ 0 _ hs hown0 ad len cap (ys.map (Value.int .u8)) hx hB.lenMap (hB.cellsAt ad rfl) hB.one (by unfold maxLen; omega) (by omega) hbase ?_
      intro v' w' hown' hgrow _
      rw [← List.map_append] at hown'
      exact h v' w' hown' ((Below.refl _ _).grown hgrow hbase (fun j hj => (hown0.lt j hj).1))
    · exact app_some w hgd s x ho base g n cap0 xs hs hown0 ad len cap ys hx hB h47 hbase h
set_option maxRecDepth 100000
theorem own_mono {w : World} {b b' e n m : Nat} {v : Value} {xs : List Value} (h : w.ownsRow b' e m v n xs) (hb : b ≤ b') : w.ownsRow b e m v n xs := by
  obtain ⟨h1, h2⟩ := h
  refine ⟨h1, ?_⟩
  rcases h2 with h2 | ⟨g, cap, cur, hv, hg, h3⟩
  · exact .inl h2
  · exact .inr ⟨g, cap, cur, hv, Nat.le_trans hb hg, h3⟩
theorem IsB.drewN {w : World} {a : Option Addr} {len cap : Nat} {xs : List Int} (h : IsB w a len cap xs) (k : Nat) : IsB (w.drewN k) a len cap xs :=
  h.below (below_drewN (Below.refl _ _) k)
set_option maxRecDepth 100000

/-- A slice of bytes of the call's own, nil where there are none. -/
def OwnB (w : World) (base : Nat) (v : Value) (xs : List Int) : Prop :=
  w.ownsRow base 5 1 v xs.length (xs.map (Value.int .u8)) ∧ ∃ a cap, v = .slice a xs.length cap ∧ IsB w a xs.length cap xs
theorem ownB_of {w : World} {base n : Nat} {v : Value} {xs : List Int} (h : w.ownsRow base 5 1 v n (xs.map (Value.int .u8))) (hb : ∀ x ∈ xs, 0 ≤ x ∧ x < 256) : OwnB w base v xs := by
  have hl : xs.length = n := by have := h.1; simpa using this
  subst hl
  refine ⟨h, ?_⟩
  rcases h.2 with ⟨rfl, h0⟩ | ⟨g, cap, cur, rfl, _⟩
  · have : xs = [] := List.eq_nil_of_length_eq_zero h0
    subst this
    exact ⟨none, 0, rfl, ⟨rfl, Nat.le_refl _, by decide, fun _ => rfl, by simp, fun h => absurd h (by decide)⟩⟩
  · exact ⟨_, cap, rfl, isB_own h hb⟩
theorem clone_nil (w : World) : Calls Try.prog 63 #[.slice none 0 0] w fun e w' => e = .returned (.slice none 0 0) ∧ w = w' := by
  have hq := fun (w : World) (a : Option Addr) (l c : Nat) => Lib.run_eql_slice_nil (P := Try.prog) w 47 5 a l c 0 0 Try.underlying47
  go_enter Try.func63, Try.ntmps63
  go_wp2
  go_ret
  exact ⟨rfl, rfl⟩
set_option maxHeartbeats 1000000 in
theorem clone_some (ad : Addr) (len cap : Nat) (xs : List Int) (w : World) (h : IsB w (some ad) len cap xs) (hl : len ≤ 140737488355328) :
    Calls Try.prog 63 #[.slice (some ad) len cap] w fun e w' => ∃ v, e = .returned v ∧ OwnB w' w.heap.size v xs ∧ Below w.heap.size w w' := by
  have hq := fun (w : World) (a : Option Addr) (l c : Nat) => Lib.run_eql_slice_nil (P := Try.prog) w 47 5 a l c 0 0 Try.underlying47
  have hbel : Below w.heap.size w (w.alloc (.cells #[] 5)) := (Below.refl _ _).alloc (Nat.le_refl _) _
  have hown : (w.alloc (.cells #[] 5)).ownsRow w.heap.size 5 1 (.slice (some ⟨w.heap.size, 0, none⟩) 0 0) 0 (([] : List Int).map (Value.int .u8)) := World.ownsRow_lit w #[] 0 (Nat.le_refl _) (by decide) rfl
  go_enter Try.func63, Try.ntmps63
  go_wp2_with (at_builtin; refine app_bytes _ rfl _ _ rfl w.heap.size _ 0 [] rfl hown _ _ _ _ rfl (h.below hbel) (by omega) hl (by simp) ?_)
  intro v w1 hown1 hb1
  have hO := ownB_of hown1 h.byte
  clear hown1 hown
  obtain ⟨a', c', hv, _⟩ := hO.2
  rw [hv] at hO ⊢
  go_wp2
  go_ret
  exact ⟨_, rfl, hO, hbel.trans hb1⟩
theorem clone_any {a : Option Addr} {len cap : Nat} {xs : List Int} {w : World} (h : IsB w a len cap xs) (hl : len ≤ 140737488355328) :
    Calls Try.prog 63 #[.slice a len cap] w fun e w' => ∃ v, e = .returned v ∧ OwnB w' w.heap.size v xs ∧ Below w.heap.size w w' := by
  cases a with
  | none =>
    obtain ⟨rfl, rfl⟩ := h.nil' rfl
    obtain rfl : xs = [] := List.eq_nil_of_length_eq_zero h.size
    refine (clone_nil w).mono ?_
    rintro e w' ⟨rfl, rfl⟩
    exact ⟨_, rfl, ownB_of (n := 0) (World.ownsRow_nil _ _ _ _) (by simp), Below.refl _ _⟩
  | some ad => exact clone_some ad len cap xs w h hl
set_option maxRecDepth 100000

theorem own_below {w w' : World} {base e m n : Nat} {v : Value} {xs : List Value} (h : w.ownsRow base e m v n xs) (hb : Below w.heap.size w w') : w'.ownsRow base e m v n xs := by
  obtain ⟨h1, h2⟩ := h
  refine ⟨h1, ?_⟩
  rcases h2 with h2 | ⟨g, cap, cur, hv, hg, hh, h3⟩
  · exact .inl h2
  · exact .inr ⟨g, cap, cur, hv, hg, (hb.block g (lt_of_block hh)).trans hh, h3⟩
theorem OwnB.below {w w' : World} {base : Nat} {v : Value} {xs : List Int} (h : OwnB w base v xs) (hb : Below w.heap.size w w') : OwnB w' base v xs :=
  ⟨own_below h.1 hb, by obtain ⟨_, a, cap, hv, hB⟩ := h; exact ⟨a, cap, hv, hB.below hb⟩⟩
set_option maxRecDepth 100000
theorem str_inj (xs ys : List Int) (hx : ∀ x ∈ xs, 0 ≤ x ∧ x < 256) (hy : ∀ x ∈ ys, 0 ≤ x ∧ x < 256) (h : (strOfNums xs).data.toList = (strOfNums ys).data.toList) : xs = ys := by
  have h2 : (xs.map fun n => UInt8.ofNat n.toNat) = ys.map fun n => UInt8.ofNat n.toNat := by
    rw [← strOfNums_data, ← strOfNums_data]; exact h
  clear h
  induction xs generalizing ys with
  | nil => cases ys with
    | nil => rfl
    | cons y ys => simp at h2
  | cons x xs ih => cases ys with
    | nil => simp at h2
    | cons y ys =>
      simp only [List.map_cons, List.cons.injEq] at h2
      obtain ⟨e1, e2⟩ := h2
      have a1 := hx x (by simp)
      have a2 := hy y (by simp)
      have e3 := congrArg UInt8.toNat e1
      simp only [UInt8.toNat_ofNat'] at e3
      rw [ih ys (fun z hz => hx z (by simp [hz])) (fun z hz => hy z (by simp [hz])) e2]
      congr 1
      omega
theorem str_beq {xs ys : List Int} (hx : ∀ x ∈ xs, 0 ≤ x ∧ x < 256) (hy : ∀ x ∈ ys, 0 ≤ x ∧ x < 256) : ((strOfNums xs).toList == (strOfNums ys).toList) = decide (xs = ys) := by
  by_cases e : xs = ys
  · subst e
    simp
  · rw [decide_eq_false e, beq_eq_false_iff_ne]
    intro hh
    rw [Go.ByteArray.toList_eq, Go.ByteArray.toList_eq] at hh
    exact e (str_inj _ _ hx hy hh)
/-- An object as a value: class, values, bytes. -/
structure IsO (w : World) (c : Int) (sa : Option Addr) (sn sc : Nat) (ba : Option Addr) (bn bc : Nat) (vs : List (Int × Int)) (bs : List Int) : Prop where
  cls : -9223372036854775808 ≤ c ∧ c ≤ 9223372036854775807
  v : IsV w sa sn sc vs
  b : IsB w ba bn bc bs
theorem IsO.below {w w' : World} {c : Int} {sa ba : Option Addr} {sn sc bn bc : Nat} {vs : List (Int × Int)} {bs : List Int} (h : IsO w c sa sn sc ba bn bc vs bs) (hb : Below w.heap.size w w') : IsO w' c sa sn sc ba bn bc vs bs := ⟨h.cls, h.v.below hb, h.b.below hb⟩
/-- Two objects alike in all. -/
def alike (c d : Int) (vs us : List (Int × Int)) (bs ds : List Int) : Bool := decide (c = d) && decide (vs = us) && decide (bs = ds)
theorem IsV.drewN {w : World} {a : Option Addr} {len cap : Nat} {vs : List (Int × Int)} (h : IsV w a len cap vs) (k : Nat) : IsV (w.drewN k) a len cap vs := ⟨h.size, h.room, h.most, h.nil0, h.wf, h.cells⟩
/-- No operation is guarded, and each waits for earlier ones alone. -/
def plainOps (ops : Array Oper) : Bool := (List.range ops.size).all fun i => match ops[i]? with
  | none => false
  | some o => o.guard.isNone && o.after.all fun e => !Region.binds .any e || decide (e.on < i)
theorem plainOps_at {ops : Array Oper} (h : plainOps ops = true) {i : Nat} {o : Oper} (ho : ops[i]? = some o) : o.guard = none ∧ ∀ e ∈ o.after, Region.binds .any e = true → e.on < i := by
  unfold plainOps at h
  have hi : i < ops.size := by
    rcases Nat.lt_or_ge i ops.size with h' | h'
    · exact h'
    · rw [Array.getElem?_eq_none h'] at ho; cases ho
  have h1 := (List.all_eq_true.1 h) i (List.mem_range.2 hi)
  simp only [ho, Bool.and_eq_true, Array.all_eq_true_iff_forall_mem, Bool.or_eq_true, Bool.not_eq_true', decide_eq_true_eq] at h1
  refine ⟨by simpa using h1.1, fun e he hb => ?_⟩
  rcases h1.2 e he with h2 | h2
  · rw [h2] at hb; cases hb
  · exact h2
theorem ready_nil {ops : Array Oper} (hp : plainOps ops = true) {L : Array Bool} (hs : L.size = ops.size) (hr : Region.ready .any ops L = []) : ∀ i, i < ops.size → L.getD i false = true := by
  intro i
  induction i using Nat.strongRecOn with
  | ind i ih =>
    intro hi
    rcases hL : L.getD i false with _ | _
    · exfalso
      have hi' : i < L.size := by omega
      have hoi : ops[i]? = some ops[i] := Array.getElem?_eq_getElem hi
      have hm : i ∈ Region.ready .any ops L := by
        refine mem_ready.2 ⟨?_, ops[i], hoi, fun e he hb => ?_⟩
        · simp [hi'] at hL ⊢; exact hL
        · have := (plainOps_at hp hoi).2 e he hb
          exact ih _ this (by omega)
      rw [hr] at hm
      cases hm
    · rfl
/-- How many are not done. -/
def undone (L : Array Bool) : Nat := (L.toList.filter (· == false)).length
theorem undone_zero {L : Array Bool} (h : undone L = 0) : ∀ i, i < L.size → L.getD i true = true := by
  intro i hi
  unfold undone at h
  have h' : L.toList.filter (· == false) = [] := List.eq_nil_of_length_eq_zero h
  rw [List.filter_eq_nil_iff] at h'
  have := h' L[i] (by simp)
  simp [hi]
  simpa using this
theorem filter_set : ∀ (l : List Bool) (i : Nat), l[i]? = some false → ((l.set i true).filter (· == false)).length + 1 = (l.filter (· == false)).length
  | [], i, h => by simp at h
  | b :: l, 0, h => by
    simp at h
    subst h
    simp
  | b :: l, i + 1, h => by
    have ih := filter_set l i (by simpa using h)
    rw [List.set_cons_succ]
    cases b <;> simp only [List.filter_cons] <;> simp only [beq_self_eq_true, if_true, List.length_cons, Bool.true_eq_false, beq_iff_eq, if_false] <;> omega
theorem undone_set {L : Array Bool} {i : Nat} (h : L.getD i true = false) : undone (L.setIfInBounds i true) + 1 = undone L := by
  unfold undone
  rw [Array.toList_setIfInBounds]
  refine filter_set _ i ?_
  rcases Nat.lt_or_ge i L.size with h' | h'
  · simp [h'] at h ⊢; exact h
  · simp [Array.getElem?_eq_none h'] at h
/-- What is done is closed: whatever it waited for is done too. -/
def Closed (ops : Array Oper) (D : Nat → Prop) : Prop := ∀ (j : Nat) (o : Oper), ops[j]? = some o → D j → ∀ e ∈ o.after, Region.binds .any e = true → D e.on
theorem wpAny_inv {P : Program} {ops : Array Oper} {Q : Exit → Act → World → Prop} (hp : plainOps ops = true) (I : (Nat → Prop) → Act → World → Prop)
    (hmono : ∀ D D' a w, (∀ j, D j ↔ D' j) → I D a w → I D' a w)
    (hstep : ∀ (i : Nat) (o : Oper), ops[i]? = some o → ∀ D a w, I D a w → ¬ D i → Closed ops D → (∀ e ∈ o.after, Region.binds .any e = true → D e.on) → o.wp P a w (I fun j => j = i ∨ D j) Q)
    (hend : ∀ D a w, I D a w → (∀ i, i < ops.size → D i) → Q .normal a w) :
    ∀ (fuel : Nat) (L : Array Bool) (a : Act) (w : World), L.size = ops.size → undone L ≤ fuel → Closed ops (fun j => L.getD j false = true) → I (fun j => L.getD j false = true) a w → wpAny P .any ops Q fuel L a w
  | 0, L, a, w, hs, hf, hcl, hI => by
    have hall := undone_zero (show undone L = 0 by omega)
    refine ⟨?_, hend _ a w hI fun i hi => ?_⟩
    · cases hr : Region.ready .any ops L with
      | nil => rfl
      | cons x xs =>
        have hx : x ∈ Region.ready .any ops L := by rw [hr]; simp
        obtain ⟨h1, o, ho, _⟩ := mem_ready.1 hx
        have hx' : x < L.size := by
          rcases Nat.lt_or_ge x L.size with h' | h'
          · exact h'
          · rw [hs] at h'; rw [Array.getElem?_eq_none h'] at ho; cases ho
        rw [hall x hx'] at h1; cases h1
    · have := hall i (by omega)
      simp [show i < L.size by omega] at this ⊢; exact this
  | fuel + 1, L, a, w, hs, hf, hcl, hI => by
    refine ⟨fun hr => hend _ a w hI fun i hi => ready_nil hp hs hr i hi, fun i hi => ?_⟩
    obtain ⟨h1, o, ho, hd⟩ := mem_ready.1 hi
    have hi' : i < L.size := by
      rcases Nat.lt_or_ge i L.size with h' | h'
      · exact h'
      · rw [hs] at h'; rw [Array.getElem?_eq_none h'] at ho; cases ho
    have hn : ¬ L.getD i false = true := by
      simp [hi'] at h1 ⊢; exact h1
    have hst := hstep i o ho _ a w hI hn hcl hd
    unfold wpOp
    simp only [ho]
    have hw : Region.wanted o (yielded ops a.tmps) = true := by
      unfold Region.wanted; rw [(plainOps_at hp ho).1]
    rw [if_pos hw]
    have hset : ∀ j, (j = i ∨ L.getD j false = true) ↔ (L.setIfInBounds i true).getD j false = true := fun j => by
      by_cases hj : j = i
      · subst hj; simp [hi']
      · simp [hj, Ne.symm hj]
    refine .inl (Oper.wp_mono (fun a' w' hI' => ?_) hst)
    refine wpAny_inv hp I hmono hstep hend fuel _ a' w' (by simp [hs]) (by have := undone_set h1; omega) ?_ (hmono _ _ a' w' hset hI')
    intro j oj hoj hDj e he hb
    rcases (hset j).2 hDj with rfl | hDj
    · rw [ho] at hoj
      cases hoj
      exact (hset _).1 (.inr (hd e he hb))
    · exact (hset _).1 (.inr (hcl j oj hoj hDj e he hb))
/-- THE RULE: what holds behind any operations that are done (D) holds behind one more; behind all of them it gives what is asked. -/
theorem wp_region_inv {P : Program} {ops : Array Oper} {Q : Exit → Act → World → Prop} {id : Nat} {a : Act} {w : World} (hm : P.follows .mixedOrders = true) (hp : plainOps ops = true) (I : (Nat → Prop) → Act → World → Prop)
    (hmono : ∀ D D' a w, (∀ j, D j ↔ D' j) → I D a w → I D' a w)
    (hstart : I (fun _ => False) a { w with drawn := w.drawn + 1 })
    (hstep : ∀ (i : Nat) (o : Oper), ops[i]? = some o → ∀ D a w, I D a w → ¬ D i → Closed ops D → (∀ e ∈ o.after, Region.binds .any e = true → D e.on) → o.wp P a w (I fun j => j = i ∨ D j) Q)
    (hend : ∀ D a w, I D a w → (∀ i, i < ops.size → D i) → Q .normal a w) : (Code.region id ops true).wp P Q a w := by
  refine wp_region_any hm (wpAny_inv hp I hmono hstep hend _ _ a _ (by simp) ?_ ?_ (hmono _ _ _ _ (fun j => ?_) hstart))
  · unfold undone
    exact Nat.le_trans (List.length_filter_le _ _) (by simp)
  · intro j oj hoj hDj
    exfalso
    rcases Nat.lt_or_ge j ops.size with h' | h'
    · simp [h'] at hDj
    · simp [h'] at hDj
  · constructor
    · intro h; cases h
    · intro h
      exfalso
      rcases Nat.lt_or_ge j ops.size with h' | h'
      · simp [h'] at h
      · simp [h'] at h
/-- The same, what holds said of the frame at the beginning too. -/
theorem wp_region_inv' {P : Program} {ops : Array Oper} {Q : Exit → Act → World → Prop} {id : Nat} {a : Act} {w : World} (I : Act → (Nat → Prop) → Act → World → Prop) (hm : P.follows .mixedOrders = true) (hp : plainOps ops = true)
    (hmono : ∀ D D' a' w', (∀ j, D j ↔ D' j) → I a D a' w' → I a D' a' w')
    (hstart : I a (fun _ => False) a { w with drawn := w.drawn + 1 })
    (hstep : ∀ (i : Nat) (o : Oper), ops[i]? = some o → ∀ D a' w', I a D a' w' → ¬ D i → Closed ops D → (∀ e ∈ o.after, Region.binds .any e = true → D e.on) → o.wp P a' w' (I a fun j => j = i ∨ D j) Q)
    (hend : ∀ D a' w', I a D a' w' → (∀ i, i < ops.size → D i) → Q .normal a' w') : (Code.region id ops true).wp P Q a w :=
  wp_region_inv hm hp (I a) hmono hstart hstep hend
set_option maxRecDepth 100000
theorem alike_no {c d : Int} {vs us : List (Int × Int)} {bs ds : List Int} (h : ¬ (c = d ∧ vs = us ∧ bs = ds)) : alike c d vs us bs ds = false := by
  simp only [alike, Bool.and_eq_false_iff, decide_eq_false_iff_not]
  by_cases h1 : c = d
  · by_cases h2 : vs = us
    · exact .inr fun h3 => h ⟨h1, h2, h3⟩
    · exact .inl (.inr h2)
  · exact .inl (.inl h1)
set_option maxHeartbeats 4000000 in
theorem rsame_any {w : World} {c d : Int} {sa ba ta ea : Option Addr} {sn sc bn bc tn tc en ec : Nat} {vs us : List (Int × Int)} {bs ds : List Int} (h1 : IsO w c sa sn sc ba bn bc vs bs) (h2 : IsO w d ta tn tc ea en ec us ds) :
    Calls Try.prog 21 #[.agg #[.int .i64 c, .slice sa sn sc, .slice ba bn bc], .agg #[.int .i64 d, .slice ta tn tc, .slice ea en ec]] w fun e w' => e = .returned (.bool (alike c d vs us bs ds)) ∧ Below w.heap.size w w' := by
  have B : Below w.heap.size w ((w.alloc (.cells #[.int .i64 c, .slice sa sn sc, .slice ba bn bc] 49)).alloc (.cells #[.int .i64 d, .slice ta tn tc, .slice ea en ec] 49)) := below_size box_below box_below.size box_below
  have s1 := h1.v.size
  have s2 := h2.v.size
  have m1 := h1.v.most
  have m2 := h2.v.most
  have r1 := h1.v.room
  have r2 := h2.v.room
  unfold maxLen at m1 m2
  by_cases hc : c = d
  · subst hc
    by_cases hl : sn = tn
    · subst hl
      have k1 := (h1.below (box_below (o := .cells #[.int .i64 c, .slice sa sn sc, .slice ba bn bc] 49))).below (box_below (o := .cells #[.int .i64 c, .slice ta sn tc, .slice ea en ec] 49))
      have k2 := (h2.below (box_below (o := .cells #[.int .i64 c, .slice sa sn sc, .slice ba bn bc] 49))).below (box_below (o := .cells #[.int .i64 c, .slice ta sn tc, .slice ea en ec] 49))
      have e1 := k1.b.str
      have e2 := k2.b.str
      have hbq := str_beq k1.b.byte k2.b.byte
      by_cases hb : bs = ds
      · have e : alike c c vs us bs ds = decide (vs = us) := by simp [alike, hb]
        rw [e]
        clear e
        rw [decide_eq_true hb] at hbq
        have hca : ((w.alloc (.cells #[.int .i64 c, .slice sa sn sc, .slice ba bn bc] 49)).alloc (.cells #[.int .i64 c, .slice ta sn tc, .slice ea en ec] 49)).cell? ⟨w.heap.size, 1, none⟩ = some (.slice sa sn sc) := by simp
        have hcb : ((w.alloc (.cells #[.int .i64 c, .slice sa sn sc, .slice ba bn bc] 49)).alloc (.cells #[.int .i64 c, .slice ta sn tc, .slice ea en ec] 49)).cell? ⟨w.heap.size + 1, 1, none⟩ = some (.slice ta sn tc) := by simp
        go_enter Try.func21, Try.ntmps21
        go_wp2
        clear e1 e2 hbq
        have v1 := k1.v
        have v2 := k2.v
        clear k1 k2 h1 h2 hb
        generalize (w.alloc (.cells #[.int .i64 c, .slice sa sn sc, .slice ba bn bc] 49)).alloc (.cells #[.int .i64 c, .slice ta sn tc, .slice ea en ec] 49) = w1 at *
        go_loopw [5] (fun iv wr => ∃ (k q : Nat), k ≤ sn ∧ iv = .int .i64 (k : Int) ∧ wr = w1.drewN q ∧ vs.take k = us.take k) (fun iv _ => sn - (intOf iv).toNat)
        case atStart => exact ⟨0, 0, by omega, rfl, rfl, by simp⟩
        case round =>
          obtain ⟨k, q, hk, rfl, rfl, hok⟩ := hrel
          by_cases hlt : k < sn
          · obtain ⟨b1, o1, x1, y1, rfl, hb1, c1, d1, e1, _, _⟩ := v1.at_ k hlt
            obtain ⟨b2, o2, x2, y2, rfl, hb2, c2, d2, e2, _, _⟩ := v2.at_ k hlt
            replace hok : Hid (vs.take k = us.take k) := hok
            have hki : (k : Int) < (sn : Int) := by omega
            by_cases he : x1 = x2 ∧ y1 = y2
            · obtain ⟨rfl, rfl⟩ := he
              go_wp2_with fail
              go_quiet (fail)
              go_wp2
              go_roundw
              case rel => exact ⟨k + 1, _, by omega, by go_num, rfl, take_eq e1.out e2.out hok.out⟩
              case measure => simp [intOf]; omega
            · have hne : vs ≠ us := ne_at e1.out e2.out (fun h => he (by simpa using h))
              replace hne : Hid (vs ≠ us) := hne
              by_cases hx : x1 = x2
              · subst hx
                have hy : ¬ y1 = y2 := fun h => he ⟨rfl, h⟩
                clear he
                go_wp2_with fail
                go_quiet (fail)
                go_wp2
                go_ret
                exact ⟨by rw [decide_eq_false hne.out]; rfl, below_drewN (below_drewN B _) _⟩
              · clear he
                go_wp2_with fail
                go_quiet (fail)
                go_wp2
                go_ret
                exact ⟨by rw [decide_eq_false hne.out]; rfl, below_drewN (below_drewN B _) _⟩
          · rw [List.take_of_length_le (by omega), List.take_of_length_le (by omega)] at hok
            replace hok : Hid (vs = us) := hok
            go_wp2
            go_ret
            exact ⟨by rw [decide_eq_true hok.out]; rfl, below_drewN B _⟩
      · rw [decide_eq_false hb] at hbq
        rw [alike_no (fun h => hb h.2.2)]
        go_enter Try.func21, Try.ntmps21
        go_wp2
        go_ret
        exact ⟨rfl, B⟩
    · rw [alike_no (fun h => hl (by rw [← s1, ← s2, h.2.1]))]
      go_enter Try.func21, Try.ntmps21
      go_wp2
      go_ret
      exact ⟨rfl, B⟩
  · rw [alike_no (fun h => hc h.1)]
    go_enter Try.func21, Try.ntmps21
    go_wp2
    go_ret
    exact ⟨rfl, B⟩
set_option maxRecDepth 100000
theorem Try.info84 : (Try.prog.info? 84).map (fun i => (i.zero, i.size, i.bytes)) = some (some (.agg #[.int .i64 0, .int .i64 0]), 2, 16) := by kernel_rfl
theorem addr_add (b off i : Nat) : (⟨b, off, none⟩ : Addr).add i = ⟨b, off + i, none⟩ := by unfold Addr.add; split <;> simp_all
/-- Values as cells. -/
def flatV : List (Int × Int) → List Value
  | [] => []
  | v :: t => .int .i64 v.1 :: .int .i64 v.2 :: flatV t
theorem flatV_len : ∀ vs : List (Int × Int), (flatV vs).length = vs.length * 2
  | [] => rfl
  | v :: t => by simp only [flatV, List.length_cons, flatV_len t]; omega
theorem flatV_app : ∀ vs us : List (Int × Int), flatV (vs ++ us) = flatV vs ++ flatV us
  | [], _ => rfl
  | v :: t, us => by simp only [flatV, List.cons_append, flatV_app t us]
theorem flatV_at : ∀ (vs : List (Int × Int)) (i : Nat) (v : Int × Int), vs[i]? = some v → (flatV vs)[i * 2]? = some (.int .i64 v.1) ∧ (flatV vs)[i * 2 + 1]? = some (.int .i64 v.2)
  | [], _, _, h => by simp at h
  | u :: t, 0, v, h => by
    simp at h
    subst h
    exact ⟨rfl, rfl⟩
  | u :: t, i + 1, v, h => by
    have := flatV_at t i v (by simpa using h)
    rw [show (i + 1) * 2 = i * 2 + 2 by omega]
    exact this
theorem flatV_one (vs : List (Int × Int)) : ∀ u ∈ flatV vs, u.oneCell' = true := by
  induction vs with
  | nil => intro u hu; cases hu
  | cons v t ih =>
    intro u hu
    simp only [flatV, List.mem_cons] at hu
    rcases hu with rfl | rfl | hu
    · rfl
    · rfl
    · exact ih u hu
theorem IsV.cellsAt {w : World} {a : Option Addr} {len cap : Nat} {vs : List (Int × Int)} (h : IsV w a len cap vs) : ∀ ad, a = some ad → ∀ j u, (flatV vs)[j]? = some u → w.cell? (ad.add j) = some u := by
  intro ad ha j u hj
  have hjl : j < vs.length * 2 := by
    have := (List.getElem?_eq_some_iff.1 hj).1
    rwa [flatV_len] at this
  obtain ⟨b, off, hb, hc⟩ := h.cells (by have := h.size; omega)
  rw [ha] at hb
  obtain rfl := Option.some.inj hb
  have hi : j / 2 < vs.length := by omega
  have e : vs[j / 2]? = some (vs.getD (j / 2) (0, 0)) := by simp [hi]
  have hf := flatV_at vs (j / 2) _ e
  have hc := hc (j / 2) (by have := h.size; omega)
  rw [addr_add]
  rcases Nat.mod_two_eq_zero_or_one j with hm | hm
  · have ej : j = j / 2 * 2 := by omega
    have h1 := hf.1
    rw [← ej, hj] at h1
    have h2 := hc.1
    rw [← ej] at h2
    rw [h2, Option.some.inj h1]
  · have ej : j = j / 2 * 2 + 1 := by omega
    have h1 := hf.2
    rw [← ej, hj] at h1
    have h2 := hc.2
    rw [show off + j / 2 * 2 + 1 = off + j by omega] at h2
    rw [h2, Option.some.inj h1]
theorem IsV.nil' {w : World} {a : Option Addr} {len cap : Nat} {vs : List (Int × Int)} (h : IsV w a len cap vs) : a = none → len = 0 ∧ cap = 0 := by
  intro ha
  have := h.nil0 ha
  have := h.room
  omega
theorem isV_nil (w : World) : IsV w none 0 0 [] := ⟨rfl, Nat.le_refl _, by decide, fun _ => rfl, by simp, fun h => absurd h (by decide)⟩
def wfVs (vs : List (Int × Int)) : Prop := ∀ v ∈ vs, (-9223372036854775808 ≤ v.1 ∧ v.1 ≤ 9223372036854775807) ∧ (-9223372036854775808 ≤ v.2 ∧ v.2 ≤ 9223372036854775807)
theorem isV_own {w : World} {base n cap : Nat} {g : Nat} {vs : List (Int × Int)} (h : w.ownsRow base 84 2 (.slice (some ⟨g, 0, none⟩) n cap) n (flatV vs)) (hb : wfVs vs) : IsV w (some ⟨g, 0, none⟩) n cap vs := by
  have hl : vs.length = n := by have := h.1; rw [flatV_len] at this; omega
  have h2 := h.2
  refine ⟨hl, ?_, ?_, by simp, hb, fun _ => ⟨g, 0, rfl, fun i hi => ?_⟩⟩
  · rcases h2 with ⟨h', _⟩ | ⟨g', cap', cur, h', _, _, hnc, _⟩
    · simp at h'
    · simp at h'; omega
  · rcases h2 with ⟨h', _⟩ | ⟨g', cap', cur, h', _, _, _, hcm, _⟩
    · simp at h'
    · simp at h'; omega
  · have e : vs[i]? = some (vs.getD i (0, 0)) := by simp [show i < vs.length by omega]
    have hf := flatV_at vs i _ e
    have h3 := World.ownsRow.cells h (g := g) rfl (i * 2) _ hf.1
    have h4 := World.ownsRow.cells h (g := g) rfl (i * 2 + 1) _ hf.2
    rw [addr_add] at h3 h4
    exact ⟨h3, h4⟩
/-- A slice of values of the call's own. -/
def OwnV (w : World) (base : Nat) (v : Value) (vs : List (Int × Int)) : Prop :=
  w.ownsRow base 84 2 v vs.length (flatV vs) ∧ ∃ a cap, v = .slice a vs.length cap ∧ IsV w a vs.length cap vs
theorem ownV_of {w : World} {base n : Nat} {v : Value} {vs : List (Int × Int)} (h : w.ownsRow base 84 2 v n (flatV vs)) (hb : wfVs vs) : OwnV w base v vs := by
  have hl : vs.length = n := by have := h.1; rw [flatV_len] at this; omega
  subst hl
  refine ⟨h, ?_⟩
  rcases h.2 with ⟨rfl, h0⟩ | ⟨g, cap, cur, rfl, _⟩
  · have : vs = [] := List.eq_nil_of_length_eq_zero h0
    subst this
    exact ⟨none, 0, rfl, isV_nil w⟩
  · exact ⟨_, cap, rfl, isV_own h hb⟩
set_option maxRecDepth 100000
theorem app_vals {ops : Array Oper} {rest : List Oper} {o : Oper} {a : Act} {Q : Exit → Act → World → Prop} (w : World) (hgd : o.guard = none) (s x : Operand)
    (ho : o.op = .call { callee := .builtin .append, args := #[s, x], argTypes := #[46, 46] })
    (base : Nat) (v : Value) (n : Nat) (xs : List (Int × Int)) (hs : a.eval s = v) (hown : w.ownsRow base 84 2 v n (flatV xs))
    (ab : Option Addr) (len cap : Nat) (ys : List (Int × Int)) (hx : a.eval x = .slice ab len cap) (hB : IsV w ab len cap ys) (h47 : n + len ≤ 8796093022208) (hbase : base ≤ w.heap.size)
    (h : ∀ v' w', w'.ownsRow base 84 2 v' (n + len) (flatV (xs ++ ys)) → Below base w w' → wpList Try.prog ops Q rest (a.put o.dst v') w') : wpList Try.prog ops Q (o :: rest) a w := by
  obtain ⟨i0, hi, hz0, hz1, hz2⟩ := info_parts Try.info84
  cases ab with
  | none =>
    obtain ⟨rfl, rfl⟩ := hB.nil' rfl
    obtain rfl : ys = [] := List.eq_nil_of_length_eq_zero hB.size
    refine wpList_append_own_none hgd s x 46 ho base 84 i0 2 Try.underlying46 hi v n _ hs hown hx ?_
    exact h v w (by simpa using hown) (Below.refl _ _)
  | some ad =>
    refine wpList_append_own w hgd s x 46 ho base 84 i0 (.agg #[.int .i64 0, .int .i64 0]) 2 16 Try.underlying46 hi hz0 hz1 hz2 rfl (by decide) _ n _ hs hown ad len cap (flatV ys) hx (by rw [flatV_len, hB.size]) (hB.cellsAt ad rfl) (flatV_one ys) (by unfold maxLen; omega) (by omega) hbase ?_
    intro v' w' hown' hgrow _
    rw [← flatV_app] at hown'
    exact h v' w' hown' ((Below.refl _ _).grown hgrow hbase (fun j hj => (hown.lt j hj).1))
theorem cloneV_nil (w : World) : Calls Try.prog 62 #[.slice none 0 0] w fun e w' => e = .returned (.slice none 0 0) ∧ w = w' := by
  have hq := fun (w : World) (a : Option Addr) (l c : Nat) => Lib.run_eql_slice_nil (P := Try.prog) w 46 84 a l c 0 0 Try.underlying46
  go_enter Try.func62, Try.ntmps62
  go_wp2
  go_ret
  exact ⟨rfl, rfl⟩
set_option maxHeartbeats 1000000 in
theorem cloneV_some (ad : Addr) (len cap : Nat) (vs : List (Int × Int)) (w : World) (h : IsV w (some ad) len cap vs) (hl : len ≤ 8796093022208) :
    Calls Try.prog 62 #[.slice (some ad) len cap] w fun e w' => ∃ v, e = .returned v ∧ OwnV w' w.heap.size v vs ∧ Below w.heap.size w w' := by
  have hq := fun (w : World) (a : Option Addr) (l c : Nat) => Lib.run_eql_slice_nil (P := Try.prog) w 46 84 a l c 0 0 Try.underlying46
  have hbel : Below w.heap.size w (w.alloc (.cells #[] 84)) := (Below.refl _ _).alloc (Nat.le_refl _) _
  have hown : (w.alloc (.cells #[] 84)).ownsRow w.heap.size 84 2 (.slice (some ⟨w.heap.size, 0, none⟩) 0 0) 0 (flatV []) := World.ownsRow_lit w #[] 0 (Nat.le_refl _) (by decide) rfl
  go_enter Try.func62, Try.ntmps62
  go_wp2_with (at_builtin; refine app_vals _ rfl _ _ rfl w.heap.size _ 0 [] rfl hown _ _ _ _ rfl (h.below hbel) (by omega) (by simp) ?_)
  intro v w1 hown1 hb1
  have hO := ownV_of hown1 h.wf
  clear hown1 hown
  obtain ⟨a', c', hv, _⟩ := hO.2
  rw [hv] at hO ⊢
  go_wp2
  go_ret
  exact ⟨_, rfl, hO, hbel.trans hb1⟩
theorem cloneV_any {a : Option Addr} {len cap : Nat} {vs : List (Int × Int)} {w : World} (h : IsV w a len cap vs) (hl : len ≤ 8796093022208) :
    Calls Try.prog 62 #[.slice a len cap] w fun e w' => ∃ v, e = .returned v ∧ OwnV w' w.heap.size v vs ∧ Below w.heap.size w w' := by
  cases a with
  | none =>
    obtain ⟨rfl, rfl⟩ := h.nil' rfl
    obtain rfl : vs = [] := List.eq_nil_of_length_eq_zero h.size
    refine (cloneV_nil w).mono ?_
    rintro e w' ⟨rfl, rfl⟩
    exact ⟨_, rfl, ownV_of (n := 0) (World.ownsRow_nil _ _ _ _) (by intro v hv; cases hv), Below.refl _ _⟩
  | some ad => exact cloneV_some ad len cap vs w h hl
set_option maxRecDepth 100000
theorem own_block {w : World} {n₀ e sz n : Nat} {v : Value} {xs : List Value} (h : w.ownsRow n₀ e sz v n xs) {g : Nat} (hg : v.ownBlock = some g) : n₀ ≤ g ∧ ∃ cur, w.heap[g]? = some (.cells cur e (0, 0)) := by
  rcases h.2 with ⟨rfl, _⟩ | ⟨g', cap, cur, rfl, hb, hh, _⟩
  · simp [Value.ownBlock] at hg
  · simp [Value.ownBlock] at hg
    subst hg
    exact ⟨hb, cur, hh⟩
theorem cells_ty {c c' : Array Value} {t t' : Nat} (h : some (Obj.cells c t (0, 0)) = some (Obj.cells c' t' (0, 0))) : t = t' := by
  simp at h
  exact h.2
theorem own_same {w w' : World} {n₀ e sz n : Nat} {v : Value} {xs : List Value} (h : w.ownsRow n₀ e sz v n xs) (hk : ∀ g, v.ownBlock = some g → w'.heap[g]? = w.heap[g]?) : w'.ownsRow n₀ e sz v n xs := by
  obtain ⟨h1, h2⟩ := h
  refine ⟨h1, ?_⟩
  rcases h2 with ⟨rfl, h3⟩ | ⟨g', cap, cur, rfl, hb, hh, h4⟩
  · exact .inl ⟨rfl, h3⟩
  · exact .inr ⟨g', cap, cur, rfl, hb, (hk g' rfl).trans hh, h4⟩
theorem own_ne {w : World} {n₀ e sz n b t : Nat} {v : Value} {xs : List Value} {c : Array Value} (h : w.ownsRow n₀ e sz v n xs) (hb : w.heap[b]? = some (.cells c t (0, 0))) (ht : t ≠ e) : v.ownBlock ≠ some b := by
  intro hv
  obtain ⟨_, cur, hh⟩ := own_block h hv
  rw [hh] at hb
  exact ht (cells_ty hb).symm
theorem own_setCell {w : World} {n₀ e sz n b t i : Nat} {v x : Value} {xs : List Value} {c : Array Value} (h : w.ownsRow n₀ e sz v n xs) (hb : w.heap[b]? = some (.cells c t (0, 0))) (ht : t ≠ e) : (w.setCell ⟨b, i, none⟩ x).ownsRow n₀ e sz v n xs :=
  own_same h (fun g hg => heap_setCell_other _ _ _ _ (fun e' => own_ne h hb ht (by rw [hg, e'])))
theorem below_setCell {B b i : Nat} {w w' : World} {x : Value} (h : Below B w w') (hb : B ≤ b) : Below B w (w'.setCell ⟨b, i, none⟩ x) :=
  ⟨h.os, h.tape, h.output, by simpa using h.size, fun j hj => (heap_setCell_other _ _ _ _ (by show j ≠ b; omega)).trans (h.block j hj)⟩
/-- An object's block. -/
def objB (c : Int) (v1 v2 : Value) : Obj := .cells #[.int .i64 c, v1, v2] 49 (0, 0)
theorem obj_cells {w : World} {b : Nat} {c : Int} {v1 v2 : Value} (h : w.heap[b]? = some (objB c v1 v2)) : w.cell? ⟨b, 0, none⟩ = some (.int .i64 c) ∧ w.cell? ⟨b, 1, none⟩ = some v1 ∧ w.cell? ⟨b, 2, none⟩ = some v2 ∧ ∀ i, w.frozen? ⟨b, i, none⟩ = false := by
  unfold objB at h
  refine ⟨?_, ?_, ?_, fun i => frozen_of_row w b i _ _ h⟩ <;> (rw [cell_of_row w b _ _ _ _ h]; rfl)
theorem obj_set1 {w : World} {b : Nat} {c : Int} {v1 v2 : Value} (h : w.heap[b]? = some (objB c v1 v2)) (v : Value) : (w.setCell ⟨b, 1, none⟩ v).heap[b]? = some (objB c v v2) := by
  unfold objB at h ⊢
  rw [heap_setCell_same w b 1 _ _ _ h]
  simp
theorem obj_set2 {w : World} {b : Nat} {c : Int} {v1 v2 : Value} (h : w.heap[b]? = some (objB c v1 v2)) (v : Value) : (w.setCell ⟨b, 2, none⟩ v).heap[b]? = some (objB c v1 v) := by
  unfold objB at h ⊢
  rw [heap_setCell_same w b 2 _ _ _ h]
  simp
theorem load49 {w : World} {b off : Nat} {v0 v1 v2 : Value} (h0 : w.cell? ⟨b, off, none⟩ = some v0) (h1 : w.cell? ⟨b, off + 1, none⟩ = some v1) (h2 : w.cell? ⟨b, off + 2, none⟩ = some v2) : (loadVar 49 ⟨b, off, none⟩).run Try.prog w = .ok (.agg #[v0, v1, v2]) w := by
  have hr := run_loadCells_list (P := Try.prog) w ⟨b, off, none⟩ [v0, v1, v2] (fun i v hi => by
    rw [addr_add]
    match i, hi with
    | 0, hi => simp at hi; subst hi; exact h0
    | 1, hi => simp at hi; subst hi; exact h1
    | 2, hi => simp at hi; subst hi; exact h2
    | _ + 3, hi => simp at hi)
  have hagg : (isAgg 49).run Try.prog w = .ok true w := by simp [isAgg, run_underlying Try.underlying49]
  have hr' : (loadCells ⟨b, off, none⟩ 3).run Try.prog w = .ok #[v0, v1, v2] w := hr
  simp [loadVar, hagg, hr']
theorem results_cell {P : Program} {fn : Func} {tmps : Array Value} {a t : Nat} {ad : Addr} {w : World} {v : Value} (hf : fn.results = #[.cell a t]) (ha : tmps[a]?.getD undef = .pointer (some ad)) (hl : (loadVar t ad).run P w = .ok v w) : (results fn tmps).run P w = .ok v w := by
  unfold results
  rw [hf]
  simp [ha, asAddr, hl]
/-- An object stored whole. -/
def stO (w : World) (b : Nat) (c : Int) (v1 v2 : Value) : World := ((w.setCell ⟨b, 0, none⟩ (.int .i64 c)).setCell ⟨b, 1, none⟩ v1).setCell ⟨b, 2, none⟩ v2
theorem obj_set0 {w : World} {b : Nat} {c : Int} {v1 v2 : Value} (h : w.heap[b]? = some (objB c v1 v2)) (d : Int) : (w.setCell ⟨b, 0, none⟩ (.int .i64 d)).heap[b]? = some (objB d v1 v2) := by
  unfold objB at h ⊢
  rw [heap_setCell_same w b 0 _ _ _ h]
  simp
theorem stO_blk {w : World} {b : Nat} {c0 : Int} {u1 u2 : Value} (h : w.heap[b]? = some (objB c0 u1 u2)) (c : Int) (v1 v2 : Value) : (stO w b c v1 v2).heap[b]? = some (objB c v1 v2) := obj_set2 (obj_set1 (obj_set0 h c) v1) v2
theorem stO_other {w : World} {b g : Nat} (h : g ≠ b) (c : Int) (v1 v2 : Value) : (stO w b c v1 v2).heap[g]? = w.heap[g]? :=
  (heap_setCell_other _ ⟨b, 2, none⟩ g v2 h).trans ((heap_setCell_other _ ⟨b, 1, none⟩ g v1 h).trans (heap_setCell_other _ ⟨b, 0, none⟩ g _ h))
theorem stO_own {w : World} {n₀ e sz n b : Nat} {v : Value} {xs : List Value} (h : w.ownsRow n₀ e sz v n xs) {c0 : Int} {u1 u2 : Value} (hb : w.heap[b]? = some (objB c0 u1 u2)) (ht : 49 ≠ e) (c : Int) (v1 v2 : Value) : (stO w b c v1 v2).ownsRow n₀ e sz v n xs :=
  own_same h (fun g hg => stO_other (fun e' => own_ne h hb ht (by rw [hg, e'])) c v1 v2)
theorem stO_below {B b : Nat} {w w' : World} (h : Below B w w') (hb : B ≤ b) (c : Int) (v1 v2 : Value) : Below B w (stO w' b c v1 v2) := below_setCell (below_setCell (below_setCell h hb) hb) hb
set_option maxRecDepth 100000
theorem OwnV.below {w w' : World} {base : Nat} {v : Value} {vs : List (Int × Int)} (h : OwnV w base v vs) (hb : Below w.heap.size w w') : OwnV w' base v vs :=
  ⟨own_below h.1 hb, by obtain ⟨a, cap, e, k⟩ := h.2; exact ⟨a, cap, e, k.below hb⟩⟩
theorem new1 (w : World) (a : Obj) : (w.alloc a).heap[w.heap.size]? = some a := heap_alloc_new w a
theorem size1 (w : World) (a : Obj) : (w.alloc a).heap.size = w.heap.size + 1 := by simp
theorem old1 {w : World} {b : Nat} {o : Obj} (h : w.heap[b]? = some o) (a : Obj) : (w.alloc a).heap[b]? = some o := (Below.heap_alloc _ _ _ (lt_of_block h)).trans h
theorem new2 (w : World) (a b : Obj) : ((w.alloc a).alloc b).heap[w.heap.size + 1]? = some b := by have := new1 (w.alloc a) b; rwa [size1] at this
theorem new3 (w : World) (a b c : Obj) : (((w.alloc a).alloc b).alloc c).heap[w.heap.size + 1 + 1]? = some c := by have := new2 (w.alloc a) b c; rwa [size1] at this
set_option maxHeartbeats 4000000 in
theorem rcopy_any {w : World} {c : Int} {sa ba : Option Addr} {sn sc bn bc : Nat} {vs : List (Int × Int)} {bs : List Int} (h : IsO w c sa sn sc ba bn bc vs bs) (hs : sn ≤ 8796093022208) (hb : bn ≤ 140737488355328) :
    Calls Try.prog 34 #[.agg #[.int .i64 c, .slice sa sn sc, .slice ba bn bc]] w fun e w' => ∃ vv bv, e = .returned (.agg #[.int .i64 c, vv, bv]) ∧ OwnV w' w.heap.size vv vs ∧ OwnB w' w.heap.size bv bs ∧ Below w.heap.size w w' := by
  go_enter Try.func34, Try.ntmps34
  go_wp2_with (at_builtin; refine app_vals _ rfl _ _ rfl (w.heap.size + 1 + 1 + 1) _ 0 [] rfl (World.ownsRow_nil _ _ _ _) _ _ _ _ rfl (((h.below box_below).below box_below).below box_below).v (by omega) (by simp) ?_)
  intro vv w3 O3 B3
  have E0 : w3.heap[w.heap.size]? = some (objB c (.slice sa sn sc) (.slice ba bn bc)) := (B3.block _ (by omega)).trans (old1 (old1 (new1 _ _) _) _)
  have E1 : w3.heap[w.heap.size + 1]? = some (objB 0 (.slice none 0 0) (.slice none 0 0)) := (B3.block _ (by omega)).trans (old1 (new2 _ _ _) _)
  have E2 : w3.heap[w.heap.size + 1 + 1]? = some (objB c (.slice none 0 0) (.slice none 0 0)) := (B3.block _ (by omega)).trans (new3 _ _ _ _)
  have B4 : Below w.heap.size w w3 := (below_size (below_size box_below box_below.size box_below) (by simp; omega) box_below).trans (B3.mono (by omega))
  have g3 : w.heap.size + 1 + 1 + 1 ≤ w3.heap.size := by have := B3.size; simpa using this
  clear B3
  have h01 : w.heap.size ≠ w.heap.size + 1 + 1 := by omega
  have h11 : w.heap.size + 1 ≠ w.heap.size + 1 + 1 := by omega
  have l0 : w.heap.size ≤ w.heap.size := Nat.le_refl _
  have l1 : w.heap.size ≤ w.heap.size + 1 := by omega
  have l2 : w.heap.size ≤ w.heap.size + 1 + 1 := by omega
  generalize w.heap.size + 1 + 1 = b2 at *
  generalize w.heap.size + 1 = b1 at *
  obtain ⟨b0, hb0⟩ : ∃ b, Hid (w.heap.size = b) := ⟨_, rfl⟩
  have O4 := own_setCell (i := 1) (x := vv) O3 E2 (by decide)
  have E2' := obj_set1 E2 vv
  have E0' := (heap_setCell_other w3 ⟨b2, 1, none⟩ w.heap.size vv h01).trans E0
  have E1' := (heap_setCell_other w3 ⟨b2, 1, none⟩ b1 vv h11).trans E1
  have B5 := below_setCell (i := 1) (x := vv) B4 l2
  have k5 := h.below B5
  obtain ⟨z0, z1, z2, zf⟩ := obj_cells E2
  obtain ⟨av, cv, hvv⟩ : ∃ a c, vv = .slice a sn c := by
    rcases O3.2 with ⟨rfl, h0⟩ | ⟨g, cap, cur, rfl, _⟩
    · exact ⟨none, 0, by rw [h0]⟩
    · exact ⟨_, _, rfl⟩
  subst hvv
  obtain ⟨y0, y1, y2, yf⟩ := obj_cells E0
  have sz4 : (w3.setCell ⟨b2, 1, none⟩ (.slice av sn cv)).heap.size = w3.heap.size := by simp
  go_wp2_with (at_builtin; refine app_bytes _ rfl _ _ rfl w3.heap.size _ 0 [] rfl (World.ownsRow_nil _ _ _ _) _ _ _ _ rfl k5.b (by omega) hb (by simp) ?_)
  intro bv w5 O5 B6
  have B6' : Below (w3.setCell ⟨b2, 1, none⟩ (.slice av sn cv)).heap.size (w3.setCell ⟨b2, 1, none⟩ (.slice av sn cv)) w5 := by rw [sz4]; exact B6
  have Q4 := own_below O4 B6'
  have E6 := (B6.block b2 (lt_of_block E2)).trans E2'
  have F6 := (B6.block b1 (lt_of_block E1)).trans E1'
  have B7 := B5.trans (B6.mono (by omega))
  clear z0 z1 z2 zf y0 y1 y2 yf B6 B6' E0 E1 E2 E0' E1' E2' O3 O4 B4 B5 k5 sz4
  obtain ⟨ab, cb, hbv⟩ : ∃ a c, bv = .slice a bn c := by
    rcases O5.2 with ⟨rfl, h0⟩ | ⟨g, cap, cur, rfl, _⟩
    · exact ⟨none, 0, by rw [h0]⟩
    · exact ⟨_, _, rfl⟩
  subst hbv
  have Q5 := own_setCell (i := 2) (x := .slice ab bn cb) O5 E6 (by decide)
  have Q6 := own_setCell (i := 2) (x := .slice ab bn cb) Q4 E6 (by decide)
  have E7 := obj_set2 E6 (.slice ab bn cb)
  have F7 := (heap_setCell_other w5 ⟨b2, 2, none⟩ b1 (.slice ab bn cb) h11).trans F6
  have B8 := below_setCell (i := 2) (x := .slice ab bn cb) B7 l2
  obtain ⟨z0, z1, z2, zf⟩ := obj_cells E6
  obtain ⟨y0, y1, y2, yf⟩ := obj_cells F6
  go_wp2
  clear z0 z1 z2 zf y0 y1 y2 yf
  have E9 := stO_blk F7 c (.slice av sn cv) (.slice ab bn cb)
  obtain ⟨z0, z1, z2, zf⟩ := obj_cells E9
  exact bodyPost_ret (v := .agg #[.int .i64 c, .slice av sn cv, .slice ab bn cb]) (results_cell Try.results34 rfl (load49 z0 z1 z2)) rfl ⟨_, _, rfl, ownV_of (own_mono (stO_own Q6 F7 (by decide) c _ _) (by omega)) h.v.wf, ownB_of (own_mono (stO_own Q5 F7 (by decide) c _ _) (by omega)) h.b.byte, stO_below B8 l1 c _ _⟩
theorem OwnB.byte {w : World} {base : Nat} {v : Value} {xs : List Int} (h : OwnB w base v xs) : ∀ x ∈ xs, 0 ≤ x ∧ x < 256 := by
  obtain ⟨_, a, c, e, k⟩ := h
  exact k.byte
/-- All below a number is as it was, and every block that is not of bytes. -/
structure Gr (base : Nat) (w w' : World) : Prop where
  below : Below base w w'
  keep : ∀ (g : Nat) (cs : Array Value) (t : Nat), t ≠ 5 → w.heap[g]? = some (.cells cs t (0, 0)) → w'.heap[g]? = some (.cells cs t (0, 0))
theorem Gr.trans {base : Nat} {w w1 w2 : World} (h : Gr base w w1) (k : Gr base w1 w2) : Gr base w w2 := ⟨h.below.trans k.below, fun g cs t ht hg => k.keep g cs t ht (h.keep g cs t ht hg)⟩
theorem Gr.refl (base : Nat) (w : World) : Gr base w w := ⟨Below.refl _ _, fun _ _ _ _ h => h⟩
set_option maxRecDepth 100000
/-- All old blocks but one are as they were. -/
structure But (b : Nat) (w w' : World) : Prop where
  os : w'.os = w.os
  tape : w'.tape = w.tape
  output : w'.output = w.output
  size : w.heap.size ≤ w'.heap.size
  block : ∀ i, i < w.heap.size → i ≠ b → w'.heap[i]? = w.heap[i]?
theorem But.refl (b : Nat) (w : World) : But b w w := ⟨rfl, rfl, rfl, Nat.le_refl _, fun _ _ _ => rfl⟩
theorem But.trans {b : Nat} {w w1 w2 : World} (h : But b w w1) (k : But b w1 w2) : But b w w2 := ⟨k.os.trans h.os, k.tape.trans h.tape, k.output.trans h.output, Nat.le_trans h.size k.size, fun i hi hb => (k.block i (Nat.lt_of_lt_of_le hi h.size) hb).trans (h.block i hi hb)⟩
theorem But.below {b N : Nat} {w0 w w' : World} (k : But b w w') (B : Below N w0 w) (hN : N ≤ w.heap.size) (hb : N ≤ b) : Below N w0 w' :=
  B.trans ⟨k.os, k.tape, k.output, k.size, fun i hi => k.block i (by omega) (by omega)⟩
theorem OwnV.wf {w : World} {base : Nat} {v : Value} {vs : List (Int × Int)} (h : OwnV w base v vs) : wfVs vs := by
  obtain ⟨_, a, c, e, k⟩ := h
  exact k.wf
theorem OwnB.mono {w : World} {b b' : Nat} {v : Value} {xs : List Int} (h : OwnB w b' v xs) (hb : b ≤ b') : OwnB w b v xs := ownB_of (own_mono h.1 hb) h.byte
theorem OwnV.mono {w : World} {b b' : Nat} {v : Value} {vs : List (Int × Int)} (h : OwnV w b' v vs) (hb : b ≤ b') : OwnV w b v vs := ownV_of (own_mono h.1 hb) h.wf
theorem OwnV.isV {w : World} {base : Nat} {a : Option Addr} {n c : Nat} {vs : List (Int × Int)} (h : OwnV w base (.slice a n c) vs) : IsV w a n c vs := by
  obtain ⟨_, a', c', e, k⟩ := h
  simp only [Value.slice.injEq] at e
  obtain ⟨rfl, rfl, rfl⟩ := e
  exact k
theorem OwnB.isB {w : World} {base : Nat} {a : Option Addr} {n c : Nat} {xs : List Int} (h : OwnB w base (.slice a n c) xs) : IsB w a n c xs := by
  obtain ⟨_, a', c', e, k⟩ := h
  simp only [Value.slice.injEq] at e
  obtain ⟨rfl, rfl, rfl⟩ := e
  exact k
theorem wp_value {P : Program} {o : Oper} {a : Act} {w w' : World} {K : Act → World → Prop} {Q : Exit → Act → World → Prop} {v : Value} (h : (execOp a.eval o).run P w = .ok (.value v) w') (hk : K (a.put o.dst v) w') : o.wp P a w K Q := by
  unfold Oper.wp; rw [h]; exact hk
theorem wp_enter {P : Program} {o : Oper} {a : Act} {w : World} {K : Act → World → Prop} {Q : Exit → Act → World → Prop} {f : FuncId} {args : Array Value} (h : (execOp a.eval o).run P w = .ok (.enter f args) w) (hk : Calls P f args w fun e w' => ∃ v, e = .returned v ∧ K (a.put o.dst v) w') : o.wp P a w K Q := by
  unfold Oper.wp
  rw [h]
  refine hk.mono ?_
  rintro e w' ⟨v, rfl, h⟩
  exact h
theorem wp_skip {P : Program} {o : Oper} {a : Act} {w w' : World} {K : Act → World → Prop} {Q : Exit → Act → World → Prop} (h : (execOp a.eval o).run P w = .ok .skip w') (hk : K (a.put o.dst undef) w') : o.wp P a w K Q := by
  unfold Oper.wp; rw [h]; exact hk
set_option maxRecDepth 100000
theorem Try.results47 : Try.f47.results = #[.cell 2 49] := by kernel_rfl
set_option maxHeartbeats 4000000 in
theorem copy_any {w : World} {c : Int} {sa ba : Option Addr} {sn sc bn bc : Nat} {vs : List (Int × Int)} {bs : List Int} (h : IsO w c sa sn sc ba bn bc vs bs) (hs : sn ≤ 8796093022208) (hb : bn ≤ 140737488355328) :
    Calls Try.prog 47 #[.agg #[.int .i64 c, .slice sa sn sc, .slice ba bn bc]] w fun e w' => ∃ vv bv, e = .returned (.agg #[.int .i64 c, vv, bv]) ∧ OwnV w' w.heap.size vv vs ∧ OwnB w' w.heap.size bv bs ∧ Below w.heap.size w w' := by
  have hbyte := h.b.byte
  go_enter Try.func47, Try.ntmps47
  go_upto_region 1 with fail
  have E1 : ((w.alloc (objB c (.slice sa sn sc) (.slice ba bn bc))).alloc (objB 0 (.slice none 0 0) (.slice none 0 0))).heap[w.heap.size]? = some (objB c (.slice sa sn sc) (.slice ba bn bc)) := old1 (new1 _ _) _
  have E2 : ((w.alloc (objB c (.slice sa sn sc) (.slice ba bn bc))).alloc (objB 0 (.slice none 0 0) (.slice none 0 0))).heap[w.heap.size + 1]? = some (objB 0 (.slice none 0 0) (.slice none 0 0)) := new2 _ _ _
  have B2 : Below w.heap.size w ((w.alloc (objB c (.slice sa sn sc) (.slice ba bn bc))).alloc (objB 0 (.slice none 0 0) (.slice none 0 0))) := below_size box_below box_below.size box_below
  have h2 := (h.below (box_below (o := objB c (.slice sa sn sc) (.slice ba bn bc)))).below (box_below (o := objB 0 (.slice none 0 0) (.slice none 0 0)))
  have l1 : w.heap.size ≤ w.heap.size + 1 := by omega
  have l2 := B2.size
  unfold objB at E1 E2 B2 h2 l2
  generalize (w.alloc (.cells #[.int .i64 c, .slice sa sn sc, .slice ba bn bc] 49)).alloc (.cells #[.int .i64 0, .slice none 0 0, .slice none 0 0] 49) = w2 at *
  obtain ⟨y0, y1, y2, yf⟩ := obj_cells E1
  generalize w.heap.size + 1 = b2 at *
  obtain ⟨b1, hb1⟩ : ∃ b, b = w.heap.size := ⟨_, rfl⟩
  rw [← hb1] at E1 y0 y1 y2 ⊢
  clear hb1
  refine wp_region_inv' (fun A D a w' => ∃ v3 v4 v5 v6 v7 v8 v9 v10 v11 a7 a10 n7 c7 n10 c10, a = (((((((((A.put (some 3) v3).put (some 4) v4).put (some 5) v5).put (some 6) v6).put (some 7) v7).put (some 8) v8).put (some 9) v9).put (some 10) v10).put (some 11) v11) ∧ (D 9 ∨ Below w2.heap.size w2 w') ∧ (D 0 → v3 = .pointer (some ⟨b1, 0, none⟩)) ∧ (D 1 → v4 = .int .i64 c) ∧ (D 2 → v5 = .pointer (some ⟨b1, 1, none⟩)) ∧ (D 3 → v6 = .slice sa sn sc) ∧ (D 4 → v7 = .slice a7 n7 c7) ∧ (D 5 → v8 = .pointer (some ⟨b1, 2, none⟩)) ∧ (D 6 → v9 = .slice ba bn bc) ∧ (D 7 → v10 = .slice a10 n10 c10) ∧ (D 8 → v11 = .agg #[.int .i64 c, .slice a7 n7 c7, .slice a10 n10 c10]) ∧ (D 9 → w'.heap[b2]? = some (objB c (.slice a7 n7 c7) (.slice a10 n10 c10)) ∧ OwnV w' w2.heap.size (.slice a7 n7 c7) vs ∧ OwnB w' w2.heap.size (.slice a10 n10 c10) bs ∧ Below b2 w2 w') ∧ (D 4 → ¬ D 9 → OwnV w' w2.heap.size (.slice a7 n7 c7) vs) ∧ (D 7 → ¬ D 9 → OwnB w' w2.heap.size (.slice a10 n10 c10) bs)) (by kernel_rfl) (by kernel_rfl) ?mono ?start ?step ?done
  case mono =>
    rintro D D' a w' hD ⟨v3, v4, v5, v6, v7, v8, v9, v10, v11, a7, a10, n7, c7, n10, c10, ha, hB, e0, e1, e2, e3, e4, e5, e6, e7, e8, hq, hv, hw⟩
    exact ⟨v3, v4, v5, v6, v7, v8, v9, v10, v11, a7, a10, n7, c7, n10, c10, ha, hB.imp_left (hD 9).1, fun h => e0 ((hD 0).2 h), fun h => e1 ((hD 1).2 h), fun h => e2 ((hD 2).2 h), fun h => e3 ((hD 3).2 h), fun h => e4 ((hD 4).2 h), fun h => e5 ((hD 5).2 h), fun h => e6 ((hD 6).2 h), fun h => e7 ((hD 7).2 h), fun h => e8 ((hD 8).2 h), fun h => hq ((hD 9).2 h), fun h h' => hv ((hD 4).2 h) (fun k => h' ((hD 9).1 k)), fun h h' => hw ((hD 7).2 h) (fun k => h' ((hD 9).1 k))⟩
  case start => exact ⟨undef, undef, undef, undef, undef, undef, undef, undef, undef, none, none, 0, 0, 0, 0, by kernel_rfl, .inr ((Below.refl _ _).drew), fun h => h.elim, fun h => h.elim, fun h => h.elim, fun h => h.elim, fun h => h.elim, fun h => h.elim, fun h => h.elim, fun h => h.elim, fun h => h.elim, fun h => h.elim, fun h _ => h.elim, fun h _ => h.elim⟩
  case step =>
    intro i o ho D a w' hI hn hcl hd
    obtain ⟨v3, v4, v5, v6, v7, v8, v9, v10, v11, a7, a10, n7, c7, n10, c10, ha, hB, e0, e1, e2, e3, e4, e5, e6, e7, e8, hq, hv, hw⟩ := hI
    match i, ho with
    | 0, ho =>
      cases Option.some.inj ho
      have ev : a.tmps[1]?.getD undef = .pointer (some ⟨b1, 0, none⟩) := by rw [ha]; kernel_rfl
      refine wp_value (w' := w') (v := .pointer (some ⟨b1, 0, none⟩)) (by simp [execOp, ev, go_sem]) ?_
      exact ⟨(.pointer (some ⟨b1, 0, none⟩)), v4, v5, v6, v7, v8, v9, v10, v11, a7, a10, n7, c7, n10, c10, by rw [ha]; kernel_rfl, hB.imp_left .inr, fun _ => rfl, fun h => e1 (h.resolve_left (by decide)), fun h => e2 (h.resolve_left (by decide)), fun h => e3 (h.resolve_left (by decide)), fun h => e4 (h.resolve_left (by decide)), fun h => e5 (h.resolve_left (by decide)), fun h => e6 (h.resolve_left (by decide)), fun h => e7 (h.resolve_left (by decide)), fun h => e8 (h.resolve_left (by decide)), fun h => hq (h.resolve_left (by decide)), fun h h' => hv (h.resolve_left (by decide)) (fun k => h' (.inr k)), fun h h' => hw (h.resolve_left (by decide)) (fun k => h' (.inr k))⟩
    | 1, ho =>
      cases Option.some.inj ho
      have ev : a.tmps[3]?.getD undef = .pointer (some ⟨b1, 0, none⟩) := by rw [ha, e0 (hd ⟨0, .data⟩ (by simp) rfl)]; kernel_rfl
      have hc := ((hB.resolve_left (fun h => (fun h => hn (hcl 8 _ rfl h ⟨1, .data⟩ (by simp) rfl)) (hcl 9 _ rfl h ⟨8, .data⟩ (by simp) rfl))).cell (p := ⟨b1, 0, none⟩) (lt_of_block E1)).trans y0
      refine wp_value (w' := w') (v := .int .i64 c) (by simp [execOp, ev, go_sem, hc]) ?_
      exact ⟨v3, (.int .i64 c), v5, v6, v7, v8, v9, v10, v11, a7, a10, n7, c7, n10, c10, by rw [ha]; kernel_rfl, hB.imp_left .inr, fun h => e0 (h.resolve_left (by decide)), fun _ => rfl, fun h => e2 (h.resolve_left (by decide)), fun h => e3 (h.resolve_left (by decide)), fun h => e4 (h.resolve_left (by decide)), fun h => e5 (h.resolve_left (by decide)), fun h => e6 (h.resolve_left (by decide)), fun h => e7 (h.resolve_left (by decide)), fun h => e8 (h.resolve_left (by decide)), fun h => hq (h.resolve_left (by decide)), fun h h' => hv (h.resolve_left (by decide)) (fun k => h' (.inr k)), fun h h' => hw (h.resolve_left (by decide)) (fun k => h' (.inr k))⟩
    | 2, ho =>
      cases Option.some.inj ho
      have ev : a.tmps[1]?.getD undef = .pointer (some ⟨b1, 0, none⟩) := by rw [ha]; kernel_rfl
      refine wp_value (w' := w') (v := .pointer (some ⟨b1, 1, none⟩)) (by simp [execOp, ev, go_sem]) ?_
      exact ⟨v3, v4, (.pointer (some ⟨b1, 1, none⟩)), v6, v7, v8, v9, v10, v11, a7, a10, n7, c7, n10, c10, by rw [ha]; kernel_rfl, hB.imp_left .inr, fun h => e0 (h.resolve_left (by decide)), fun h => e1 (h.resolve_left (by decide)), fun _ => rfl, fun h => e3 (h.resolve_left (by decide)), fun h => e4 (h.resolve_left (by decide)), fun h => e5 (h.resolve_left (by decide)), fun h => e6 (h.resolve_left (by decide)), fun h => e7 (h.resolve_left (by decide)), fun h => e8 (h.resolve_left (by decide)), fun h => hq (h.resolve_left (by decide)), fun h h' => hv (h.resolve_left (by decide)) (fun k => h' (.inr k)), fun h h' => hw (h.resolve_left (by decide)) (fun k => h' (.inr k))⟩
    | 3, ho =>
      cases Option.some.inj ho
      have ev : a.tmps[5]?.getD undef = .pointer (some ⟨b1, 1, none⟩) := by rw [ha, e2 (hd ⟨2, .data⟩ (by simp) rfl)]; kernel_rfl
      have hc := ((hB.resolve_left (fun h => (fun h => (fun h => hn (hcl 4 _ rfl h ⟨3, .data⟩ (by simp) rfl)) (hcl 8 _ rfl h ⟨4, .data⟩ (by simp) rfl)) (hcl 9 _ rfl h ⟨8, .data⟩ (by simp) rfl))).cell (p := ⟨b1, 1, none⟩) (lt_of_block E1)).trans y1
      refine wp_value (w' := w') (v := .slice sa sn sc) (by simp [execOp, ev, go_sem, hc]) ?_
      exact ⟨v3, v4, v5, (.slice sa sn sc), v7, v8, v9, v10, v11, a7, a10, n7, c7, n10, c10, by rw [ha]; kernel_rfl, hB.imp_left .inr, fun h => e0 (h.resolve_left (by decide)), fun h => e1 (h.resolve_left (by decide)), fun h => e2 (h.resolve_left (by decide)), fun _ => rfl, fun h => e4 (h.resolve_left (by decide)), fun h => e5 (h.resolve_left (by decide)), fun h => e6 (h.resolve_left (by decide)), fun h => e7 (h.resolve_left (by decide)), fun h => e8 (h.resolve_left (by decide)), fun h => hq (h.resolve_left (by decide)), fun h h' => hv (h.resolve_left (by decide)) (fun k => h' (.inr k)), fun h h' => hw (h.resolve_left (by decide)) (fun k => h' (.inr k))⟩
    | 4, ho =>
      cases Option.some.inj ho
      have ev : a.tmps[6]?.getD undef = .slice sa sn sc := by rw [ha, e3 (hd ⟨3, .data⟩ (by simp) rfl)]; kernel_rfl
      have hb4 := hB.resolve_left (fun h => (fun h => hn (hcl 8 _ rfl h ⟨4, .data⟩ (by simp) rfl)) (hcl 9 _ rfl h ⟨8, .data⟩ (by simp) rfl))
      refine wp_enter (f := 62) (args := #[.slice sa sn sc]) (by simp [execOp, ev, go_sem]) ?_
      refine (cloneV_any (h2.v.below hb4) hs).mono ?_
      rintro e w6 ⟨v', rfl, OV, HB⟩
      refine ⟨_, rfl, ?_⟩
      obtain ⟨a7', n7', c7', rfl⟩ : ∃ a n c, v' = .slice a n c := by obtain ⟨a, c, e, _⟩ := OV.2; exact ⟨_, _, _, e⟩
      exact ⟨v3, v4, v5, v6, (.slice a7' n7' c7'), v8, v9, v10, v11, a7', a10, n7', c7', n10, c10, by rw [ha]; kernel_rfl, hB.imp .inr (fun h => below_size h h.size HB), fun h => e0 (h.resolve_left (by decide)), fun h => e1 (h.resolve_left (by decide)), fun h => e2 (h.resolve_left (by decide)), fun h => e3 (h.resolve_left (by decide)), fun _ => rfl, fun h => e5 (h.resolve_left (by decide)), fun h => e6 (h.resolve_left (by decide)), fun h => e7 (h.resolve_left (by decide)), fun h => absurd (h.resolve_left (by decide)) (fun h => hn (hcl 8 _ rfl h ⟨4, .data⟩ (by simp) rfl)), fun h => absurd (h.resolve_left (by decide)) (fun h => (fun h => hn (hcl 8 _ rfl h ⟨4, .data⟩ (by simp) rfl)) (hcl 9 _ rfl h ⟨8, .data⟩ (by simp) rfl)), fun _ _ => ownV_of (own_mono OV.1 hb4.size) h.v.wf, fun h h' => (hw (h.resolve_left (by decide)) (fun k => h' (.inr k))).below HB⟩
    | 5, ho =>
      cases Option.some.inj ho
      have ev : a.tmps[1]?.getD undef = .pointer (some ⟨b1, 0, none⟩) := by rw [ha]; kernel_rfl
      refine wp_value (w' := w') (v := .pointer (some ⟨b1, 2, none⟩)) (by simp [execOp, ev, go_sem]) ?_
      exact ⟨v3, v4, v5, v6, v7, (.pointer (some ⟨b1, 2, none⟩)), v9, v10, v11, a7, a10, n7, c7, n10, c10, by rw [ha]; kernel_rfl, hB.imp_left .inr, fun h => e0 (h.resolve_left (by decide)), fun h => e1 (h.resolve_left (by decide)), fun h => e2 (h.resolve_left (by decide)), fun h => e3 (h.resolve_left (by decide)), fun h => e4 (h.resolve_left (by decide)), fun _ => rfl, fun h => e6 (h.resolve_left (by decide)), fun h => e7 (h.resolve_left (by decide)), fun h => e8 (h.resolve_left (by decide)), fun h => hq (h.resolve_left (by decide)), fun h h' => hv (h.resolve_left (by decide)) (fun k => h' (.inr k)), fun h h' => hw (h.resolve_left (by decide)) (fun k => h' (.inr k))⟩
    | 6, ho =>
      cases Option.some.inj ho
      have ev : a.tmps[8]?.getD undef = .pointer (some ⟨b1, 2, none⟩) := by rw [ha, e5 (hd ⟨5, .data⟩ (by simp) rfl)]; kernel_rfl
      have hc := ((hB.resolve_left (fun h => (fun h => (fun h => hn (hcl 7 _ rfl h ⟨6, .data⟩ (by simp) rfl)) (hcl 8 _ rfl h ⟨7, .data⟩ (by simp) rfl)) (hcl 9 _ rfl h ⟨8, .data⟩ (by simp) rfl))).cell (p := ⟨b1, 2, none⟩) (lt_of_block E1)).trans y2
      refine wp_value (w' := w') (v := .slice ba bn bc) (by simp [execOp, ev, go_sem, hc]) ?_
      exact ⟨v3, v4, v5, v6, v7, v8, (.slice ba bn bc), v10, v11, a7, a10, n7, c7, n10, c10, by rw [ha]; kernel_rfl, hB.imp_left .inr, fun h => e0 (h.resolve_left (by decide)), fun h => e1 (h.resolve_left (by decide)), fun h => e2 (h.resolve_left (by decide)), fun h => e3 (h.resolve_left (by decide)), fun h => e4 (h.resolve_left (by decide)), fun h => e5 (h.resolve_left (by decide)), fun _ => rfl, fun h => e7 (h.resolve_left (by decide)), fun h => e8 (h.resolve_left (by decide)), fun h => hq (h.resolve_left (by decide)), fun h h' => hv (h.resolve_left (by decide)) (fun k => h' (.inr k)), fun h h' => hw (h.resolve_left (by decide)) (fun k => h' (.inr k))⟩
    | 7, ho =>
      cases Option.some.inj ho
      have ev : a.tmps[9]?.getD undef = .slice ba bn bc := by rw [ha, e6 (hd ⟨6, .data⟩ (by simp) rfl)]; kernel_rfl
      have hb4 := hB.resolve_left (fun h => (fun h => hn (hcl 8 _ rfl h ⟨7, .data⟩ (by simp) rfl)) (hcl 9 _ rfl h ⟨8, .data⟩ (by simp) rfl))
      refine wp_enter (f := 63) (args := #[.slice ba bn bc]) (by simp [execOp, ev, go_sem]) ?_
      refine (clone_any (h2.b.below hb4) hb).mono ?_
      rintro e w6 ⟨v', rfl, OB, HB⟩
      refine ⟨_, rfl, ?_⟩
      obtain ⟨a10', n10', c10', rfl⟩ : ∃ a n c, v' = .slice a n c := by obtain ⟨_, a, c, e, _⟩ := OB; exact ⟨_, _, _, e⟩
      exact ⟨v3, v4, v5, v6, v7, v8, v9, (.slice a10' n10' c10'), v11, a7, a10', n7, c7, n10', c10', by rw [ha]; kernel_rfl, hB.imp .inr (fun h => below_size h h.size HB), fun h => e0 (h.resolve_left (by decide)), fun h => e1 (h.resolve_left (by decide)), fun h => e2 (h.resolve_left (by decide)), fun h => e3 (h.resolve_left (by decide)), fun h => e4 (h.resolve_left (by decide)), fun h => e5 (h.resolve_left (by decide)), fun h => e6 (h.resolve_left (by decide)), fun _ => rfl, fun h => absurd (h.resolve_left (by decide)) (fun h => hn (hcl 8 _ rfl h ⟨7, .data⟩ (by simp) rfl)), fun h => absurd (h.resolve_left (by decide)) (fun h => (fun h => hn (hcl 8 _ rfl h ⟨7, .data⟩ (by simp) rfl)) (hcl 9 _ rfl h ⟨8, .data⟩ (by simp) rfl)), fun h h' => (hv (h.resolve_left (by decide)) (fun k => h' (.inr k))).below HB, fun _ _ => ownB_of (own_mono OB.1 hb4.size) hbyte⟩
    | 8, ho =>
      cases Option.some.inj ho
      have ev : a.tmps[4]?.getD undef = .int .i64 c := by rw [ha, e1 (hd ⟨1, .data⟩ (by simp) rfl)]; kernel_rfl
      have ev' : a.tmps[7]?.getD undef = .slice a7 n7 c7 := by rw [ha, e4 (hd ⟨4, .data⟩ (by simp) rfl)]; kernel_rfl
      have ev'' : a.tmps[10]?.getD undef = .slice a10 n10 c10 := by rw [ha, e7 (hd ⟨7, .data⟩ (by simp) rfl)]; kernel_rfl
      refine wp_value (w' := w') (v := .agg #[.int .i64 c, .slice a7 n7 c7, .slice a10 n10 c10]) (by simp [execOp, ev, ev', ev'', go_sem]) ?_
      exact ⟨v3, v4, v5, v6, v7, v8, v9, v10, (.agg #[.int .i64 c, .slice a7 n7 c7, .slice a10 n10 c10]), a7, a10, n7, c7, n10, c10, by rw [ha]; kernel_rfl, hB.imp_left .inr, fun h => e0 (h.resolve_left (by decide)), fun h => e1 (h.resolve_left (by decide)), fun h => e2 (h.resolve_left (by decide)), fun h => e3 (h.resolve_left (by decide)), fun h => e4 (h.resolve_left (by decide)), fun h => e5 (h.resolve_left (by decide)), fun h => e6 (h.resolve_left (by decide)), fun h => e7 (h.resolve_left (by decide)), fun _ => rfl, fun h => hq (h.resolve_left (by decide)), fun h h' => hv (h.resolve_left (by decide)) (fun k => h' (.inr k)), fun h h' => hw (h.resolve_left (by decide)) (fun k => h' (.inr k))⟩
    | 9, ho =>
      cases Option.some.inj ho
      have ev : a.tmps[2]?.getD undef = .pointer (some ⟨b2, 0, none⟩) := by rw [ha]; kernel_rfl
      have ev' : a.tmps[11]?.getD undef = .agg #[.int .i64 c, .slice a7 n7 c7, .slice a10 n10 c10] := by rw [ha, e8 (hd ⟨8, .data⟩ (by simp) rfl)]; kernel_rfl
      have hb4 := hB.resolve_left hn
      have E4 := (hb4.block b2 (lt_of_block E2)).trans E2
      obtain ⟨z0, z1, z2, zf⟩ := obj_cells E4
      have zf0 := zf 0
      have zf1 := zf 1
      have zf2 := zf 2
      have OV4 := hv (hcl 8 _ rfl (hd ⟨8, .data⟩ (by simp) rfl) ⟨4, .data⟩ (by simp) rfl) hn
      have OB4 := hw (hcl 8 _ rfl (hd ⟨8, .data⟩ (by simp) rfl) ⟨7, .data⟩ (by simp) rfl) hn
      refine wp_skip (w' := stO w' b2 c (.slice a7 n7 c7) (.slice a10 n10 c10)) (by simp [execOp, Act.eval, ev, ev', go_sem, z0, z1, z2, zf0, zf1, zf2, stO]) ?_
      exact ⟨v3, v4, v5, v6, v7, v8, v9, v10, v11, a7, a10, n7, c7, n10, c10, by rw [ha]; kernel_rfl, .inl (.inl rfl), fun h => e0 (h.resolve_left (by decide)), fun h => e1 (h.resolve_left (by decide)), fun h => e2 (h.resolve_left (by decide)), fun h => e3 (h.resolve_left (by decide)), fun h => e4 (h.resolve_left (by decide)), fun h => e5 (h.resolve_left (by decide)), fun h => e6 (h.resolve_left (by decide)), fun h => e7 (h.resolve_left (by decide)), fun h => e8 (h.resolve_left (by decide)), fun _ => ⟨stO_blk E4 _ _ _, ownV_of (stO_own OV4.1 E4 (by decide) _ _ _) h.v.wf, ownB_of (stO_own OB4.1 E4 (by decide) _ _ _) h.b.byte, stO_below (hb4.mono (Nat.le_of_lt (lt_of_block E2))) (Nat.le_refl _) _ _ _⟩, fun _ h' => absurd (.inl rfl) h', fun _ h' => absurd (.inl rfl) h'⟩
    | i + 10, ho => simp at ho
  case done =>
    rintro D a w' ⟨v3, v4, v5, v6, v7, v8, v9, v10, v11, a7, a10, n7, c7, n10, c10, ha, hB, e0, e1, e2, e3, e4, e5, e6, e7, e8, hq, hv, hw⟩ hall
    obtain ⟨E9, OV9, OB9, B9⟩ := hq (hall 9 (by decide))
    obtain rfl := e0 (hall 0 (by decide))
    obtain rfl := e1 (hall 1 (by decide))
    obtain rfl := e2 (hall 2 (by decide))
    obtain rfl := e3 (hall 3 (by decide))
    obtain rfl := e4 (hall 4 (by decide))
    obtain rfl := e5 (hall 5 (by decide))
    obtain rfl := e6 (hall 6 (by decide))
    obtain rfl := e7 (hall 7 (by decide))
    obtain rfl := e8 (hall 8 (by decide))
    clear hB hq hv hw hall e0 e1 e2 e3 e4 e5 e6 e7 e8
    rw [ha]
    clear ha
    simp only [Act.put, List.setIfInBounds_toArray, List.set_cons_zero, List.set_cons_succ]
    go_wp2_with fail
    obtain ⟨z0, z1, z2, zf⟩ := obj_cells E9
    exact bodyPost_ret (v := .agg #[.int .i64 c, .slice a7 n7 c7, .slice a10 n10 c10]) (results_cell Try.results47 rfl (load49 z0 z1 z2)) rfl ⟨_, _, rfl, ownV_of (own_mono OV9.1 l2) h.v.wf, ownB_of (own_mono OB9.1 l2) h.b.byte, B2.trans (B9.mono l1)⟩
end Go.Proofs.Ytajdelinfkodbaa
