/- Slices of bytes in memory, append of bytes, and the document's Lent, Kept and Spoil. -/
import Derived.Test.YtoghhjljmhdioaaArr
import Derived.Laws.AppendOwnNone
import Derived.Lib.AppendZeros
import Derived.Lib.LazyBuf
import Derived.Deep.QuietTactic
import Derived.BigQuiet
import Derived.Lib.SlBytesConst
import Derived.Lib.SlBytesRow
namespace Go.Proofs.Ytoghhjljmhdioaa
set_option maxRecDepth 100000
open Go.RowKit

/-- What is known of a slice of bytes that is only read. -/
structure IsB (w : World) (a : Option Addr) (len cap : Nat) (xs : List Int) : Prop where
  size : xs.length = len
  room : len ≤ cap
  most : cap ≤ maxLen
  nil0 : a = none → cap = 0
  byte : ∀ x ∈ xs, 0 ≤ x ∧ x < 256
  cells : 0 < len → ∃ b off, a = some ⟨b, off, none⟩ ∧ ∀ i, i < len → w.cell? ⟨b, off + i, none⟩ = some (.int .u8 (xs.getD i 0))

theorem byteAt (xs : List Int) (hb : ∀ x ∈ xs, 0 ≤ x ∧ x < 256) (k : Nat) (hk : k < xs.length) : ∃ c : Nat, c < 256 ∧ xs.getD k 0 = (c : Int) ∧ Hid (xs.take (k + 1) = xs.take k ++ [(c : Int)]) := by
  have h := hb xs[k] (List.getElem_mem hk)
  refine ⟨xs[k].toNat, by omega, ?_, ?_⟩
  · simp [List.getD, hk]; omega
  · show xs.take (k + 1) = _
    rw [List.take_succ_eq_append_getElem hk]
    congr 2
    omega


theorem IsB.cellsAt {w : World} {a : Option Addr} {len cap : Nat} {xs : List Int} (h : IsB w a len cap xs) :
    ∀ ad, a = some ad → ∀ j u, (xs.map (Value.int .u8))[j]? = some u → w.cell? (ad.add j) = some u := by
  intro ad ha j u hj
  have hjl : j < xs.length := by
    have := (List.getElem?_eq_some_iff.1 hj).1
    simpa using this
  obtain ⟨b, off, hb, hc⟩ := h.cells (by have := h.size; omega)
  rw [ha] at hb
  obtain rfl := Option.some.inj hb
  have e := hc j (by have := h.size; omega)
  rw [show (⟨b, off, none⟩ : Addr).add j = ⟨b, off + j, none⟩ by simp [Addr.add], e]
  rw [List.getElem?_map, List.getElem?_eq_getElem hjl] at hj
  simp at hj
  rw [← hj]
  simp [hjl]
theorem IsB.one {w : World} {a : Option Addr} {len cap : Nat} {xs : List Int} (_ : IsB w a len cap xs) : ∀ u ∈ xs.map (Value.int .u8), u.oneCell' = true := by
  intro u hu
  obtain ⟨x, _, rfl⟩ := List.mem_map.1 hu
  rfl
theorem IsB.nil' {w : World} {a : Option Addr} {len cap : Nat} {xs : List Int} (h : IsB w a len cap xs) : a = none → len = 0 ∧ cap = 0 := by
  intro ha
  have := h.nil0 ha
  have := h.room
  omega
theorem IsB.lenMap {w : World} {a : Option Addr} {len cap : Nat} {xs : List Int} (h : IsB w a len cap xs) : (xs.map (Value.int .u8)).length = len * 1 := by
  rw [List.length_map, h.size, Nat.mul_one]
/-- Old memory that is as it was. -/
theorem IsB.below {w w' : World} {a : Option Addr} {len cap : Nat} {xs : List Int} (h : IsB w a len cap xs) (hb : Below w.heap.size w w') : IsB w' a len cap xs :=
  ⟨h.size, h.room, h.most, h.nil0, h.byte, fun h0 => by
    obtain ⟨b, off, ha, hc⟩ := h.cells h0
    exact ⟨b, off, ha, fun i hi => (hb.cell (block_lt_of_cell (hc i hi))).trans (hc i hi)⟩⟩
theorem IsB.block {w : World} {len cap b off : Nat} {sp : Option Nat} {xs : List Int} (h : IsB w (some ⟨b, off, sp⟩) len cap xs) (h0 : 0 < len) : b < w.heap.size := by
  obtain ⟨b', off', ha, hc⟩ := h.cells h0
  have := block_lt_of_cell (hc 0 h0)
  simp at ha
  simp at this
  omega
/-- What the call owns is such a slice. -/
theorem isB_own {w : World} {base n cap : Nat} {g : Nat} {xs : List Int} (h : w.ownsRow base 5 1 (.slice (some ⟨g, 0, none⟩) n cap) n (xs.map (Value.int .u8))) (hb : ∀ x ∈ xs, 0 ≤ x ∧ x < 256) : IsB w (some ⟨g, 0, none⟩) n cap xs := by
  have hl : xs.length = n := by have := h.1; simpa using this
  have h2 := h.2
  refine ⟨hl, ?_, ?_, by simp, hb, fun _ => ⟨g, 0, rfl, fun i hi => ?_⟩⟩
  · rcases h2 with ⟨h', _⟩ | ⟨g', cap', cur, h', _, _, hnc, _⟩
    · simp at h'
    · simp at h'; omega
  · rcases h2 with ⟨h', _⟩ | ⟨g', cap', cur, h', _, _, _, hcm, _⟩
    · simp at h'
    · simp at h'; omega
  · have := h.cellAt i (by omega)
    rw [Nat.zero_add, this, List.getElem?_map, List.getElem?_eq_getElem (by omega)]
    simp [show i < xs.length by omega]
/-- string(b). -/
theorem IsB.str {w : World} {a : Option Addr} {len cap : Nat} {xs : List Int} (h : IsB w a len cap xs) : (convert 85 9 (.slice a len cap)).run Try.prog w = .ok (.string (strOfNums xs)) w := by
  cases a with
  | none =>
    obtain ⟨rfl, rfl⟩ := h.nil' rfl
    obtain rfl : xs = [] := List.eq_nil_of_length_eq_zero h.size
    exact run_convert_bytes_nil w 85 5 Try.underlying85 Try.underlying5 0 0 9 Try.underlying9
  | some ad =>
    by_cases h0 : 0 < len
    · obtain ⟨b, off, hb, hc⟩ := h.cells h0
      obtain rfl := Option.some.inj hb
      exact run_convert_bytes_arg w 85 5 Try.underlying85 Try.underlying5 b off len cap xs h.size hc 9 Try.underlying9
    · obtain rfl : len = 0 := by omega
      obtain rfl : xs = [] := List.eq_nil_of_length_eq_zero h.size
      rw [run_convert_bytes_string w 85 9 5 _ 0 cap Try.underlying85 Try.underlying5 Try.underlying9]
      simp [Conv.bytesToString]
      have hl : (loadCells ad 0).run Try.prog w = .ok #[] w := run_loadCells_list (P := Try.prog) w ad [] (fun j v hj => by simp at hj)
      rw [hl]
      simp [strOfNums]
      rfl
/-- A literal's bytes. -/
theorem isB_lit (w : World) (C : Array Value) (xs : List Int) (n : Nat) (hn : xs.length = n) (hm : n ≤ maxLen) (hC : C = (xs.map (Value.int .u8)).toArray) (hb : ∀ x ∈ xs, 0 ≤ x ∧ x < 256) (mk : Nat × Nat) :
    IsB (w.alloc (.cells C 5 mk)) (some ⟨w.heap.size, 0, none⟩) n n xs := by
  refine ⟨hn, Nat.le_refl _, hm, by simp, hb, fun _ => ⟨_, _, rfl, fun i hi => ?_⟩⟩
  rw [World.cell?_alloc_mark, hC]
  simp [show i < xs.length by omega]

theorem own_shape {w : World} {base n : Nat} {v : Value} {xs : List Value} (h : w.ownsRow base 5 1 v n xs) (h0 : 0 < n) : ∃ g cap, v = .slice (some ⟨g, 0, none⟩) n cap ∧ base ≤ g := by
  rcases h.2 with ⟨_, h1⟩ | ⟨g, cap, cur, hv, hg, _⟩
  · omega
  · exact ⟨g, cap, hv, hg⟩

theorem growBy_le (need : Nat) : ∀ (f c : Nat), c ≤ need + (need + 768) / 4 → Builtin.growBy need f c ≤ need + (need + 768) / 4
  | 0, c, h => by unfold Builtin.growBy; exact h
  | f + 1, c, h => by
    unfold Builtin.growBy
    split
    · exact h
    · exact growBy_le need f (c + (c + 768) / 4) (by omega)
theorem nextcap_le (need old : Nat) (h : old < need) : Builtin.nextslicecap need old ≤ need + (need + 768) / 4 + 512 := by
  unfold Builtin.nextslicecap
  split
  · omega
  · split
    · omega
    · have := growBy_le need 4 old (by omega)
      omega

theorem app_some {ops : Array Oper} {rest : List Oper} {o : Oper} {a : Act} {Q : Exit → Act → World → Prop} (w : World) (hgd : o.guard = none) (s x : Operand)
    (ho : o.op = .call { callee := .builtin .append, args := #[s, x], argTypes := #[85, 85] })
    (base g n cap0 : Nat) (xs : List Int) (hs : a.eval s = .slice (some ⟨g, 0, none⟩) n cap0) (hown : w.ownsRow base 5 1 (.slice (some ⟨g, 0, none⟩) n cap0) n (xs.map (Value.int .u8)))
    (ad : Addr) (len cap : Nat) (ys : List Int) (hx : a.eval x = .slice (some ad) len cap) (hB : IsB w (some ad) len cap ys) (h47 : n + len ≤ 140737488500000) (hbase : base ≤ w.heap.size)
    (h : ∀ v' w', w'.ownsRow base 5 1 v' (n + len) ((xs ++ ys).map (Value.int .u8)) → Below base w w' → wpList Try.prog ops Q rest (a.put o.dst v') w') : wpList Try.prog ops Q (o :: rest) a w := by
  obtain ⟨i0, hi, hz0, hz1, hz2⟩ := info_parts Try.info5
  have hbg : base ≤ g := (hown.lt g rfl).1
  by_cases hroom : n + len ≤ cap0
  · refine wpList_append_fits w hgd s x 85 ho base 5 i0 1 Try.underlying85 hi hz1 g n cap0 _ hs hown ad len cap (ys.map (Value.int .u8)) hx hB.lenMap (hB.cellsAt ad rfl) hB.one hroom ?_
    intro w' hown' hgrow
    rw [← List.map_append] at hown'
    exact h _ w' hown' ((Below.refl _ _).grown hgrow hbase (by simpa using hbg))
  · have hr := run_append_grow (P := Try.prog) w 85 o.type 5 i0 (.int .u8 0) Try.underlying85 hi hz0 ⟨g, 0, none⟩ n cap0 (xs.map (Value.int .u8)) (by rw [hz1]; exact hown.1) (hown.cells (g := g) rfl) ad len cap (ys.map (Value.int .u8)) (by rw [hz1]; exact hB.lenMap) (hB.cellsAt ad rfl) (by omega) (by omega)
      (by have := nextcap_le (n + len) cap0 (by omega); rw [hz2]; omega)
    refine Lib.wpList_append_run w hgd s x 85 85 ho _ _ hs hx _ _ hr ?_
    have hge := grownCap_ge w (n + len) cap0 5
    have hcm : grownCap w (n + len) cap0 5 ≤ maxLen := grownCap_le_maxLen w (n + len) cap0 5 (by unfold maxLen; omega)
    have hl1 : (xs.map (Value.int .u8)).length = n := by simpa using hown.1
    have hl2 : (ys.map (Value.int .u8)).length = len := by simpa using hB.lenMap
    refine h _ _ ⟨?_, .inr ⟨w.heap.size, _, _, rfl, hbase, heap_alloc_new w.drew _, hge, hcm, ?_, ?_⟩⟩ ((Below.refl _ _).drew.alloc hbase _)
    · rw [List.map_append, List.length_append, hl1, hl2, Nat.mul_one]
    · simp only [Array.size_append, List.size_toArray, size_zeroCells, hl1, hl2]
      show n + len + (grownCap w (n + len) cap0 5 - (n + len)) * 1 = _
      omega
    · rw [Array.toList_append, Array.toList_append, List.map_append]
      simp only [Nat.mul_one]
      exact List.take_left' (by rw [List.length_append]; omega)

theorem app_bytes {ops : Array Oper} {rest : List Oper} {o : Oper} {a : Act} {Q : Exit → Act → World → Prop} (w : World) (hgd : o.guard = none) (s x : Operand)
    (ho : o.op = .call { callee := .builtin .append, args := #[s, x], argTypes := #[85, 85] })
    (base : Nat) (v : Value) (n : Nat) (xs : List Int) (hs : a.eval s = v) (hown : w.ownsRow base 5 1 v n (xs.map (Value.int .u8)))
    (ab : Option Addr) (len cap : Nat) (ys : List Int) (hx : a.eval x = .slice ab len cap) (hB : IsB w ab len cap ys) (h47 : n + len ≤ 140737488500000) (h47' : len ≤ 140737488355328) (hbase : base ≤ w.heap.size)
    (h : ∀ v' w', w'.ownsRow base 5 1 v' (n + len) ((xs ++ ys).map (Value.int .u8)) → Below base w w' → wpList Try.prog ops Q rest (a.put o.dst v') w') : wpList Try.prog ops Q (o :: rest) a w := by
  obtain ⟨i0, hi, hz0, hz1, hz2⟩ := info_parts Try.info5
  cases ab with
  | none =>
    obtain ⟨rfl, rfl⟩ := hB.nil' rfl
    obtain rfl : ys = [] := List.eq_nil_of_length_eq_zero hB.size
    refine wpList_append_own_none hgd s x 85 ho base 5 i0 1 Try.underlying85 hi v n _ hs hown hx ?_
    exact h v w (by simpa using hown) (Below.refl _ _)
  | some ad =>
    have hown0 := hown
    rcases hown.2 with ⟨rfl, rfl⟩ | ⟨g, cap0, cur, rfl, _⟩
    · refine wpList_append_own w hgd s x 85 ho base 5 i0 (.int .u8 0) 1 1 Try.underlying85 hi hz0 hz1 hz2 rfl (by decide) _ 0 _ hs hown0 ad len cap (ys.map (Value.int .u8)) hx hB.lenMap (hB.cellsAt ad rfl) hB.one (by unfold maxLen; omega) (by omega) hbase ?_
      intro v' w' hown' hgrow _
      rw [← List.map_append] at hown'
      exact h v' w' hown' ((Below.refl _ _).grown hgrow hbase (fun j hj => (hown0.lt j hj).1))
    · exact app_some w hgd s x ho base g n cap0 xs hs hown0 ad len cap ys hx hB h47 hbase h
/-- What stands behind bytes that are lent. -/
def pad : List Int := [165, 165, 165, 165, 165, 165, 165, 165]

theorem append_bytes (xs ys : List Int) (h1 : ∀ x ∈ xs, 0 ≤ x ∧ x < 256) (h2 : ∀ x ∈ ys, 0 ≤ x ∧ x < 256) : ∀ x ∈ xs ++ ys, 0 ≤ x ∧ x < 256 := by
  intro x hx
  rcases List.mem_append.1 hx with hx | hx
  · exact h1 x hx
  · exact h2 x hx

theorem IsB.drewN {w : World} {a : Option Addr} {len cap : Nat} {xs : List Int} (h : IsB w a len cap xs) (k : Nat) : IsB (w.drewN k) a len cap xs :=
  h.below (below_drewN (Below.refl _ _) k)
/-- The first bytes of a slice. -/
theorem IsB.front {w : World} {a : Option Addr} {len cap : Nat} {xs ys : List Int} (h : IsB w a (len + ys.length) cap (xs ++ ys)) (hl : xs.length = len) : IsB w a len cap xs := by
  refine ⟨hl, by have := h.room; omega, h.most, h.nil0, fun x hx => h.byte x (List.mem_append_left _ hx), fun h0 => ?_⟩
  obtain ⟨b, off, ha, hc⟩ := h.cells (by omega)
  refine ⟨b, off, ha, fun i hi => ?_⟩
  rw [hc i (by omega)]
  simp [List.getElem?_append_left (show i < xs.length by omega)]

theorem str_pad (xs : List Int) : strOfNums (xs ++ pad) = strOfNums xs ++ ⟨#[165, 165, 165, 165, 165, 165, 165, 165]⟩ := by
  unfold strOfNums
  rw [List.map_append]
  rfl

/-- A slice of bytes of the call's own, nil where there are none. -/
def OwnB (w : World) (base : Nat) (v : Value) (xs : List Int) : Prop :=
  w.ownsRow base 5 1 v xs.length (xs.map (Value.int .u8)) ∧ ∃ a cap, v = .slice a xs.length cap ∧ IsB w a xs.length cap xs

theorem ownB_of {w : World} {base n : Nat} {v : Value} {xs : List Int} (h : w.ownsRow base 5 1 v n (xs.map (Value.int .u8))) (hb : ∀ x ∈ xs, 0 ≤ x ∧ x < 256) : OwnB w base v xs := by
  have hl : xs.length = n := by have := h.1; simpa using this
  subst hl
  refine ⟨h, ?_⟩
  rcases h.2 with ⟨rfl, h0⟩ | ⟨g, cap, cur, rfl, _⟩
  · have : xs = [] := List.eq_nil_of_length_eq_zero h0
    subst this
    exact ⟨none, 0, rfl, ⟨rfl, Nat.le_refl _, by decide, fun _ => rfl, by simp, fun h => absurd h (by decide)⟩⟩
  · exact ⟨_, cap, rfl, isB_own h hb⟩

theorem below_size {B : Nat} {w w1 w2 : World} (h1 : Below B w w1) (hB : B ≤ w.heap.size) (h2 : Below w1.heap.size w1 w2) : Below B w w2 :=
  h1.trans (h2.mono (Nat.le_trans hB h1.size))

theorem own_below {w w' : World} {base e m n : Nat} {v : Value} {xs : List Value} (h : w.ownsRow base e m v n xs) (hb : Below w.heap.size w w') : w'.ownsRow base e m v n xs := by
  obtain ⟨h1, h2⟩ := h
  refine ⟨h1, ?_⟩
  rcases h2 with h2 | ⟨g, cap, cur, hv, hg, hh, h3⟩
  · exact .inl h2
  · exact .inr ⟨g, cap, cur, hv, hg, (hb.block g (lt_of_block hh)).trans hh, h3⟩
theorem OwnB.below {w w' : World} {base : Nat} {v : Value} {xs : List Int} (h : OwnB w base v xs) (hb : Below w.heap.size w w') : OwnB w' base v xs :=
  ⟨own_below h.1 hb, by obtain ⟨_, a, cap, hv, hB⟩ := h; exact ⟨a, cap, hv, hB.below hb⟩⟩

end Go.Proofs.Ytoghhjljmhdioaa
