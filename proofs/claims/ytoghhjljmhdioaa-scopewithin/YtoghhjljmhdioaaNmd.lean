/- The walk in memory; what a name is that none of the units has; whether a Temp is an argument. -/
import Derived.Test.YtoghhjljmhdioaaChn
import Derived.StillTailTactics
import Derived.Test.YtoghhjljmhdioaaArgu
import Derived.Test.YtoghhjljmhdioaaNda
import Derived.Test.YtoghhjljmhdioaaSnd
namespace Go.Proofs.Ytoghhjljmhdioaa
open Go.RowKit
set_option maxRecDepth 100000
/-- The same, of a name that nothing may be: its kind is said all the same. -/
def outV (x : Option (Int × Nat × Nat)) : Value := match x with
  | some (k, d, i) => .tuple #[usV [] 0 k (d : Int) (i : Int) false, .bool true]
  | none => .tuple #[usV [] 0 5 0 0 false, .bool false]
theorem Try.results68 : Try.f68.results = #[.cell 4 29, .tmp 5] := by kernel_rfl
theorem wk_cells {w : World} {p : Nat} {v0 v1 v2 : Value} (h : w.heap[p]? = some (.cells #[v0, v1, v2] 47)) : w.cell? ⟨p, 0, none⟩ = some v0 ∧ w.cell? ⟨p, 1, none⟩ = some v1 ∧ w.cell? ⟨p, 2, none⟩ = some v2 ∧ ∀ j, w.frozen? ⟨p, j, none⟩ = false := by
  refine ⟨?_, ?_, ?_, fun j => ?_⟩ <;> simp [World.cell?, World.frozen?, h]
def put29 (w : World) (g : Nat) (p : Int) (s : ByteArray) (k d i : Int) (b : Bool) : World := (((((w.setCell ⟨g, 0, none⟩ (.int .i64 p)).setCell ⟨g, 1, none⟩ (.string s)).setCell ⟨g, 2, none⟩ (.int .i64 k)).setCell ⟨g, 3, none⟩ (.int .i64 d)).setCell ⟨g, 4, none⟩ (.int .i64 i)).setCell ⟨g, 5, none⟩ (.bool b)
theorem St.th {a : Nat} {w w' w'' : World} (h : St a w w') (g : St a w' w'') : St a w w'' := ⟨g.1.trans h.1, g.2.trans h.2, g.3.trans h.3, g.size.trans h.size, fun b hb => (g.block b hb).trans (h.block b hb)⟩
theorem put29_st (w : World) (g : Nat) (p : Int) (s : ByteArray) (k d i : Int) (b : Bool) : St g w (put29 w g p s k d i b) := by
  unfold put29
  exact (((((St.cell _ g 0 _).th (St.cell _ g 1 _)).th (St.cell _ g 2 _)).th (St.cell _ g 3 _)).th (St.cell _ g 4 _)).th (St.cell _ g 5 _)
theorem put29_blk {w : World} {g : Nat} {p' k' d' i' : Int} {s' : ByteArray} {b' : Bool} (h : w.heap[g]? = some (usB p' s' k' d' i' b')) (p : Int) (s : ByteArray) (k d i : Int) (b : Bool) : (put29 w g p s k d i b).heap[g]? = some (usB p s k d i b) := by
  unfold usB at h ⊢
  unfold put29
  have e0 := heap_setCell_same w g 0 _ _ (.int .i64 p) h
  have e1 := heap_setCell_same _ g 1 _ _ (.string s) e0
  have e2 := heap_setCell_same _ g 2 _ _ (.int .i64 k) e1
  have e3 := heap_setCell_same _ g 3 _ _ (.int .i64 d) e2
  have e4 := heap_setCell_same _ g 4 _ _ (.int .i64 i) e3
  have e5 := heap_setCell_same _ g 5 _ _ (.bool b) e4
  rw [e5]
  simp
/-- What a region leaves that writes a use, as two facts. -/
theorem put29_all {w w' : World} {g : Nat} {p' k' d' i' : Int} {s' : ByteArray} {b' : Bool} (h : w.heap[g]? = some (usB p' s' k' d' i' b')) (p : Int) (s : ByteArray) (k d i : Int) (b : Bool) (e : w' = put29 w g p s k d i b) : w'.heap[g]? = some (usB p s k d i b) ∧ St g w w' := by
  subst e
  exact ⟨put29_blk h p s k d i b, put29_st w g p s k d i b⟩
set_option maxHeartbeats 4000000 in
theorem outside_any {A : Nat → Prop} (p : Nat) (sl : List (List Int)) (t : List Int) (w : World) {sa : Option Addr} {sc : Nat} {v1 v2 : Value} (hp : w.heap[p]? = some (.cells #[.slice sa sl.length sc, v1, v2] 47)) (s : SlF A w sa sl.length sc (sl.map strV)) (hs : BytL sl) (hb : ∀ x ∈ t, 0 ≤ x ∧ x < 256) :
    Calls Try.prog 68 #[.pointer (some ⟨p, 0, none⟩), .string (strOfNums t)] w fun e w' => e = .returned (outV (outR sl t)) ∧ Below w.heap.size w w' := by
  have hi : ∀ i, idxR sl t = some i → outR sl t = some (4, 0, i) := fun i h => by unfold outR; rw [h]
  have hn : idxR sl t = none → outR sl t = if upR t then some (5, 0, 0) else none := fun h => by unfold outR; rw [h]
  go_enter Try.func68, Try.ntmps68
  go_wp2_with (refine al29 _ rfl rfl ?_)
  intro g w1 E1 hg B1
  have ep := (B1.block p (lt_of_block hp)).trans hp
  have s1 : SlF A w1 sa sl.length sc (sl.map strV) := s.imp fun b hb hA => ⟨hA, B1.block b hb⟩
  obtain ⟨z0, z1, z2, _⟩ := wk_cells ep
  go_wp2_with fail
  refine (index_any s1 hs hb).mono ?_
  rintro e w' ⟨rfl, rfl⟩
  cases hx : idxR sl t with
  | some i =>
    have e1 : ¬ idxI sl t < 0 := by rw [idxI_pos hx]; omega
    have e2 : idxI sl t ≥ 0 := by rw [idxI_pos hx]; omega
    have ei : idxI sl t = (i : Int) := idxI_pos hx
    rw [ei] at e1 e2 ⊢
    have ho := hi i hx
    clear hx ei hi hn
    go_wp2_with (refine st29 _ rfl _ _ rfl rfl _ _ _ _ _ _ _ rfl rfl E1 ?_)
    intro w2 E2 S2
    go_wp2_with fail
    exact bodyPost_ret (results_ct Try.results68 rfl (load29 E2) rfl) rfl ⟨by rw [ho]; rfl, B1.trans (S2.below hg)⟩
  | none =>
    have ei : idxI sl t = -1 := idxI_neg hx
    have ho := hn hx
    rw [ei]
    clear hx ei hi hn
    cases t with
    | nil =>
      have ho2 : outR sl [] = none := ho
      clear ho
      obtain ⟨y0, y1, y2, y3, y4, y5, yf⟩ := us_cells E1
      have yf0 := yf 0
      have en : (strOfNums []).toList.isEmpty = true := by rw [Lib.strOfNums_toList]; rfl
      go_wp2_with fail
      go_region
      go_wp2_with fail
      obtain ⟨W9, hW⟩ : ∃ W9, W9 = put29 w' g 0 ⟨#[]⟩ 5 0 0 false := ⟨_, rfl⟩
      obtain ⟨E9, S9⟩ := put29_all E1 _ _ _ _ _ _ hW
      unfold put29 at hW
      rw [← hW]
      exact bodyPost_ret (results_ct Try.results68 rfl (load29 (w := W9.drew) E9) rfl) rfl ⟨by rw [ho2]; rfl, (B1.trans (S9.below hg)).drew⟩
    | cons c t =>
      have hc : 0 ≤ c ∧ c < 256 := hb c (List.mem_cons_self ..)
      have hu : upR (c :: t) = (decide (65 ≤ c) && decide (c ≤ 90)) := rfl
      rw [hu] at ho
      obtain ⟨y0, y1, y2, y3, y4, y5, yf⟩ := us_cells E1
      have yf0 := yf 0
      have hz : 0 < (strOfNums (c :: t)).size := by rw [strOfNums_size, List.length_cons]; omega
      have hv : (((strOfNums (c :: t))[0]'hz).toNat : Int) = c := str_at (c :: t) hb 0 (by rw [List.length_cons]; omega) hz
      have hne : (strOfNums (c :: t)).toList.isEmpty = false := by rw [Lib.strOfNums_toList]; rfl
      have hne2 : ¬ (strOfNums (c :: t)).toList = [] := by rw [Lib.strOfNums_toList]; simp [Lib.bytesOf]
      generalize strOfNums (c :: t) = s0 at *
      clear hu hs hb
      by_cases h1 : 65 ≤ c
      · have e1 : decide (65 ≤ c) = true := decide_eq_true h1
        by_cases h2 : c ≤ 90
        · have ho2 : outR sl (c :: t) = some (5, 0, 0) := by rw [ho, e1, decide_eq_true h2]; rfl
          have e2 : decide (c ≤ 90) = true := decide_eq_true h2
          clear ho
          go_wp2_with fail
          go_region
          go_wp2_with fail
          obtain ⟨W9, hW⟩ : ∃ W9, W9 = put29 w' g 0 ⟨#[]⟩ 5 0 0 false := ⟨_, rfl⟩
          obtain ⟨E9, S9⟩ := put29_all E1 _ _ _ _ _ _ hW
          unfold put29 at hW
          rw [← hW]
          exact bodyPost_ret (results_ct Try.results68 rfl (load29 (w := W9.drew) E9) rfl) rfl ⟨by rw [ho2]; rfl, (B1.trans (S9.below hg)).drew⟩
        · have ho2 : outR sl (c :: t) = none := by rw [ho, e1, decide_eq_false h2]; rfl
          have e2 : decide (c ≤ 90) = false := decide_eq_false h2
          clear ho
          go_wp2_with fail
          go_region
          go_wp2_with fail
          obtain ⟨W9, hW⟩ : ∃ W9, W9 = put29 w' g 0 ⟨#[]⟩ 5 0 0 false := ⟨_, rfl⟩
          obtain ⟨E9, S9⟩ := put29_all E1 _ _ _ _ _ _ hW
          unfold put29 at hW
          rw [← hW]
          exact bodyPost_ret (results_ct Try.results68 rfl (load29 (w := W9.drew) E9) rfl) rfl ⟨by rw [ho2]; rfl, (B1.trans (S9.below hg)).drew⟩
      · have ho2 : outR sl (c :: t) = none := by rw [ho, decide_eq_false h1]; rfl
        have e1 : decide (65 ≤ c) = false := decide_eq_false h1
        clear ho
        go_wp2_with fail
        go_region
        go_wp2_with fail
        obtain ⟨W9, hW⟩ : ∃ W9, W9 = put29 w' g 0 ⟨#[]⟩ 5 0 0 false := ⟨_, rfl⟩
        obtain ⟨E9, S9⟩ := put29_all E1 _ _ _ _ _ _ hW
        unfold put29 at hW
        rw [← hW]
        exact bodyPost_ret (results_ct Try.results68 rfl (load29 (w := W9.drew) E9) rfl) rfl ⟨by rw [ho2]; rfl, (B1.trans (S9.below hg)).drew⟩
end Go.Proofs.Ytoghhjljmhdioaa
namespace Go.Proofs.Ytoghhjljmhdioaa
open Go.RowKit
set_option maxRecDepth 100000
/-- The cells of a use. -/
def usC (u : Us) : List Value := [.int .i64 (u.pos : Int), .string (strOfNums u.name), .int .i64 u.kind, .int .i64 (u.depth : Int), .int .i64 (u.index : Int), .bool u.write]
def usF : List Us → List Value
  | [] => []
  | u :: r => usC u ++ usF r
theorem usF_app : ∀ (a b : List Us), usF (a ++ b) = usF a ++ usF b
  | [], b => rfl
  | u :: r, b => by simp only [List.cons_append, usF, usF_app r b, List.append_assoc]
theorem usF_one (u : Us) : usF [u] = usC u := rfl
theorem usF_len : ∀ (l : List Us), (usF l).length = l.length * 6
  | [] => rfl
  | u :: r => by
    simp only [usF, List.length_append, usF_len r, List.length_cons]
    show 6 + r.length * 6 = _
    omega
/-- A set of blocks is kept. -/
structure Kw (A : Nat → Prop) (w w' : World) : Prop where
  os : w'.os = w.os
  tape : w'.tape = w.tape
  output : w'.output = w.output
  size : w.heap.size ≤ w'.heap.size
  block : ∀ b, b < w.heap.size → A b → w'.heap[b]? = w.heap[b]?
theorem Kw.refl (A : Nat → Prop) (w : World) : Kw A w w := ⟨rfl, rfl, rfl, Nat.le_refl _, fun _ _ _ => rfl⟩
theorem Kw.trans {A : Nat → Prop} {w w1 w2 : World} (h : Kw A w w1) (k : Kw A w1 w2) : Kw A w w2 :=
  ⟨k.os.trans h.os, k.tape.trans h.tape, k.output.trans h.output, Nat.le_trans h.size k.size, fun b hb hA => (k.block b (Nat.lt_of_lt_of_le hb h.size) hA).trans (h.block b hb hA)⟩
theorem Kw.of_below {A : Nat → Prop} {w w' : World} (h : Below w.heap.size w w') : Kw A w w' := ⟨h.os, h.tape, h.output, h.size, fun b hb _ => h.block b hb⟩
theorem Kw.of_st {A : Nat → Prop} {g : Nat} {w w' : World} (h : St g w w') (hg : ¬ A g) : Kw A w w' := ⟨h.os, h.tape, h.output, Nat.le_of_eq h.size.symm, fun b _ hb => h.block b (fun e => hg (e ▸ hb))⟩
theorem Kw.of_kp {A : Nat → Prop} {v : Value} {w w' : World} (h : Kp v w w') (hv : ∀ g, v.ownBlock = some g → ¬ A g) : Kw A w w' := ⟨h.os, h.tape, h.output, h.size, fun b hb hA => h.block b hb (fun e => hv b e hA)⟩
theorem Kw.mono {A A' : Nat → Prop} {w w' : World} (h : Kw A w w') (hA : ∀ b, A' b → A b) : Kw A' w w' := ⟨h.os, h.tape, h.output, h.size, fun b hb hb' => h.block b hb (hA b hb')⟩
theorem Kw.below {A : Nat → Prop} {w w' : World} {B : Nat} (h : Kw A w w') (hB : B ≤ w.heap.size) (hA : ∀ b, b < B → A b) : Below B w w' := ⟨h.os, h.tape, h.output, h.size, fun b hb => h.block b (Nat.lt_of_lt_of_le hb hB) (hA b hb)⟩
theorem SlF.kw {A : Nat → Prop} {w w' : World} {a : Option Addr} {n c : Nat} {fl : List Value} (s : SlF A w a n c fl) (k : Kw A w w') : SlF A w' a n c fl := s.imp fun b hb hA => ⟨hA, k.block b hb hA⟩
theorem NdV.kw {A : Nat → Prop} {w w' : World} {x : Nd} {v : Value} (h : NdV A w x v) (k : Kw A w w') : NdV A w' x v := h.imp (fun b hb hA => ⟨hA, k.block b hb hA⟩) x v
theorem KsF.kw {A : Nat → Prop} {w w' : World} {xs : List Nd} {fl : List Value} (h : KsF A w xs fl) (k : Kw A w w') : KsF A w' xs fl := h.imp (fun b hb hA => ⟨hA, k.block b hb hA⟩) xs fl
theorem Chn.kw {A : Nat → Prop} {w w' : World} {E : Ev} {q : Option Nat} (h : Chn A w E q) (k : Kw A w w') : Chn A w' E q := h.imp fun b hb hA => ⟨hA, k.block b hb hA⟩
/-- The walk at a block: uses in a row of its own; nothing that is read lies in either. -/
structure Wk (B : Nat) (A : Nat → Prop) (p : Nat) (sa : Option Addr) (sc : Nat) (sl : List (List Int)) (w : World) (us : List Us) (f : Nat) : Prop where
  blk : ∃ va vc, w.heap[p]? = some (.cells #[.slice sa sl.length sc, .slice va us.length vc, .int .i64 (f : Int)] 47) ∧ w.ownsRow B 29 6 (.slice va us.length vc) us.length (usF us) ∧ ∀ g, (Value.slice va us.length vc).ownBlock = some g → ¬ A g ∧ g ≠ p
  lt : ∀ b, A b → b < w.heap.size
  np : ¬ A p
  le : B ≤ w.heap.size
  slots : SlF A w sa sl.length sc (sl.map strV)
theorem own_lt {B : Nat} {w : World} {v : Value} {n : Nat} {fl : List Value} (h : w.ownsRow B 29 6 v n fl) {g : Nat} (hg : v.ownBlock = some g) : g < w.heap.size := by
  rcases h.2 with ⟨rfl, _⟩ | ⟨g', cap', cur', rfl, hb', hh, _⟩
  · simp [Value.ownBlock] at hg
  · simp [Value.ownBlock] at hg
    subst hg
    exact lt_of_block hh
theorem Wk.plt {B : Nat} {A : Nat → Prop} {p : Nat} {sa : Option Addr} {sc : Nat} {sl : List (List Int)} {w : World} {us : List Us} {f : Nat} (h : Wk B A p sa sc sl w us f) : p < w.heap.size := by
  obtain ⟨va, vc, e, _⟩ := h.blk
  exact lt_of_block e
theorem ownU_keep {B : Nat} {w w' : World} {v : Value} {n : Nat} {fl : List Value} (h : w.ownsRow B 29 6 v n fl) (k : ∀ g, v.ownBlock = some g → w'.heap[g]? = w.heap[g]?) : w'.ownsRow B 29 6 v n fl := by
  refine ⟨h.1, ?_⟩
  rcases h.2 with h | ⟨g, cap, cur, e, hB, hg, rest⟩
  · exact .inl h
  · exact .inr ⟨g, cap, cur, e, hB, (k g (by rw [e]; rfl)).trans hg, rest⟩
/-- New blocks beside it. -/
theorem Wk.bel {B : Nat} {A : Nat → Prop} {p : Nat} {sa : Option Addr} {sc : Nat} {sl : List (List Int)} {w w' : World} {us : List Us} {f : Nat} (h : Wk B A p sa sc sl w us f) (k : Below w.heap.size w w') : Wk B A p sa sc sl w' us f := by
  obtain ⟨va, vc, e, o, ho⟩ := h.blk
  refine ⟨⟨va, vc, (k.block p (lt_of_block e)).trans e, ownU_keep o fun g hg => k.block g (own_lt o hg), ho⟩, fun b hb => Nat.lt_of_lt_of_le (h.lt b hb) k.size, h.np, Nat.le_trans h.le k.size, h.slots.imp fun b hb hA => ⟨hA, k.block b hb⟩⟩
/-- More that is read: a new block. -/
theorem Wk.more {B : Nat} {A : Nat → Prop} {p : Nat} {sa : Option Addr} {sc : Nat} {sl : List (List Int)} {w w' : World} {us : List Us} {f q : Nat} (h : Wk B A p sa sc sl w us f) (k : Below w.heap.size w w') (hq : w.heap.size ≤ q) (hq' : q < w'.heap.size) : Wk B (fun b => A b ∨ b = q) p sa sc sl w' us f := by
  have h' := h.bel k
  obtain ⟨va, vc, e, o, ho⟩ := h.blk
  have hp := lt_of_block e
  refine ⟨⟨va, vc, (k.block p hp).trans e, ownU_keep o fun g hg => k.block g (own_lt o hg), fun g hg => ⟨fun hA => hA.elim (ho g hg).1 (fun e => by have := own_lt o hg; omega), (ho g hg).2⟩⟩, fun b hb => hb.elim (h'.lt b) (fun e => e ▸ hq'), fun hA => hA.elim h.np (fun e => by omega), h'.le, h'.slots.imp fun b hb hA => ⟨.inl hA, rfl⟩⟩
/-- Less that is read. -/
theorem Wk.less {B : Nat} {A A' : Nat → Prop} {p : Nat} {sa : Option Addr} {sc : Nat} {sl : List (List Int)} {w : World} {us : List Us} {f : Nat} (h : Wk B A' p sa sc sl w us f) (hA : ∀ b, A b → A' b) (s : SlF A w sa sl.length sc (sl.map strV)) : Wk B A p sa sc sl w us f := by
  obtain ⟨va, vc, e, o, ho⟩ := h.blk
  exact ⟨⟨va, vc, e, o, fun g hg => ⟨fun h' => (ho g hg).1 (hA g h'), (ho g hg).2⟩⟩, fun b hb => h.lt b (hA b hb), fun h' => h.np (hA p h'), h.le, s⟩
/-- What a part, or some, leave. -/
def PtP (B : Nat) (A : Nat → Prop) (p : Nat) (sa : Option Addr) (sc : Nat) (sl : List (List Int)) (us : List Us) (f : Nat) (w : World) (r : Except Nat (List Us)) (e : Ending) (w' : World) : Prop :=
  Kw A w w' ∧ match r with
  | .ok l => e = .returned (.bool true) ∧ Wk B A p sa sc sl w' (us ++ l) f
  | .error q => e = .returned (.bool false) ∧ ∃ us', Wk B A p sa sc sl w' us' q
/-- One use more. -/
theorem info29u : (Try.prog.info? 29).map (fun i => (i.zero, i.size, i.bytes)) = some (some (.agg #[.int .i64 0, .string ⟨#[]⟩, .int .i64 0, .int .i64 0, .int .i64 0, .bool false]), 6, 56) := info29
theorem us_one (u : Us) : ∀ x ∈ usC u, x.oneCell' = true := by
  intro x hx
  simp only [usC, List.mem_cons, List.not_mem_nil, or_false] at hx
  rcases hx with rfl | rfl | rfl | rfl | rfl | rfl <;> rfl
theorem app_us (w : World) (ty : TypeId) {B : Nat} {v : Value} {us : List Us} (q1 : w.ownsRow B 29 6 v us.length (usF us)) {g : Nat} {u : Us} (hg : w.heap[g]? = some (usB (u.pos : Int) (strOfNums u.name) u.kind (u.depth : Int) (u.index : Int) u.write)) (hn : us.length ≤ 500000) (hB : B ≤ w.heap.size) :
    ∃ va vc w', (Builtin.append_ #[23, 23] ty #[v, .slice (some ⟨g, 0, none⟩) 1 1]).run Try.prog w = .ok (.slice va (us.length + 1) vc) w' ∧ w'.ownsRow B 29 6 (.slice va (us.length + 1) vc) (us.length + 1) (usF (us ++ [u])) ∧ Kp v w w' ∧ ∀ q, (Value.slice va (us.length + 1) vc).ownBlock = some q → v.ownBlock = some q ∨ w.heap.size ≤ q := by
  obtain ⟨i, hi, hz, hsize, hby⟩ := info_pts info29u
  obtain ⟨z0, z1, z2, z3, z4, z5, _⟩ := us_cells hg
  obtain ⟨v', w', hr, r1, r2, r3⟩ := app_gen w 23 ty 29 Try.underlying23 hi hz hsize hby rfl (by decide) (by decide) q1 ⟨g, 0, none⟩ 1 1 (usC u) rfl (fun j x hj => by
    rw [addrAdd, Nat.zero_add]
    match j, hj with
    | 0, hj => cases hj; exact z0
    | 1, hj => cases hj; exact z1
    | 2, hj => cases hj; exact z2
    | 3, hj => cases hj; exact z3
    | 4, hj => cases hj; exact z4
    | 5, hj => cases hj; exact z5
    | j + 6, hj => cases hj) (us_one u) (by omega) hB
  have hsh : ∃ va vc, v' = .slice va (us.length + 1) vc := by
    rcases r1.2 with ⟨rfl, h0⟩ | ⟨g', cap, cur, rfl, _⟩
    · exact ⟨none, 0, by rw [h0]⟩
    · exact ⟨_, _, rfl⟩
  obtain ⟨va, vc, rfl⟩ := hsh
  refine ⟨va, vc, w', hr, ?_, ⟨r2.os, r2.tape, r2.output, r2.size, fun b hb hne => r2.block b hb (fun e => hne e.symm)⟩, r3⟩
  rw [usF_app, usF_one]
  exact r1
theorem op23 (w : World) {o : Oper} {a : Act} {K : Act → World → Prop} {Q : Exit → Act → World → Prop} (s x : Operand) (ho : o.op = .call { callee := .builtin .append, args := #[s, x], argTypes := #[23, 23] }) {B : Nat} {v : Value} {us : List Us} {g : Nat} {u : Us} (hs : a.eval s = v) (hx : a.eval x = .slice (some ⟨g, 0, none⟩) 1 1) (q1 : w.ownsRow B 29 6 v us.length (usF us)) (hg : w.heap[g]? = some (usB (u.pos : Int) (strOfNums u.name) u.kind (u.depth : Int) (u.index : Int) u.write)) (hn : us.length ≤ 500000) (hB : B ≤ w.heap.size)
    (h : ∀ (va : Option Addr) (vc : Nat) w', w'.ownsRow B 29 6 (.slice va (us.length + 1) vc) (us.length + 1) (usF (us ++ [u])) → Kp v w w' → (∀ q, (Value.slice va (us.length + 1) vc).ownBlock = some q → v.ownBlock = some q ∨ w.heap.size ≤ q) → K (a.put o.dst (.slice va (us.length + 1) vc)) w') : o.wp Try.prog a w K Q := by
  obtain ⟨va, vc, w', hr, r1, r2, r3⟩ := app_us w o.type q1 hg hn hB
  exact Lib.wp_append_run w s x 23 23 ho _ _ hs hx _ w' hr (h va vc w' r1 r2 r3)
/-- Uses behind append, stored. -/
theorem Wk.put {B : Nat} {A : Nat → Prop} {p : Nat} {sa : Option Addr} {sc : Nat} {sl : List (List Int)} {w w' : World} {us l : List Us} {f n : Nat} (h : Wk B A p sa sc sl w us f) {v0 : Value} {va : Option Addr} {vc : Nat} (E : w'.heap[p]? = some (.cells #[.slice sa sl.length sc, v0, .int .i64 (f : Int)] 47)) (hn : n = l.length) (O : w'.ownsRow B 29 6 (.slice va n vc) n (usF l)) (K : Kw A w w') (ho : ∀ q, (Value.slice va n vc).ownBlock = some q → ¬ A q ∧ q ≠ p) :
    Wk B A p sa sc sl (w'.setCell ⟨p, 1, none⟩ (.slice va n vc)) l f ∧ Kw A w (w'.setCell ⟨p, 1, none⟩ (.slice va n vc)) := by
  subst hn
  have S := St.cell w' p 1 (.slice va l.length vc)
  have K' := K.trans (Kw.of_st S h.np)
  refine ⟨⟨⟨va, vc, ?_, ownU_keep O fun g hg => S.block g (ho g hg).2, ho⟩, fun b hb => Nat.lt_of_lt_of_le (h.lt b hb) K'.size, h.np, Nat.le_trans h.le K'.size, h.slots.kw K'⟩, K'⟩
  rw [heap_setCell_same w' p 1 _ _ _ E]
  simp
/-- A fault, stored. -/
theorem Wk.bad {B : Nat} {A : Nat → Prop} {p : Nat} {sa : Option Addr} {sc : Nat} {sl : List (List Int)} {w : World} {us : List Us} {f : Nat} (h : Wk B A p sa sc sl w us f) (q : Nat) :
    Wk B A p sa sc sl (w.setCell ⟨p, 2, none⟩ (.int .i64 (q : Int))) us q ∧ Kw A w (w.setCell ⟨p, 2, none⟩ (.int .i64 (q : Int))) := by
  have S := St.cell w p 2 (.int .i64 (q : Int))
  have K' := Kw.of_st (A := A) S h.np
  obtain ⟨va, vc, e, o, ho⟩ := h.blk
  refine ⟨⟨⟨va, vc, ?_, ownU_keep o fun g hg => S.block g (ho g hg).2, ho⟩, fun b hb => Nat.lt_of_lt_of_le (h.lt b hb) K'.size, h.np, Nat.le_trans h.le K'.size, h.slots.kw K'⟩, K'⟩
  rw [heap_setCell_same w p 2 _ _ _ e]
  simp
theorem wk3 {w : World} {p : Nat} {v0 v1 v2 : Value} (h : w.heap[p]? = some (.cells #[v0, v1, v2] 47)) : w.cell? ⟨p, 0, none⟩ = some v0 ∧ w.cell? ⟨p, 1, none⟩ = some v1 ∧ w.cell? ⟨p, 2, none⟩ = some v2 ∧ ∀ j, w.frozen? ⟨p, j, none⟩ = false := by
  refine ⟨?_, ?_, ?_, fun j => ?_⟩ <;> simp [World.cell?, World.frozen?, h]
set_option maxHeartbeats 1000000 in
theorem fail_any {B : Nat} {A : Nat → Prop} {p : Nat} {sa : Option Addr} {sc : Nat} {sl : List (List Int)} {w : World} {us : List Us} {f : Nat} (h : Wk B A p sa sc sl w us f) (q : Nat) :
    Calls Try.prog 21 #[.pointer (some ⟨p, 0, none⟩), .int .i64 (q : Int)] w fun e w' => e = .returned (.bool false) ∧ Wk B A p sa sc sl w' us q ∧ Kw A w w' := by
  obtain ⟨h1, K1⟩ := h.bad q
  obtain ⟨va, vc, e, _, _⟩ := h.blk
  obtain ⟨z0, z1, z2, zf⟩ := wk3 e
  have zf2 := zf 2
  clear e h
  go_enter Try.func21, Try.ntmps21
  go_wp2
  go_ret
  exact ⟨rfl, h1, K1⟩
end Go.Proofs.Ytoghhjljmhdioaa
namespace Go.Proofs.Ytoghhjljmhdioaa
open Go.RowKit
set_option maxRecDepth 100000
def nmdV (t : List Int) (p : Nat) (x : Option (Int × Nat × Nat)) : Value := match x with
  | some (k, d, i) => .tuple #[usV t (p : Int) k (d : Int) (i : Int) false, .bool true]
  | none => .tuple #[usV t (p : Int) 5 0 0 false, .bool false]
theorem Try.results57 : Try.f57.results = #[.cell 6 29, .tmp 7] := by kernel_rfl
/-- Two of its fields written. -/
theorem put2_all {w w' : World} {g : Nat} {p' k' d' i' : Int} {s' : ByteArray} {b' : Bool} (h : w.heap[g]? = some (usB p' s' k' d' i' b')) (p : Int) (s : ByteArray) (e : w' = (w.setCell ⟨g, 0, none⟩ (.int .i64 p)).setCell ⟨g, 1, none⟩ (.string s)) : w'.heap[g]? = some (usB p s k' d' i' b') ∧ St g w w' := by
  subst e
  unfold usB at h ⊢
  have e0 := heap_setCell_same w g 0 _ _ (.int .i64 p) h
  have e1 := heap_setCell_same _ g 1 _ _ (.string s) e0
  refine ⟨?_, (St.cell _ g 0 _).th (St.cell _ g 1 _)⟩
  rw [e1]
  simp
set_option maxHeartbeats 4000000 in
theorem namedU_any {A : Nat → Prop} (p : Nat) (sl : List (List Int)) (E : Ev) (q : Option Nat) (t : List Int) (ps : Nat) (w : World) {sa : Option Addr} {sc : Nat} {v1 v2 : Value} (hp : w.heap[p]? = some (.cells #[.slice sa sl.length sc, v1, v2] 47)) (s : SlF A w sa sl.length sc (sl.map strV)) (hs : BytL sl) (C : Chn A w E q) (hE : ∀ y ∈ E, BytL y.1) (hl : E.length ≤ 1000000) (k0 n0 : Int) (na : Option Addr) (nl nc : Nat) (ka : Option Addr) (kl kc : Nat) (hb : ∀ c ∈ t, 0 ≤ c ∧ c < 256) :
    Calls Try.prog 57 #[.pointer (some ⟨p, 0, none⟩), ptrO q, .agg #[.int .i64 k0, .string (strOfNums t), .int .i64 (ps : Int), .int .i64 n0, .slice na nl nc, .slice ka kl kc]] w fun e w' => e = .returned (nmdV t ps (namR sl E t)) ∧ Below w.heap.size w w' := by
  go_enter Try.func57, Try.ntmps57
  go_wp2_with (refine bx25 _ rfl _ rfl _ _ _ _ _ _ _ _ _ _ rfl ?_)
  intro n w1 E1 hn B1
  go_wp2_with (refine al29 _ rfl rfl ?_)
  intro r w2 E2 hr B2
  have B02 : Below w.heap.size w w2 := B1.trans (B2.mono B1.size)
  have En := (B2.block n (lt_of_block E1)).trans E1
  obtain ⟨z0, z1, z2, z3, z4, z5, _⟩ := nd_cells En
  go_wp2_with fail
  refine (fixed_any t _ hb).mono ?_
  rintro e w3 ⟨rfl, B3⟩
  have B : Below w.heap.size w w3 := B02.trans (B3.mono B02.size)
  replace En := (B3.block n (lt_of_block En)).trans En
  have Er := (B3.block r (lt_of_block E2)).trans E2
  have hrw : w.heap.size ≤ r := Nat.le_trans B1.size hr
  have hnr : n ≠ r := by have := lt_of_block E1; omega
  clear z0 z1 z2 z3 z4 z5 E2 E1 B1 B2 B02 B3
  cases hf : fixR t with
  | some y =>
    obtain ⟨k, i⟩ := y
    have hnm : namR sl E t = some (k, 0, i) := by unfold namR; rw [hf]
    clear hf
    simp only [Option.map_some, ansV]
    go_wp2_with (refine al29 _ rfl rfl ?_)
    intro g w4 E4 hg B4
    go_wp2_with (refine st29 _ rfl _ _ rfl rfl _ _ _ _ _ _ _ rfl rfl E4 ?_)
    intro w5 Eg S5
    have hng : n ≠ g := by have := lt_of_block En; omega
    have hrg : r ≠ g := by have := lt_of_block Er; omega
    replace En := (S5.block n hng).trans ((B4.block n (lt_of_block En)).trans En)
    replace Er := (S5.block r hrg).trans ((B4.block r (lt_of_block Er)).trans Er)
    have hgw : w.heap.size ≤ g := Nat.le_trans B.size hg
    replace B : Below w.heap.size w w5 := (B.trans (B4.mono B.size)).trans (S5.below hgw)
    clear E4 B4 S5 hg
    obtain ⟨z0, z1, z2, z3, z4, z5, _⟩ := nd_cells En
    obtain ⟨y0, y1, y2, y3, y4, y5, yf⟩ := us_cells Eg
    have yf0 := yf 0
    have yf1 := yf 1
    go_wp2_with fail
    go_region
    obtain ⟨W9, hW⟩ : ∃ W9, W9 = (w5.setCell ⟨g, 0, none⟩ (.int .i64 (ps : Int))).setCell ⟨g, 1, none⟩ (.string (strOfNums t)) := ⟨_, rfl⟩
    obtain ⟨E9, S9⟩ := put2_all Eg _ _ hW
    rw [← hW]
    clear hW
    have E9r := (S9.block r hrg).trans Er
    clear z0 z1 z2 z3 z4 z5 y0 y1 y2 y3 y4 y5 yf yf0 yf1
    obtain ⟨y0, y1, y2, y3, y4, y5, yf⟩ := us_cells (w := W9.drew) E9
    go_wp2_with (refine st29 _ rfl _ _ rfl rfl _ _ _ _ _ _ _ rfl rfl E9r ?_)
    intro W10 E10 S10
    go_wp2_with fail
    exact bodyPost_ret (results_ct Try.results57 rfl (load29 E10) rfl) rfl ⟨by rw [hnm]; rfl, ((B.trans (S9.below hgw)).drew).trans (S10.below hrw)⟩
  | none =>
    simp only [Option.map_none, ansV]
    go_wp2_with (refine al29 _ rfl rfl ?_)
    intro g w4 E4 hg B4
    go_wp2_with (refine st29 _ rfl _ _ rfl rfl _ _ _ _ _ _ _ rfl rfl E4 ?_)
    intro w5 Eg S5
    have hng : n ≠ g := by have := lt_of_block En; omega
    have hrg : r ≠ g := by have := lt_of_block Er; omega
    replace En := (S5.block n hng).trans ((B4.block n (lt_of_block En)).trans En)
    replace Er := (S5.block r hrg).trans ((B4.block r (lt_of_block Er)).trans Er)
    have hgw : w.heap.size ≤ g := Nat.le_trans B.size hg
    replace B : Below w.heap.size w w5 := (B.trans (B4.mono B.size)).trans (S5.below hgw)
    clear E4 B4 S5 hg
    obtain ⟨z0, z1, z2, z3, z4, z5, _⟩ := nd_cells En
    have C5 := C.below B
    go_wp2_with fail
    refine (temp_any E q t _ C5 hE hl hb).mono ?_
    rintro e w6 ⟨rfl, B6⟩
    replace En := (B6.block n (lt_of_block En)).trans En
    replace Er := (B6.block r (lt_of_block Er)).trans Er
    replace Eg := (B6.block g (lt_of_block Eg)).trans Eg
    replace B : Below w.heap.size w w6 := B.trans (B6.mono B.size)
    clear z0 z1 z2 z3 z4 z5 C5 B6
    cases ht : tmpR E t 0 with
    | some y =>
      obtain ⟨d, i⟩ := y
      have hnm : namR sl E t = some (3, d, i) := by unfold namR; rw [hf, ht]
      clear hf ht
      simp only [Option.map_some, ansV]
      go_wp2_with (refine st29 _ rfl _ _ rfl rfl _ _ _ _ _ _ _ rfl rfl Eg ?_)
      intro w7 Eg7 S7
      replace En := (S7.block n hng).trans En
      replace Er := (S7.block r hrg).trans Er
      replace B : Below w.heap.size w w7 := B.trans (S7.below hgw)
      clear Eg S7
      have Eg := Eg7
      clear Eg7
      obtain ⟨z0, z1, z2, z3, z4, z5, _⟩ := nd_cells En
      obtain ⟨y0, y1, y2, y3, y4, y5, yf⟩ := us_cells Eg
      have yf0 := yf 0
      have yf1 := yf 1
      go_wp2_with fail
      go_region
      obtain ⟨W9, hW⟩ : ∃ W9, W9 = (w7.setCell ⟨g, 0, none⟩ (.int .i64 (ps : Int))).setCell ⟨g, 1, none⟩ (.string (strOfNums t)) := ⟨_, rfl⟩
      obtain ⟨E9, S9⟩ := put2_all Eg _ _ hW
      rw [← hW]
      clear hW
      have E9r := (S9.block r hrg).trans Er
      clear z0 z1 z2 z3 z4 z5 y0 y1 y2 y3 y4 y5 yf yf0 yf1
      obtain ⟨y0, y1, y2, y3, y4, y5, yf⟩ := us_cells (w := W9.drew) E9
      go_wp2_with (refine st29 _ rfl _ _ rfl rfl _ _ _ _ _ _ _ rfl rfl E9r ?_)
      intro W10 E10 S10
      go_wp2_with fail
      exact bodyPost_ret (results_ct Try.results57 rfl (load29 E10) rfl) rfl ⟨by rw [hnm]; rfl, ((B.trans (S9.below hgw)).drew).trans (S10.below hrw)⟩
    | none =>
      simp only [Option.map_none, ansV]
      go_wp2_with (refine st29 _ rfl _ _ rfl rfl _ _ _ _ _ _ _ rfl rfl Eg ?_)
      intro w7 Eg7 S7
      replace En := (S7.block n hng).trans En
      replace Er := (S7.block r hrg).trans Er
      replace B : Below w.heap.size w w7 := B.trans (S7.below hgw)
      clear Eg S7
      have Eg := Eg7
      clear Eg7
      obtain ⟨z0, z1, z2, z3, z4, z5, _⟩ := nd_cells En
      have hp7 := (B.block p (lt_of_block hp)).trans hp
      have s7 : SlF A w7 sa sl.length sc (sl.map strV) := s.imp fun b hb hA => ⟨hA, B.block b hb⟩
      go_wp2_with fail
      refine (outside_any p sl t _ hp7 s7 hs hb).mono ?_
      rintro e w8 ⟨rfl, B8⟩
      replace En := (B8.block n (lt_of_block En)).trans En
      replace Er := (B8.block r (lt_of_block Er)).trans Er
      replace Eg := (B8.block g (lt_of_block Eg)).trans Eg
      replace B : Below w.heap.size w w8 := B.trans (B8.mono B.size)
      clear z0 z1 z2 z3 z4 z5 hp7 s7 B8
      cases ho : outR sl t with
      | some y =>
        obtain ⟨k, d, i⟩ := y
        have hnm : namR sl E t = some (k, d, i) := by unfold namR; rw [hf, ht]; exact ho
        clear hf ht ho
        simp only [outV]
        go_wp2_with (refine st29 _ rfl _ _ rfl rfl _ _ _ _ _ _ _ rfl rfl Eg ?_)
        intro w9 Eg9 S9
        replace En := (S9.block n hng).trans En
        replace Er := (S9.block r hrg).trans Er
        replace B : Below w.heap.size w w9 := B.trans (S9.below hgw)
        clear Eg S9
        have Eg := Eg9
        clear Eg9
        obtain ⟨z0, z1, z2, z3, z4, z5, _⟩ := nd_cells En
        obtain ⟨y0, y1, y2, y3, y4, y5, yf⟩ := us_cells Eg
        have yf0 := yf 0
        have yf1 := yf 1
        go_wp2_with fail
        go_region
        obtain ⟨W9, hW⟩ : ∃ W9, W9 = (w9.setCell ⟨g, 0, none⟩ (.int .i64 (ps : Int))).setCell ⟨g, 1, none⟩ (.string (strOfNums t)) := ⟨_, rfl⟩
        obtain ⟨E9, S9⟩ := put2_all Eg _ _ hW
        rw [← hW]
        clear hW
        have E9r := (S9.block r hrg).trans Er
        clear z0 z1 z2 z3 z4 z5 y0 y1 y2 y3 y4 y5 yf yf0 yf1
        obtain ⟨y0, y1, y2, y3, y4, y5, yf⟩ := us_cells (w := W9.drew) E9
        go_wp2_with (refine st29 _ rfl _ _ rfl rfl _ _ _ _ _ _ _ rfl rfl E9r ?_)
        intro W10 E10 S10
        go_wp2_with fail
        exact bodyPost_ret (results_ct Try.results57 rfl (load29 E10) rfl) rfl ⟨by rw [hnm]; rfl, ((B.trans (S9.below hgw)).drew).trans (S10.below hrw)⟩
      | none =>
        have hnm : namR sl E t = none := by unfold namR; rw [hf, ht]; exact ho
        clear hf ht ho
        simp only [outV]
        go_wp2_with (refine st29 _ rfl _ _ rfl rfl _ _ _ _ _ _ _ rfl rfl Eg ?_)
        intro w9 Eg9 S9
        replace En := (S9.block n hng).trans En
        replace Er := (S9.block r hrg).trans Er
        replace B : Below w.heap.size w w9 := B.trans (S9.below hgw)
        clear Eg S9
        have Eg := Eg9
        clear Eg9
        obtain ⟨z0, z1, z2, z3, z4, z5, _⟩ := nd_cells En
        obtain ⟨y0, y1, y2, y3, y4, y5, yf⟩ := us_cells Eg
        have yf0 := yf 0
        have yf1 := yf 1
        go_wp2_with fail
        go_region
        obtain ⟨W9, hW⟩ : ∃ W9, W9 = (w9.setCell ⟨g, 0, none⟩ (.int .i64 (ps : Int))).setCell ⟨g, 1, none⟩ (.string (strOfNums t)) := ⟨_, rfl⟩
        obtain ⟨E9, S9⟩ := put2_all Eg _ _ hW
        rw [← hW]
        clear hW
        have E9r := (S9.block r hrg).trans Er
        clear z0 z1 z2 z3 z4 z5 y0 y1 y2 y3 y4 y5 yf yf0 yf1
        obtain ⟨y0, y1, y2, y3, y4, y5, yf⟩ := us_cells (w := W9.drew) E9
        go_wp2_with (refine st29 _ rfl _ _ rfl rfl _ _ _ _ _ _ _ rfl rfl E9r ?_)
        intro W10 E10 S10
        go_wp2_with fail
        exact bodyPost_ret (results_ct Try.results57 rfl (load29 E10) rfl) rfl ⟨by rw [hnm]; rfl, ((B.trans (S9.below hgw)).drew).trans (S10.below hrw)⟩
end Go.Proofs.Ytoghhjljmhdioaa
