/- The writer: leaves, rows of one part, operands, messages. -/
import Derived.Test.YtncfmhlikmibaaaGreatDoorWri
import Derived.Test.YtncfmhlikmibaaaGreatDoorRxP
import Derived.Test.YtncfmhlikmibaaaGreatDoorBno
namespace Go.Proofs.YtncfmhlikmibaaaGreatDoor
open Go.RowKit
set_option maxRecDepth 100000
set_option maxHeartbeats 16000000
section
def Wr (q : Nat) (t : List Int) (w : World) : Prop := Lib.IsBuilderF 70 5 q q (t.map (Value.int .u8)) w
structure Wf (q : Nat) (w w' : World) : Prop where
 bel : Below q w w'
 oth : Lib.OthersKept 5 (some q) w w'
theorem Wf.refl (q : Nat) (w : World) : Wf q w w := ⟨Below.refl _ _, Lib.OthersKept.refl _ _ _⟩
variable {fl : List Value} {q : Nat} {w w' : World}
theorem Wf.trans {a b c : World} (h : Wf q a b) (k : Wf q b c) : Wf q a c := ⟨h.bel.trans k.bel, h.oth.trans k.oth⟩
theorem Wf.of_below (h : Below w.heap.size w w') (hq : q < w.heap.size) : Wf q w w' :=
 ⟨h.mono (by omega), fun k o hk _ _ => (h.block k (lt_of_block hk)).trans hk⟩
theorem Wf.row {g : Nat} {cs : Array Value} {e : TypeId} (h : Wf q w w') (hg : w.heap[g]? = some (.cells cs e)) (he : e ≠ 5) (hq : g ≠ q) : w'.heap[g]? = some (.cells cs e) :=
 h.oth g _ hg (by simpa using hq) (fun c fz => by simp [he])
theorem Wr.lt {t : List Int} (h : Wr q t w) : q < w.heap.size := by
 rcases h with h | h
 ·obtain ⟨_, v, hb, _⟩ := h; exact lt_of_block hb
 obtain ⟨_, v, hb, _⟩ := h; exact lt_of_block hb
theorem Znk {p : Value} {bs : List Value} (h : Lib.BuilderAtF 70 5 q q p bs w) (k : ∀ b, b < w.heap.size → w'.heap[b]? = w.heap[b]?) : Lib.BuilderAtF 70 5 q q p bs w' := by
 obtain ⟨hB, v, hbk, hown, hne⟩ := h
 refine ⟨hB, v, (k q (lt_of_block hbk)).trans hbk, ⟨hown.1, ?_⟩, hne⟩
 rcases hown.2 with h | ⟨g, cap, cur, fz, h1, h2, h3, h4⟩
 ·exact .inl h
 exact .inr ⟨g, cap, cur, fz, h1, h2, (k g (lt_of_block h3)).trans h3, h4⟩
theorem Wr.bel {t : List Int} (h : Wr q t w) (B : Below w.heap.size w w') : Wr q t w' :=
 h.elim (fun h => .inl (Znk h fun b hb => B.block b hb)) (fun h => .inr (Znk h fun b hb => B.block b hb))
def Nb (q : Nat) (w : World) (b : Nat) : Prop := b < q ∨ (b ≠ q ∧ ∃ cs, w.heap[b]? = some (.cells cs 25))
theorem Nb.wf {b : Nat} (h : Nb q w b) (k : Wf q w w') : Nb q w' b ∧ w'.heap[b]? = w.heap[b]? := by
 rcases h with h | ⟨h, cs, e⟩
 ·exact ⟨.inl h, k.bel.block b h⟩
 have := k.row e (by decide) h
 exact ⟨.inr ⟨h, cs, this⟩, this.trans e.symm⟩
theorem NdV.wf {x : Nd} {v : Value} (h : NdV (Nb q w) w x v) (k : Wf q w w') : NdV (Nb q w') w' x v :=
 h.imp (fun _ _ hb => hb.wf k) x v
theorem SlF.wf {a : Option Addr} {n c : Nat} (h : SlF (Nb q w) w a n c fl) (k : Wf q w w') : SlF (Nb q w') w' a n c fl :=
 h.imp (fun _ _ hb => hb.wf k)
theorem KsF.wf {xs : List Nd} (h : KsF (Nb q w) w xs fl) (k : Wf q w w') : KsF (Nb q w') w' xs fl :=
 h.imp (fun _ _ hb => hb.wf k) xs fl
theorem put_any (q g c : Nat) (ts : List (List Int)) (t : List Int) (w : World) (hW : Wr q t w) (hg : w.heap[g]? = some (.cells (ts.map Zcr).toArray 9)) (hgq : g ≠ q) (hb : ∀ u ∈ ts, ∀ x ∈ u, 0 ≤ x ∧ x < 256) (hl : t.length + ts.flatten.length ≤ 1000000000) (hn : ts.length ≤ 1000000) :
  Calls Tryz.prog 50 #[.pointer (some ⟨q, 0, none⟩), .slice (some ⟨g, 0, none⟩) ts.length c] w fun e w' => e = .returned (.tuple #[]) ∧ Wr q (t ++ ts.flatten) w' ∧ Wf q w w' := by
 go_enter Tryz.func50, Tryz.ntmps50
 go_wp2_with fail
 go_loopw [8] (fun v wr => ∃ (i : Nat), v = .int .i64 (i : Int) ∧ i ≤ ts.length ∧ Wr q (t ++ (ts.take i).flatten) wr ∧ Wf q w wr) (fun v _ => ts.length - (intOf v).toNat)
 case atStart => exact ⟨0, rfl, Nat.zero_le _, by simpa using hW, Wf.refl _ _⟩
 obtain ⟨i, rfl, hi, hWr, hF⟩ := hrel
 by_cases hp : i < ts.length
 ·have hltI : (i : Int) < (ts.length : Int) := by omega
  have hi0 : (0 : Int) ≤ (i : Int) := by omega
  have hw1 : IntKind.i64.wrap ((i : Int) + 1) = ((i + 1 : Nat) : Int) := by rw [IntKind.wrap_i64]; omega
  have hgr := hF.row hg (by decide) hgq
  obtain ⟨u, hu⟩ : ∃ u, ts[i] = u := ⟨_, rfl⟩
  have hc0 : wr.cell? ⟨g, i, none⟩ = some (.string (strOfNums u)) := by
   simp [World.cell?, hgr, hp, hu, Zcr]
  have hbu : ∀ x ∈ u, 0 ≤ x ∧ x < 256 := hb u (hu ▸ List.getElem_mem hp)
  have htk : (ts.take (i + 1)).flatten = (ts.take i).flatten ++ u := by
   rw [List.take_succ_eq_append_getElem hp, hu]; simp
  have Lh : (t ++ (ts.take i).flatten).length + u.length ≤ 1000000000 := by
   have h1 : ts.flatten = (ts.take (i + 1)).flatten ++ (ts.drop (i + 1)).flatten := by rw [← List.flatten_append, List.take_append_drop]
   have h2 := congrArg List.length h1
   rw [htk] at h2
   simp only [List.length_append] at h2 ⊢
   omega
  have hwr := hWr.lt
  go_wp2_with fail
  refine (Zgn q q _ (strOfNums u) wr hWr (by rw [strOfNums_size, List.length_map]; omega) (by omega)).mono ?_
  rintro e w1 ⟨rfl, h1, b1, k1⟩
  rw [Zkc u hbu, ← List.map_append, List.append_assoc, ← htk] at h1
  have hF1 := hF.trans ⟨b1, k1⟩
  clear hc0 hgr htk hWr
  go_wp2
  go_roundw
  case rel => exact ⟨i + 1, by go_num, hp, .inr h1, hF1⟩
  case measure => simp [intOf]; omega
 have hltI : ¬ (i : Int) < (ts.length : Int) := by omega
 obtain rfl : i = ts.length := by omega
 rw [List.take_length] at hWr
 go_wp2
 go_end0
 exact ⟨rfl, hWr, hF⟩
theorem part_any (q : Nat) {xs : List Nd} {ka : Option Addr} {kc : Nat} (i : Nat) (x : Nd) (hx : xs[i]? = some x) (hq : q < w.heap.size) (sl : SlF (Nb q w) w ka xs.length kc fl) (kf : KsF (Nb q w) w xs fl) :
  Calls Tryz.prog 87 #[.slice ka xs.length kc, .int .i64 (i : Int)] w fun e w' => ∃ v, e = .returned v ∧ NdV (Nb q w') w' x v ∧ Below w.heap.size w w' := by
 have hi : i < xs.length := (List.getElem?_eq_some_iff.1 hx).1
 have hfl := kf.len
 obtain ⟨b, off, rfl, hA, hc⟩ := sl.cells (by omega)
 obtain ⟨v0, v1, v2, v3, v4, v5, hN, e0, e1, e2, e3, e4, e5⟩ := kf.at_ i x hx
 obtain ⟨na, nc, la, lc, _, hv, _⟩ := hN.parts
 simp only [Value.agg.injEq, Array.mk.injEq, List.cons.injEq, and_true] at hv
 obtain ⟨rfl, rfl, rfl, rfl, rfl, rfl⟩ := hv
 have c0 := hc _ _ e0
 have c1 := hc _ _ e1
 have c2 := hc _ _ e2
 have c3 := hc _ _ e3
 have c4 := hc _ _ e4
 have c5 := hc _ _ e5
 simp only [← Nat.add_assoc] at c1 c2 c3 c4 c5
 have hltI : (i : Int) < (xs.length : Int) := by omega
 have hi0 : (0 : Int) ≤ (i : Int) := by omega
 have hm := sl.room
 go_enter Tryz.func87, Tryz.ntmps87
 go_wp2_with (refine Zdl _ rfl rfl ?_)
 intro q4 w1 E1 hq4 B1
 have tr : ∀ j u, w.cell? ⟨b, j, none⟩ = some u → w1.cell? ⟨b, j, none⟩ = some u := fun j u h => (World.cell?_of_block (a := ⟨b, j, none⟩) (B1.block b (block_lt_of_cell h))).trans h
 replace c0 := tr _ _ c0
 replace c1 := tr _ _ c1
 replace c2 := tr _ _ c2
 replace c3 := tr _ _ c3
 replace c4 := tr _ _ c4
 replace c5 := tr _ _ c5
 clear tr hc e0 e1 e2 e3 e4 e5
 go_wp2_with (refine Zar rfl rfl rfl rfl rfl E1 ?_)
 intro wz Ez Sz
 go_wp2
 have B2 : Below w.heap.size w wz := B1.trans (Sz.below hq4)
 exact bodyPost_ret (Zas (a := 4) (t := 25) (by rfl) (by rfl) (Zal Ez)) (by rfl) ⟨_, rfl, hN.wf (Wf.of_below B2 hq), B2⟩
def inB (x : Nd) (tight : Bool) : Bool := if x.kind = 6 ∨ x.kind = 8 then true else if x.kind ≠ 7 ∨ Zcx x.text = 0 then false else tight || !sgnL x.text
theorem Zii {A : Nat → Prop} {x : Nd} {v : Value} (hN : NdV A w x v) (hb : ∀ y ∈ x.text, 0 ≤ y ∧ y < 256) (tight : Bool) :
  Calls Tryz.prog 107 #[v, .bool tight] w fun e w' => e = .returned (.bool (inB x tight)) ∧ Below w.heap.size w w' := by
 obtain ⟨na, nc, la, lc, _, rfl, _, _, _, _, _, hlt⟩ := hN.parts
 have ha := fun w => Zdz x.text w hb (by omega)
 have hs := fun w => Zdr x.text w hb (by omega)
 have hB0 : Below w.heap.size w (w.alloc (.cells #[.int .i64 x.kind, .string (strOfNums x.text), .int .i64 (x.pos : Int), .int .i64 (x.n : Int), .slice na x.names.length nc, .slice la x.kids.length lc] 25)) := Zbc
 have E0 := Zc0 w (.cells #[.int .i64 x.kind, .string (strOfNums x.text), .int .i64 (x.pos : Int), .int .i64 (x.n : Int), .slice na x.names.length nc, .slice la x.kids.length lc] 25)
 obtain ⟨z0, z1, z2, z3, z4, z5, _⟩ := Zae E0
 unfold inB
 generalize Zcx x.text = n at *
 generalize sgnL x.text = sg at *
 by_cases h6 : x.kind = 6
 ·have hk : (x.kind == 6) = true := by simp [h6]
  rw [if_pos (.inl h6)]
  clear hB0
  go_enter Tryz.func107, Tryz.ntmps107
  go_wp2
  go_ret
  exact ⟨rfl, Zbc⟩
 have hk : (x.kind == 6) = false := by simp [h6]
 by_cases h8 : x.kind = 8
 ·have hk8 : (x.kind == 8) = true := by simp [h8]
  rw [if_pos (.inr h8)]
  clear hB0
  go_enter Tryz.func107, Tryz.ntmps107
  go_wp2
  go_ret
  exact ⟨rfl, Zbc⟩
 have hk8 : (x.kind == 8) = false := by simp [h8]
 rw [if_neg (by simp [h6, h8])]
 by_cases h7 : x.kind = 7
 ·have hk7 : (x.kind != 7) = false := by simp [h7]
  by_cases hn0 : n = 0
  ·have hnb : ((n : Int) == 0) = true := by simp [hn0]
   rw [if_pos (.inr hn0)]
   clear hB0 hn0
   go_enter Tryz.func107, Tryz.ntmps107
   go_wp2_with fail
   refine (ha _).mono ?_
   rintro e w2 ⟨rfl, B2⟩
   go_wp2
   go_ret
   exact ⟨rfl, Zbc.trans (B2.mono Zbc.size)⟩
  have hnb : ((n : Int) == 0) = false := by simp [hn0]
  rw [if_neg (by simp [h7, hn0])]
  clear hB0 hn0
  cases tight with
  | true =>
   go_enter Tryz.func107, Tryz.ntmps107
   go_wp2_with fail
   refine (ha _).mono ?_
   rintro e w2 ⟨rfl, B2⟩
   have B02 := Zbc.trans (B2.mono Zbc.size)
   go_wp2
   go_ret
   exact ⟨rfl, B02⟩
  | false =>
   go_enter Tryz.func107, Tryz.ntmps107
   go_wp2_with fail
   refine (ha _).mono ?_
   rintro e w2 ⟨rfl, B2⟩
   have B02 := Zbc.trans (B2.mono Zbc.size)
   have E2 := (B2.block _ (by simp)).trans (Zc0 w _)
   obtain ⟨y0, y1, y2, y3, y4, y5, _⟩ := Zae E2
   go_wp2_with fail
   refine (hs _).mono ?_
   rintro e w3 ⟨rfl, rfl⟩
   cases sg with
   | true =>
    go_wp2
    go_ret
    exact ⟨rfl, B02⟩
   | false =>
    go_wp2
    go_ret
    exact ⟨rfl, B02⟩
 have hk7 : (x.kind != 7) = true := by simp [h7]
 rw [if_pos (.inl h7)]
 clear hB0
 go_enter Tryz.func107, Tryz.ntmps107
 go_wp2
 go_ret
 exact ⟨rfl, Zbc⟩
end
section
def Zey (x : Nd) (s : List Int) : Prop := ∀ (q : Nat) (t : List Int) (w : World) (v : Value), Wr q t w → NdV (Nb q w) w x v → t.length + s.length ≤ 1000000 →
 Calls Tryz.prog 33 #[.pointer (some ⟨q, 0, none⟩), v] w fun e w' => e = .returned (.tuple #[]) ∧ Wr q (t ++ s) w' ∧ Wf q w w'
theorem Zki (q : Nat) (ts : List (List Int)) (t : List Int) (w w1 : World) (g : Nat) (hW : Wr q t w) (hg : w1.heap[g]? = some (.cells (ts.map Zcr).toArray 9)) (hgl : w.heap.size ≤ g) (B : Below w.heap.size w w1) (hb : ∀ u ∈ ts, ∀ x ∈ u, 0 ≤ x ∧ x < 256) (hl : t.length + ts.flatten.length ≤ 1000000000) (hn : ts.length ≤ 1000000) :
  Calls Tryz.prog 50 #[.pointer (some ⟨q, 0, none⟩), .slice (some ⟨g, 0, none⟩) ts.length ts.length] w1 fun e w' => e = .returned (.tuple #[]) ∧ Wr q (t ++ ts.flatten) w' ∧ Wf q w w' := by
 have hq := hW.lt
 refine (put_any q g ts.length ts t w1 (hW.bel B) hg (by omega) hb hl hn).mono ?_
 rintro e w' ⟨he, h1, h2⟩
 exact ⟨he, h1, (Wf.of_below B hq).trans h2⟩
theorem Zl9 (w : World) (o1 o2 : Obj) : ((w.alloc o1).alloc o2).heap[w.heap.size + 1]? = some o2 := by have := Zc0 (w.alloc o1) o2; simpa using this
theorem Zgu {w : World} {o1 o2 : Obj} : Below w.heap.size w ((w.alloc o1).alloc o2) := Zbc.trans (Zbc.mono Zbc.size)
theorem Zg6 (k : Int) (hk : k = 1 ∨ k = 5) (tx : List Int) (p : Nat) (hb : ∀ x ∈ tx, 0 ≤ x ∧ x < 256) : Zey (.mk k tx p 0 [] []) tx := by
 intro q t w v hW hN hl
 obtain ⟨na, nc, la, lc, _, rfl, _, _, _, _, _, hlt⟩ := hN.parts
 simp only [Nd.kind, Nd.text, Nd.pos, Nd.n, Nd.names, Nd.kids] at *
 have hq := hW.lt
 have P : ∀ w1 g, w1.heap[g]? = some (.cells #[.string (strOfNums tx)] 9) → w.heap.size ≤ g → Below w.heap.size w w1 → Calls Tryz.prog 50 #[.pointer (some ⟨q, 0, none⟩), .slice (some ⟨g, 0, none⟩) 1 1] w1 fun e w' => e = .returned (.tuple #[]) ∧ Wr q (t ++ tx) w' ∧ Wf q w w' := by
  intro w1 g hg hgl B
  have := Zki q [tx] t w w1 g hW hg hgl B (fun u hu => by rw [List.mem_singleton.1 hu]; exact hb) (by simp; omega) (by simp)
  simpa using this
 rcases hk with rfl | rfl
 ·go_enter Tryz.func33, Tryz.ntmps33
  go_wp2_with fail
  refine (P _ _ (Zl9 _ _ _) (Nat.le_succ _) Zgu).mono ?_
  rintro e w2 ⟨rfl, h1, F⟩
  go_wp2
  go_end0
  exact ⟨rfl, h1, F⟩
 go_enter Tryz.func33, Tryz.ntmps33
 go_wp2_with fail
 refine (P _ _ (Zl9 _ _ _) (Nat.le_succ _) Zgu).mono ?_
 rintro e w2 ⟨rfl, h1, F⟩
 go_wp2
 go_end0
 exact ⟨rfl, h1, F⟩
variable {fl : List Value} {ka : Option Addr} {kc : Nat} {s : List Int} {x : Nd}
theorem Zlb (H : Zey x s) (q : Nat) (t : List Int) (w : World) (hW : Wr q t w) (sl : SlF (Nb q w) w ka 1 kc fl) (kf : KsF (Nb q w) w [x] fl) (hl : t.length + s.length ≤ 1000000) (sep : ByteArray) :
  Calls Tryz.prog 53 #[.pointer (some ⟨q, 0, none⟩), .slice ka 1 kc, .string sep] w fun e w' => e = .returned (.tuple #[]) ∧ Wr q (t ++ s) w' ∧ Wf q w w' := by
 have hfl := kf.len
 have hq := hW.lt
 obtain ⟨b, off, rfl, hA, hc⟩ := sl.cells (by simp at hfl; omega)
 obtain ⟨v0, v1, v2, v3, v4, v5, hN, e0, e1, e2, e3, e4, e5⟩ := kf.at_ 0 x rfl
 obtain ⟨na, nc, la, lc, _, hv, _⟩ := hN.parts
 simp only [Value.agg.injEq, Array.mk.injEq, List.cons.injEq, and_true] at hv
 obtain ⟨rfl, rfl, rfl, rfl, rfl, rfl⟩ := hv
 have c0 := hc _ _ e0
 have c1 := hc _ _ e1
 have c2 := hc _ _ e2
 have c3 := hc _ _ e3
 have c4 := hc _ _ e4
 have c5 := hc _ _ e5
 simp only [Nat.zero_mul, Nat.zero_add, Nat.add_zero] at c0 c1 c2 c3 c4 c5
 clear e0 e1 e2 e3 e4 e5 hc
 go_enter Tryz.func53, Tryz.ntmps53
 go_wp2_with fail
 go_loopw [10] (fun v wr => (v = .int .i64 0 ∧ wr = w) ∨ (v = .int .i64 1 ∧ Wr q (t ++ s) wr ∧ Wf q w wr)) (fun v _ => 1 - (intOf v).toNat)
 case atStart => exact .inl ⟨rfl, rfl⟩
 rcases hrel with ⟨rfl, rfl⟩ | ⟨rfl, h1, hF⟩
 ·go_wp2_with (refine Zdl _ rfl rfl ?_)
  intro q4 w1 E1 hq4 B1
  go_wp2_with (refine Zar rfl rfl rfl rfl rfl E1 ?_)
  intro w2 E2 S2
  have B2 : Below wr.heap.size wr w2 := B1.trans (S2.below hq4)
  have F2 := Wf.of_below B2 hq
  have hN2 := hN.wf F2
  obtain ⟨z0, z1, z2, z3, z4, z5, _⟩ := Zae E2
  clear c0 c1 c2 c3 c4 c5 E1 B1 S2
  go_wp2_with fail
  refine (H q t w2 _ (hW.bel B2) hN2 hl).mono ?_
  rintro e w3 ⟨rfl, h1, F3⟩
  go_wp2
  go_roundw
  case rel => exact .inr ⟨rfl, h1, F2.trans F3⟩
  case measure => simp [intOf]
 go_wp2
 go_end0
 exact ⟨rfl, h1, hF⟩
theorem Zde {r : List Nd} (H : Zey x s) (tight : Bool) (hi : inB x tight = false) (hbt : ∀ y ∈ x.text, 0 ≤ y ∧ y < 256) (q : Nat) (t : List Int) (w : World) (hW : Wr q t w) {n : Nat} (hn : n = (x :: r).length) (sl : SlF (Nb q w) w ka n kc fl) (kf : KsF (Nb q w) w (x :: r) fl) (hl : t.length + s.length ≤ 1000000) :
  Calls Tryz.prog 85 #[.pointer (some ⟨q, 0, none⟩), .slice ka n kc, .int .i64 0, .bool tight] w fun e w' => e = .returned (.tuple #[]) ∧ Wr q (t ++ s) w' ∧ Wf q w w' := by
 subst hn
 have hq := hW.lt
 have hp := part_any q 0 x rfl hq sl kf
 rw [Int.natCast_zero] at hp
 generalize (x :: r).length = n at *
 clear sl kf
 go_enter Tryz.func85, Tryz.ntmps85
 go_wp2_with fail
 refine hp.mono ?_
 rintro e w1 ⟨v, rfl, hN, B1⟩
 obtain ⟨na, nc, la, lc, _, rfl, _⟩ := hN.parts
 have F1 := Wf.of_below B1 hq
 replace hW := hW.bel B1
 have hq1 := hW.lt
 go_wp2_with (refine Zdl _ rfl rfl ?_)
 intro q4 w2 E2 hq4 B2
 go_wp2_with (refine Zar rfl rfl rfl rfl rfl E2 ?_)
 intro w3 E3 S3
 have B3 : Below w1.heap.size w1 w3 := B2.trans (S3.below hq4)
 have F3 := Wf.of_below B3 hq1
 replace hN := hN.wf F3
 replace hW := hW.bel B3
 replace F1 := F1.trans F3
 have hq3 := hW.lt
 obtain ⟨z0, z1, z2, z3, z4, z5, _⟩ := Zae E3
 clear E2 B2 S3 B3 F3 B1 hp
 go_wp2_with fail
 refine (Zii hN hbt tight).mono ?_
 rintro e w4 ⟨rfl, B4⟩
 rw [hi]
 have F4 := Wf.of_below B4 hq3
 have E4 := F4.row E3 (by decide) (by omega)
 replace hN := hN.wf F4
 replace hW := hW.bel B4
 replace F1 := F1.trans F4
 clear z0 z1 z2 z3 z4 z5
 obtain ⟨z0, z1, z2, z3, z4, z5, _⟩ := Zae E4
 go_wp2_with fail
 refine (H q t w4 _ hW hN hl).mono ?_
 rintro e w5 ⟨rfl, h1, F5⟩
 go_wp2
 exact bodyPost_ret (results_none rfl _ _ _) rfl ⟨rfl, h1, F1.trans F5⟩
theorem ascii_at (ss : List Int) (hb : ∀ x ∈ ss, 0 ≤ x ∧ x < 256) (i : Nat) (h : i < ss.length) (ha : ss.getD i 0 < 128) : Utf8.decode (strOfNums ss) i = ((ss.getD i 0).toNat, 1) := by
 have h0 := Zhl ss hb i h
 rw [Lib.decode_at]
 unfold Lib.decodeN
 rw [if_pos (by omega)]
 congr 1
 omega
theorem Wf.iter {q : Nat} {w wr : World} {ss : ByteArray} (h : Wf q w wr) (hq : q < w.heap.size) (p : Nat) : Wf q w (wr.iterAt w.heap.size ss p) :=
 ⟨Lib.below_iterAt h.bel (by omega) ss p, fun k o hk hn ho => (Lib.iterAt_other wr w.heap.size k ss p (by have := lt_of_block hk; omega)).trans (h.oth k o hk hn ho)⟩
theorem Zqj (H : Zey x s) (hi : inB x false = false) (hbt : ∀ y ∈ x.text, 0 ≤ y ∧ y < 256) (k : List Int) (hk : k.count 58 = 0) (hbk : ∀ y ∈ k, 0 ≤ y ∧ y < 128) (hkl : k.length ≤ 1000) (q : Nat) (t : List Int) (w : World) (hW : Wr q t w) (sl : SlF (Nb q w) w ka 1 kc fl) (kf : KsF (Nb q w) w [x] fl) (hl : t.length + (k.length + 3) + s.length ≤ 1000000) :
  Calls Tryz.prog 86 #[.pointer (some ⟨q, 0, none⟩), .string (strOfNums (k ++ [58])), .slice ka 1 kc] w fun e w' => e = .returned (.tuple #[]) ∧ Wr q (t ++ ([32] ++ (k ++ [58]) ++ [32] ++ s)) w' ∧ Wf q w w' := by
 have hq := hW.lt
 obtain ⟨ss, hss⟩ : ∃ ss, Hid (ss = k ++ [58]) := ⟨k ++ [58], show _ = _ from rfl⟩
 have Lh : ss.length = k.length + 1 := by rw [hss.out]; simp
 have hsz : (strOfNums ss).size = k.length + 1 := by rw [strOfNums_size, Lh]
 have hbs : ∀ y ∈ ss, 0 ≤ y ∧ y < 256 := by
  rw [hss.out]
  intro y hy
  rcases List.mem_append.1 hy with h | h
  ·have := hbk y h; omega
  rw [List.mem_singleton.1 h]; omega
 rw [← hss.out]
 have B0 : Below w.heap.size w (w.iter (strOfNums ss) 0) := Zcz
 go_enter Tryz.func86, Tryz.ntmps86
 go_wp2_with fail
 go_loopw [6, 7] (fun a b wr => (∃ i, i ≤ k.length ∧ a = .int .i64 0 ∧ b = .int .i64 0 ∧ Wr q t wr ∧ Wf q w wr ∧ wr.heap[w.heap.size]? = some (.stringIter (strOfNums ss) i)) ∨ (∃ a' b', a = .int .i64 a' ∧ b = .int .i64 b' ∧ Wr q (t ++ ([32] ++ ss ++ [32] ++ s)) wr ∧ Wf q w wr ∧ wr.heap[w.heap.size]? = some (.stringIter (strOfNums ss) (k.length + 1)))) (fun _ _ wr => k.length + 1 - wr.iterPos w.heap.size)
 case atStart => exact .inl ⟨0, Nat.zero_le _, rfl, rfl, hW.bel B0, Wf.of_below B0 hq, World.iter_heap w (strOfNums ss) 0⟩
 rcases hrel with ⟨i, hik, rfl, rfl, hWr, hF, hit⟩ | ⟨a', b', rfl, rfl, hWr, hF, hit⟩
 ·have hp : i < ss.length := by omega
  have hp' : i < (strOfNums ss).size := by omega
  have hgi : ss.getD i 0 = if i = k.length then 58 else k.getD i 0 := by
   rw [hss.out, List.getD_eq_getElem?_getD, List.getD_eq_getElem?_getD]
   by_cases h : i = k.length
   ·rw [if_pos h, List.getElem?_append_right (by omega)]; simp [h]
   rw [if_neg h, List.getElem?_append_left (by omega)]
  have hkb : i < k.length → k.getD i 0 < 128 ∧ 0 ≤ k.getD i 0 ∧ k.getD i 0 ≠ 58 := by
   intro h
   have h1 : k.getD i 0 = k[i] := by rw [List.getD_eq_getElem?_getD, List.getElem?_eq_getElem h]; rfl
   rw [h1]
   have h2 := hbk _ (List.getElem_mem h)
   exact ⟨h2.2, h2.1, fun e => List.count_eq_zero.1 hk (e ▸ List.getElem_mem h)⟩
  have hd := ascii_at ss hbs i hp (by rw [hgi]; split <;> first | omega | exact (hkb (by omega)).1)
  have hnx : ∀ ty, (Instr.next (.pointer (some ⟨w.heap.size, 0, none⟩)) true ty).run Tryz.prog wr = _ := fun ty => Lib.run_next_any_at wr w.heap.size (strOfNums ss) i ty hit hp'
  rw [hd] at hnx
  have hit2 := Lib.iterAt_heap wr w.heap.size (strOfNums ss) i (i + 1) hit
  have hF2 := hF.iter (ss := strOfNums ss) hq (i + 1)
  have hW2 : Wr q t (wr.iterAt w.heap.size (strOfNums ss) (i + 1)) := Lib.IsBuilderF.iterAt hWr hit _
  by_cases hik2 : i = k.length
  ·rw [if_pos hik2] at hgi
   rw [hgi] at hnx
   have h58 : (((58 : Int).toNat : Int) == 58) = true := rfl
   have hx : (strOfNums ss).extract 0 (i + 1) = strOfNums ss := by
    rw [Zco, List.drop_zero, List.take_of_length_le (by omega)]
   have hw1 : IntKind.i64.wrap ((i : Int) + 1) = ((i + 1 : Nat) : Int) := by rw [IntKind.wrap_i64]; omega
   have hie : i + 1 = k.length + 1 := by omega
   replace hit2 : (wr.iterAt w.heap.size (strOfNums ss) (i + 1)).heap[w.heap.size]? = some (.stringIter (strOfNums ss) (k.length + 1)) := by rw [hit2, hie]
   have hml : wr.iterPos w.heap.size = i := by simp [World.iterPos, hit]
   clear hgi hkb hd hik2 hie
   generalize wr.iterAt w.heap.size (strOfNums ss) (i + 1) = w1 at *
   have P : Calls Tryz.prog 50 #[.pointer (some ⟨q, 0, none⟩), .slice (some ⟨w1.heap.size, 0, none⟩) 3 3] (w1.alloc (.cells #[.string ⟨#[32]⟩, .string (strOfNums ss), .string ⟨#[32]⟩] 9)) fun e w' => e = .returned (.tuple #[]) ∧ Wr q (t ++ [[32], ss, [32]].flatten) w' ∧ Wf q w1 w' :=
    Zki q [[32], ss, [32]] t w1 _ w1.heap.size hW2 (Zc0 w1 _) zo Zbc (fun u hu => by
     simp only [List.mem_cons, List.not_mem_nil, or_false] at hu
     rcases hu with rfl | rfl | rfl
     ·decide
     ·exact hbs
     decide) (by simp; omega) (by simp)
   go_wp2_with fail
   refine P.mono ?_
   rintro e w2 ⟨rfl, h2, F2⟩
   have hF3 := hF2.trans F2
   have hit3 := F2.oth _ _ hit2 (by simp; omega) (by simp)
   clear P
   go_wp2_with fail
   refine (Zde (r := []) H false hi hbt q _ w2 h2 rfl (sl.wf hF3) (kf.wf hF3) (by simp; omega)).mono ?_
   rintro e w3 ⟨rfl, h3, F3⟩
   have hit4 := F3.oth _ _ hit3 (by simp; omega) (by simp)
   go_wp2
   go_roundw
   case rel => exact .inr ⟨_, _, rfl, rfl, by simpa [List.append_assoc] using h3, hF3.trans F3, hit4⟩
   case measure => rw [hml]; simp only [World.iterPos, hit4]; omega
  have hk2 := hkb (by omega)
  rw [if_neg hik2] at hgi
  rw [hgi] at hnx
  generalize k.getD i 0 = kb at *
  have h58 : ((kb.toNat : Int) == 58) = false := by rw [beq_eq_false_iff_ne]; omega
  clear hgi hkb hd
  go_wp2
  go_roundw
  case rel => exact .inl ⟨i + 1, by omega, rfl, rfl, hW2, hF2, hit2⟩
  case measure => simp only [World.iterPos, hit2, hit]; omega
 have hp' : ¬ k.length + 1 < (strOfNums ss).size := by omega
 have hnx : ∀ ty, (Instr.next (.pointer (some ⟨w.heap.size, 0, none⟩)) true ty).run Tryz.prog wr = _ := fun ty => Lib.run_next_end_at wr w.heap.size (strOfNums ss) (k.length + 1) ty hit hp'
 go_wp2
 go_end0
 exact ⟨rfl, hWr, hF⟩
end
end Go.Proofs.YtncfmhlikmibaaaGreatDoor
