/- The writer: leaves, rows of one part, operands, messages. -/
import Derived.Test.YtncfmhlikmibaaaGreatDoorWrt
import Derived.Test.YtncfmhlikmibaaaGreatDoorOth
namespace Go.Proofs.YtncfmhlikmibaaaGreatDoor
open Go.RowKit
set_option maxRecDepth 100000
/-- Writing a part. -/
def NodeC (x : Nd) (s : List Int) : Prop := ∀ (q : Nat) (t : List Int) (w : World) (v : Value), Wr q t w → NdV (Nb q w) w x v → t.length + s.length ≤ 1000000 →
  Calls Tryz.prog 33 #[.pointer (some ⟨q, 0, none⟩), v] w fun e w' => e = .returned (.tuple #[]) ∧ Wr q (t ++ s) w' ∧ Wf q w w'
/-- put of a literal row, as a walk meets it. -/
theorem put_lit (q : Nat) (ts : List (List Int)) (t : List Int) (w w1 : World) (g : Nat) (hW : Wr q t w) (hg : w1.heap[g]? = some (.cells (ts.map strV).toArray 9)) (hgl : w.heap.size ≤ g) (B : Below w.heap.size w w1) (hb : ∀ u ∈ ts, ∀ x ∈ u, 0 ≤ x ∧ x < 256) (hl : t.length + ts.flatten.length ≤ 1000000000) (hn : ts.length ≤ 1000000) :
    Calls Tryz.prog 50 #[.pointer (some ⟨q, 0, none⟩), .slice (some ⟨g, 0, none⟩) ts.length ts.length] w1 fun e w' => e = .returned (.tuple #[]) ∧ Wr q (t ++ ts.flatten) w' ∧ Wf q w w' := by
  have hq := hW.lt
  refine (put_any q g ts.length ts t w1 (hW.bel B) hg (by omega) hb hl hn).mono ?_
  rintro e w' ⟨he, h1, h2⟩
  exact ⟨he, h1, (Wf.of_below B hq).trans h2⟩
theorem two_new (w : World) (o1 o2 : Obj) : ((w.alloc o1).alloc o2).heap[w.heap.size + 1]? = some o2 := by have := newO (w.alloc o1) o2; simpa using this
theorem two_below {w : World} {o1 o2 : Obj} : Below w.heap.size w ((w.alloc o1).alloc o2) := boxO.trans (boxO.mono boxO.size)
set_option maxHeartbeats 4000000 in
theorem node_leaf (k : Int) (hk : k = 1 ∨ k = 5) (tx : List Int) (p : Nat) (hb : ∀ x ∈ tx, 0 ≤ x ∧ x < 256) : NodeC (.mk k tx p 0 [] []) tx := by
  intro q t w v hW hN hl
  obtain ⟨na, nc, la, lc, _, rfl, _, _, _, _, _, hlt⟩ := hN.parts
  simp only [Nd.kind, Nd.text, Nd.pos, Nd.n, Nd.names, Nd.kids] at *
  have hq := hW.lt
  have P : ∀ w1 g, w1.heap[g]? = some (.cells #[.string (strOfNums tx)] 9) → w.heap.size ≤ g → Below w.heap.size w w1 → Calls Tryz.prog 50 #[.pointer (some ⟨q, 0, none⟩), .slice (some ⟨g, 0, none⟩) 1 1] w1 fun e w' => e = .returned (.tuple #[]) ∧ Wr q (t ++ tx) w' ∧ Wf q w w' := by
    intro w1 g hg hgl B
    have := put_lit q [tx] t w w1 g hW hg hgl B (fun u hu => by rw [List.mem_singleton.1 hu]; exact hb) (by simp; omega) (by simp)
    simpa using this
  rcases hk with rfl | rfl
  · go_enter Tryz.func33, Tryz.ntmps33
    go_wp2_with fail
    refine (P _ _ (two_new _ _ _) (Nat.le_succ _) two_below).mono ?_
    rintro e w2 ⟨rfl, h1, F⟩
    go_wp2
    go_end0
    exact ⟨rfl, h1, F⟩
  · go_enter Tryz.func33, Tryz.ntmps33
    go_wp2_with fail
    refine (P _ _ (two_new _ _ _) (Nat.le_succ _) two_below).mono ?_
    rintro e w2 ⟨rfl, h1, F⟩
    go_wp2
    go_end0
    exact ⟨rfl, h1, F⟩
set_option maxHeartbeats 4000000 in
/-- A row of one part. -/
theorem parts_one {x : Nd} {s : List Int} (H : NodeC x s) (q : Nat) (t : List Int) (w : World) (hW : Wr q t w) {ka : Option Addr} {kc : Nat} {fl : List Value} (sl : SlF (Nb q w) w ka 1 kc fl) (kf : KsF (Nb q w) w [x] fl) (hl : t.length + s.length ≤ 1000000) (sep : ByteArray) :
    Calls Tryz.prog 53 #[.pointer (some ⟨q, 0, none⟩), .slice ka 1 kc, .string sep] w fun e w' => e = .returned (.tuple #[]) ∧ Wr q (t ++ s) w' ∧ Wf q w w' := by
  have hfl := kf.len
  have hq := hW.lt
  obtain ⟨b, off, rfl, hA, hc⟩ := sl.cells (by simp at hfl; omega)
  obtain ⟨v0, v1, v2, v3, v4, v5, hN, e0, e1, e2, e3, e4, e5⟩ := kf.at_ 0 x rfl
  obtain ⟨na, nc, la, lc, _, hv, _⟩ := hN.parts
  simp only [Value.agg.injEq, Array.mk.injEq, List.cons.injEq, and_true] at hv
  obtain ⟨rfl, rfl, rfl, rfl, rfl, rfl⟩ := hv
  have c0 := hc _ _ e0
  have c1 := hc _ _ e1
  have c2 := hc _ _ e2
  have c3 := hc _ _ e3
  have c4 := hc _ _ e4
  have c5 := hc _ _ e5
  simp only [Nat.zero_mul, Nat.zero_add, Nat.add_zero] at c0 c1 c2 c3 c4 c5
  clear e0 e1 e2 e3 e4 e5 hc
  go_enter Tryz.func53, Tryz.ntmps53
  go_wp2_with fail
  go_loopw [10] (fun v wr => (v = .int .i64 0 ∧ wr = w) ∨ (v = .int .i64 1 ∧ Wr q (t ++ s) wr ∧ Wf q w wr)) (fun v _ => 1 - (intOf v).toNat)
  case atStart => exact .inl ⟨rfl, rfl⟩
  case round =>
    rcases hrel with ⟨rfl, rfl⟩ | ⟨rfl, h1, hF⟩
    · go_wp2_with (refine al25 _ rfl rfl ?_)
      intro q4 w1 E1 hq4 B1
      go_wp2_with (refine st25 _ rfl _ _ rfl rfl _ _ _ _ _ _ _ _ _ _ _ rfl rfl E1 ?_)
      intro w2 E2 S2
      have B2 : Below wr.heap.size wr w2 := B1.trans (S2.below hq4)
      have F2 := Wf.of_below B2 hq
      have hN2 := hN.wf F2
      obtain ⟨z0, z1, z2, z3, z4, z5, _⟩ := nd_cells E2
      clear c0 c1 c2 c3 c4 c5 E1 B1 S2
      go_wp2_with fail
      refine (H q t w2 _ (hW.bel B2) hN2 hl).mono ?_
      rintro e w3 ⟨rfl, h1, F3⟩
      go_wp2
      go_roundw
      case rel => exact .inr ⟨rfl, h1, F2.trans F3⟩
      case measure => simp [intOf]
    · go_wp2
      go_end0
      exact ⟨rfl, h1, hF⟩
set_option maxHeartbeats 4000000 in
/-- The first of some parts, without brackets. -/
theorem operand_first {x : Nd} {r : List Nd} {s : List Int} (H : NodeC x s) (tight : Bool) (hi : inB x tight = false) (hbt : ∀ y ∈ x.text, 0 ≤ y ∧ y < 256) (q : Nat) (t : List Int) (w : World) (hW : Wr q t w) {ka : Option Addr} {n kc : Nat} (hn : n = (x :: r).length) {fl : List Value} (sl : SlF (Nb q w) w ka n kc fl) (kf : KsF (Nb q w) w (x :: r) fl) (hl : t.length + s.length ≤ 1000000) :
    Calls Tryz.prog 85 #[.pointer (some ⟨q, 0, none⟩), .slice ka n kc, .int .i64 0, .bool tight] w fun e w' => e = .returned (.tuple #[]) ∧ Wr q (t ++ s) w' ∧ Wf q w w' := by
  subst hn
  have hq := hW.lt
  have hp := part_any q 0 x rfl hq sl kf
  rw [Int.natCast_zero] at hp
  generalize (x :: r).length = n at *
  clear sl kf
  go_enter Tryz.func85, Tryz.ntmps85
  go_wp2_with fail
  refine hp.mono ?_
  rintro e w1 ⟨v, rfl, hN, B1⟩
  obtain ⟨na, nc, la, lc, _, rfl, _⟩ := hN.parts
  have F1 := Wf.of_below B1 hq
  replace hW := hW.bel B1
  have hq1 := hW.lt
  go_wp2_with (refine al25 _ rfl rfl ?_)
  intro q4 w2 E2 hq4 B2
  go_wp2_with (refine st25 _ rfl _ _ rfl rfl _ _ _ _ _ _ _ _ _ _ _ rfl rfl E2 ?_)
  intro w3 E3 S3
  have B3 : Below w1.heap.size w1 w3 := B2.trans (S3.below hq4)
  have F3 := Wf.of_below B3 hq1
  replace hN := hN.wf F3
  replace hW := hW.bel B3
  replace F1 := F1.trans F3
  have hq3 := hW.lt
  obtain ⟨z0, z1, z2, z3, z4, z5, _⟩ := nd_cells E3
  clear E2 B2 S3 B3 F3 B1 hp
  go_wp2_with fail
  refine (inBrackets_any hN hbt tight).mono ?_
  rintro e w4 ⟨rfl, B4⟩
  rw [hi]
  have F4 := Wf.of_below B4 hq3
  have E4 := F4.row E3 (by decide) (by omega)
  replace hN := hN.wf F4
  replace hW := hW.bel B4
  replace F1 := F1.trans F4
  clear z0 z1 z2 z3 z4 z5
  obtain ⟨z0, z1, z2, z3, z4, z5, _⟩ := nd_cells E4
  go_wp2_with fail
  refine (H q t w4 _ hW hN hl).mono ?_
  rintro e w5 ⟨rfl, h1, F5⟩
  go_wp2
  exact bodyPost_ret (results_none rfl _ _ _) rfl ⟨rfl, h1, F1.trans F5⟩
theorem ascii_at (ss : List Int) (hb : ∀ x ∈ ss, 0 ≤ x ∧ x < 256) (i : Nat) (h : i < ss.length) (ha : ss.getD i 0 < 128) : Utf8.decode (strOfNums ss) i = ((ss.getD i 0).toNat, 1) := by
  have h0 := byte_at ss hb i h
  rw [Lib.decode_at]
  unfold Lib.decodeN
  rw [if_pos (by omega)]
  congr 1
  omega
theorem Wf.iter {q : Nat} {w wr : World} {ss : ByteArray} (h : Wf q w wr) (hq : q < w.heap.size) (p : Nat) : Wf q w (wr.iterAt w.heap.size ss p) :=
  ⟨Lib.below_iterAt h.bel (by omega) ss p, fun k o hk hn ho => (Lib.iterAt_other wr w.heap.size k ss p (by have := lt_of_block hk; omega)).trans (h.oth k o hk hn ho)⟩
set_option maxHeartbeats 4000000 in
/-- A message whose selector is one key. -/
theorem keyed_one {x : Nd} {s : List Int} (H : NodeC x s) (hi : inB x false = false) (hbt : ∀ y ∈ x.text, 0 ≤ y ∧ y < 256) (k : List Int) (hk : k.count 58 = 0) (hbk : ∀ y ∈ k, 0 ≤ y ∧ y < 128) (hkl : k.length ≤ 1000) (q : Nat) (t : List Int) (w : World) (hW : Wr q t w) {ka : Option Addr} {kc : Nat} {fl : List Value} (sl : SlF (Nb q w) w ka 1 kc fl) (kf : KsF (Nb q w) w [x] fl) (hl : t.length + (k.length + 3) + s.length ≤ 1000000) :
    Calls Tryz.prog 86 #[.pointer (some ⟨q, 0, none⟩), .string (strOfNums (k ++ [58])), .slice ka 1 kc] w fun e w' => e = .returned (.tuple #[]) ∧ Wr q (t ++ ([32] ++ (k ++ [58]) ++ [32] ++ s)) w' ∧ Wf q w w' := by
  have hq := hW.lt
  obtain ⟨ss, hss⟩ : ∃ ss, Hid (ss = k ++ [58]) := ⟨k ++ [58], show _ = _ from rfl⟩
  have hlen : ss.length = k.length + 1 := by rw [hss.out]; simp
  have hsz : (strOfNums ss).size = k.length + 1 := by rw [strOfNums_size, hlen]
  have hbs : ∀ y ∈ ss, 0 ≤ y ∧ y < 256 := by
    rw [hss.out]
    intro y hy
    rcases List.mem_append.1 hy with h | h
    · have := hbk y h; omega
    · rw [List.mem_singleton.1 h]; omega
  rw [← hss.out]
  have B0 : Below w.heap.size w (w.iter (strOfNums ss) 0) := boxT
  go_enter Tryz.func86, Tryz.ntmps86
  go_wp2_with fail
  go_loopw [6, 7] (fun a b wr => (∃ i, i ≤ k.length ∧ a = .int .i64 0 ∧ b = .int .i64 0 ∧ Wr q t wr ∧ Wf q w wr ∧ wr.heap[w.heap.size]? = some (.stringIter (strOfNums ss) i)) ∨ (∃ a' b', a = .int .i64 a' ∧ b = .int .i64 b' ∧ Wr q (t ++ ([32] ++ ss ++ [32] ++ s)) wr ∧ Wf q w wr ∧ wr.heap[w.heap.size]? = some (.stringIter (strOfNums ss) (k.length + 1)))) (fun _ _ wr => k.length + 1 - wr.iterPos w.heap.size)
  case atStart => exact .inl ⟨0, Nat.zero_le _, rfl, rfl, hW.bel B0, Wf.of_below B0 hq, World.iter_heap w (strOfNums ss) 0⟩
  case round =>
    rcases hrel with ⟨i, hik, rfl, rfl, hWr, hF, hit⟩ | ⟨a', b', rfl, rfl, hWr, hF, hit⟩
    · have hp : i < ss.length := by omega
      have hp' : i < (strOfNums ss).size := by omega
      have hgi : ss.getD i 0 = if i = k.length then 58 else k.getD i 0 := by
        rw [hss.out, List.getD_eq_getElem?_getD, List.getD_eq_getElem?_getD]
        by_cases h : i = k.length
        · rw [if_pos h, List.getElem?_append_right (by omega)]; simp [h]
        · rw [if_neg h, List.getElem?_append_left (by omega)]
      have hkb : i < k.length → k.getD i 0 < 128 ∧ 0 ≤ k.getD i 0 ∧ k.getD i 0 ≠ 58 := by
        intro h
        have h1 : k.getD i 0 = k[i] := by rw [List.getD_eq_getElem?_getD, List.getElem?_eq_getElem h]; rfl
        rw [h1]
        have h2 := hbk _ (List.getElem_mem h)
        exact ⟨h2.2, h2.1, fun e => List.count_eq_zero.1 hk (e ▸ List.getElem_mem h)⟩
      have hd := ascii_at ss hbs i hp (by rw [hgi]; split <;> first | omega | exact (hkb (by omega)).1)
      have hnx : ∀ ty, (Instr.next (.pointer (some ⟨w.heap.size, 0, none⟩)) true ty).run Tryz.prog wr = _ := fun ty => Lib.run_next_any_at wr w.heap.size (strOfNums ss) i ty hit hp'
      rw [hd] at hnx
      have hit2 := Lib.iterAt_heap wr w.heap.size (strOfNums ss) i (i + 1) hit
      have hF2 := hF.iter (ss := strOfNums ss) hq (i + 1)
      have hW2 : Wr q t (wr.iterAt w.heap.size (strOfNums ss) (i + 1)) := Lib.IsBuilderF.iterAt hWr hit _
      by_cases hik2 : i = k.length
      · rw [if_pos hik2] at hgi
        rw [hgi] at hnx
        have h58 : (((58 : Int).toNat : Int) == 58) = true := rfl
        have hx : (strOfNums ss).extract 0 (i + 1) = strOfNums ss := by
          rw [ext_str, List.drop_zero, List.take_of_length_le (by omega)]
        have hw1 : IntKind.i64.wrap ((i : Int) + 1) = ((i + 1 : Nat) : Int) := by rw [IntKind.wrap_i64]; omega
        have hie : i + 1 = k.length + 1 := by omega
        replace hit2 : (wr.iterAt w.heap.size (strOfNums ss) (i + 1)).heap[w.heap.size]? = some (.stringIter (strOfNums ss) (k.length + 1)) := by rw [hit2, hie]
        have hml : wr.iterPos w.heap.size = i := by simp [World.iterPos, hit]
        clear hgi hkb hd hik2 hie
        generalize wr.iterAt w.heap.size (strOfNums ss) (i + 1) = w1 at *
        have P : Calls Tryz.prog 50 #[.pointer (some ⟨q, 0, none⟩), .slice (some ⟨w1.heap.size, 0, none⟩) 3 3] (w1.alloc (.cells #[.string ⟨#[32]⟩, .string (strOfNums ss), .string ⟨#[32]⟩] 9)) fun e w' => e = .returned (.tuple #[]) ∧ Wr q (t ++ [[32], ss, [32]].flatten) w' ∧ Wf q w1 w' :=
          put_lit q [[32], ss, [32]] t w1 _ w1.heap.size hW2 (newO w1 _) (Nat.le_refl _) boxO (fun u hu => by
            simp only [List.mem_cons, List.not_mem_nil, or_false] at hu
            rcases hu with rfl | rfl | rfl
            · decide
            · exact hbs
            · decide) (by simp; omega) (by simp)
        go_wp2_with fail
        refine P.mono ?_
        rintro e w2 ⟨rfl, h2, F2⟩
        have hF3 := hF2.trans F2
        have hit3 := F2.oth _ _ hit2 (by simp; omega) (by simp)
        clear P
        go_wp2_with fail
        refine (operand_first (r := []) H false hi hbt q _ w2 h2 rfl (sl.wf hF3) (kf.wf hF3) (by simp; omega)).mono ?_
        rintro e w3 ⟨rfl, h3, F3⟩
        have hit4 := F3.oth _ _ hit3 (by simp; omega) (by simp)
        go_wp2
        go_roundw
        case rel => exact .inr ⟨_, _, rfl, rfl, by simpa [List.append_assoc] using h3, hF3.trans F3, hit4⟩
        case measure => rw [hml]; simp only [World.iterPos, hit4]; omega
      · have hk2 := hkb (by omega)
        rw [if_neg hik2] at hgi
        rw [hgi] at hnx
        generalize k.getD i 0 = kb at *
        have h58 : ((kb.toNat : Int) == 58) = false := by rw [beq_eq_false_iff_ne]; omega
        clear hgi hkb hd
        go_wp2
        go_roundw
        case rel => exact .inl ⟨i + 1, by omega, rfl, rfl, hW2, hF2, hit2⟩
        case measure => simp only [World.iterPos, hit2, hit]; omega
    · have hp' : ¬ k.length + 1 < (strOfNums ss).size := by omega
      have hnx : ∀ ty, (Instr.next (.pointer (some ⟨w.heap.size, 0, none⟩)) true ty).run Tryz.prog wr = _ := fun ty => Lib.run_next_end_at wr w.heap.size (strOfNums ss) (k.length + 1) ty hit hp'
      go_wp2
      go_end0
      exact ⟨rfl, hWr, hF⟩
end Go.Proofs.YtncfmhlikmibaaaGreatDoor
namespace Go.Proofs.YtncfmhlikmibaaaGreatDoor
open Go.RowKit
set_option maxRecDepth 100000
/-- Writing a message. -/
def MsgC (tx : List Int) (xs : List Nd) (s : List Int) : Prop := ∀ (q : Nat) (t : List Int) (w : World) (ka : Option Addr) (kc : Nat) (fl : List Value), Wr q t w → SlF (Nb q w) w ka xs.length kc fl → KsF (Nb q w) w xs fl → t.length + s.length ≤ 1000000 →
  Calls Tryz.prog 54 #[.pointer (some ⟨q, 0, none⟩), .string (strOfNums tx), .slice ka xs.length kc] w fun e w' => e = .returned (.tuple #[]) ∧ Wr q (t ++ s) w' ∧ Wf q w w'
set_option maxHeartbeats 4000000 in
theorem msg_un (tx : List Int) (xs : List Nd) (hb : ∀ y ∈ tx, 0 ≤ y ∧ y < 256) (h0 : argsL tx = 0) : MsgC tx xs ([32] ++ tx) := by
  intro q t w ka kc fl hW sl kf hl
  simp only [List.length_append, List.length_singleton] at hl
  have ha := args_is tx w hb (by omega)
  rw [h0, Int.natCast_zero] at ha
  have hq := hW.lt
  generalize xs.length = n at *
  clear sl kf
  go_enter Tryz.func54, Tryz.ntmps54
  go_wp2_with fail
  refine ha.mono ?_
  rintro e w1 ⟨rfl, B1⟩
  have hW1 := hW.bel B1
  have P : Calls Tryz.prog 50 #[.pointer (some ⟨q, 0, none⟩), .slice (some ⟨w1.heap.size, 0, none⟩) 2 2] (w1.alloc (.cells #[.string ⟨#[32]⟩, .string (strOfNums tx)] 9)) fun e w' => e = .returned (.tuple #[]) ∧ Wr q (t ++ [[32], tx].flatten) w' ∧ Wf q w1 w' :=
    put_lit q [[32], tx] t w1 _ w1.heap.size hW1 (newO w1 _) (Nat.le_refl _) boxO (fun u hu => by
      simp only [List.mem_cons, List.not_mem_nil, or_false] at hu
      rcases hu with rfl | rfl
      · decide
      · exact hb) (by simp; omega) (by simp)
  go_wp2_with fail
  refine P.mono ?_
  rintro e w2 ⟨rfl, h2, F2⟩
  go_wp2
  go_end0
  exact ⟨rfl, by simpa using h2, (Wf.of_below B1 hq).trans F2⟩
set_option maxHeartbeats 4000000 in
theorem msg_sg (tx : List Int) {x : Nd} {r : List Nd} {s : List Int} (hb : ∀ y ∈ tx, 0 ≤ y ∧ y < 256) (hs : sgnL tx = true) (H : NodeC x s) (hi : inB x true = false) (hbt : ∀ y ∈ x.text, 0 ≤ y ∧ y < 256) : MsgC tx (x :: r) ([32] ++ tx ++ [32] ++ s) := by
  intro q t w ka kc fl hW sl kf hl
  simp only [List.length_append, List.length_singleton] at hl
  have ha := args_is tx w hb (by omega)
  have h1 : argsL tx = 1 := by rw [argsL_sgn, hs]; rfl
  rw [h1] at ha
  have hq := hW.lt
  obtain ⟨n, hn⟩ : ∃ n, Hid (n = (x :: r).length) := ⟨(x :: r).length, show _ = _ from rfl⟩
  rw [← hn.out] at sl ⊢
  go_enter Tryz.func54, Tryz.ntmps54
  go_wp2_with fail
  refine ha.mono ?_
  rintro e w1 ⟨rfl, B1⟩
  have hW1 := hW.bel B1
  have hsg := signed_is tx w1 hb (by omega)
  rw [hs] at hsg
  have F1 := Wf.of_below B1 hq
  have P : Calls Tryz.prog 50 #[.pointer (some ⟨q, 0, none⟩), .slice (some ⟨w1.heap.size, 0, none⟩) 3 3] (w1.alloc (.cells #[.string ⟨#[32]⟩, .string (strOfNums tx), .string ⟨#[32]⟩] 9)) fun e w' => e = .returned (.tuple #[]) ∧ Wr q (t ++ [[32], tx, [32]].flatten) w' ∧ Wf q w1 w' :=
    put_lit q [[32], tx, [32]] t w1 _ w1.heap.size hW1 (newO w1 _) (Nat.le_refl _) boxO (fun u hu => by
      simp only [List.mem_cons, List.not_mem_nil, or_false] at hu
      rcases hu with rfl | rfl | rfl
      · decide
      · exact hb
      · decide) (by simp; omega) (by simp)
  go_wp2_with fail
  refine hsg.mono ?_
  rintro e w2 ⟨rfl, rfl⟩
  go_wp2_with fail
  refine P.mono ?_
  rintro e w2 ⟨rfl, h2, F2⟩
  have F02 := F1.trans F2
  clear P hsg ha
  go_wp2_with fail
  refine (operand_first H true hi hbt q _ w2 h2 hn.out (sl.wf F02) (kf.wf F02) (by simp; omega)).mono ?_
  rintro e w3 ⟨rfl, h3, F3⟩
  go_wp2
  go_end0
  exact ⟨rfl, by simpa [List.append_assoc] using h3, F02.trans F3⟩
set_option maxHeartbeats 4000000 in
theorem msg_key (k : List Int) {x : Nd} {s : List Int} (hk : k.count 58 = 0) (hbk : ∀ y ∈ k, 0 ≤ y ∧ y < 128) (hkl : k.length ≤ 1000) (hs : sgnL (k ++ [58]) = false) (H : NodeC x s) (hi : inB x false = false) (hbt : ∀ y ∈ x.text, 0 ≤ y ∧ y < 256) : MsgC (k ++ [58]) [x] ([32] ++ (k ++ [58]) ++ [32] ++ s) := by
  intro q t w ka kc fl hW sl kf hl
  simp only [List.length_append, List.length_singleton] at hl
  have hb : ∀ y ∈ k ++ [58], 0 ≤ y ∧ y < 256 := by
    intro y hy
    rcases List.mem_append.1 hy with h | h
    · have := hbk y h; omega
    · rw [List.mem_singleton.1 h]; omega
  have ha := args_is (k ++ [58]) w hb (by simp; omega)
  have h1 : argsL (k ++ [58]) = 1 := by rw [argsL_sgn, hs, if_neg (by decide), List.count_append, hk]; rfl
  rw [h1] at ha
  have hq := hW.lt
  have sl1 : SlF (Nb q w) w ka 1 kc fl := sl
  have hl1 : ([x] : List Nd).length = 1 := rfl
  rw [hl1]
  have hsg := fun w => signed_is (k ++ [58]) w hb (by simp; omega)
  rw [hs] at hsg
  have hke := fun w1 (hW1 : Wr q t w1) (F : Wf q w w1) => keyed_one H hi hbt k hk hbk hkl q t w1 hW1 (sl1.wf F) (kf.wf F) (by omega)
  clear hl1 sl
  generalize k ++ [58] = tx at *
  go_enter Tryz.func54, Tryz.ntmps54
  go_wp2_with fail
  refine ha.mono ?_
  rintro e w1 ⟨rfl, B1⟩
  have hW1 := hW.bel B1
  have F1 := Wf.of_below B1 hq
  go_wp2_with fail
  refine (hsg _).mono ?_
  rintro e w2 ⟨rfl, rfl⟩
  go_wp2_with fail
  refine (hke w1 hW1 F1).mono ?_
  rintro e w3 ⟨rfl, h3, F3⟩
  go_wp2
  go_end0
  exact ⟨rfl, h3, F1.trans F3⟩
set_option maxHeartbeats 4000000 in
theorem node_msg {tx : List Int} {xs : List Nd} {s : List Int} (p : Nat) (M : MsgC tx xs s) : NodeC (.mk 9 tx p 0 [] xs) s := by
  intro q t w v hW hN hl
  obtain ⟨na, nc, la, lc, fl, rfl, _, sl, kf, _, _, hlt⟩ := hN.parts
  simp only [Nd.kind, Nd.text, Nd.pos, Nd.n, Nd.names, Nd.kids] at *
  have hq := hW.lt
  have M2 := fun w1 (hW1 : Wr q t w1) (F : Wf q w w1) => M q t w1 la lc fl hW1 (sl.wf F) (kf.wf F) hl
  generalize xs.length = n at *
  have E1 := newO w (.cells #[.int .i64 9, .string (strOfNums tx), .int .i64 (p : Int), .int .i64 0, .slice na 0 nc, .slice la n lc] 25)
  obtain ⟨z0, z1, z2, z3, z4, z5, _⟩ := nd_cells E1
  go_enter Tryz.func33, Tryz.ntmps33
  go_wp2_with fail
  refine (M2 _ (hW.bel boxO) (Wf.of_below boxO hq)).mono ?_
  rintro e w2 ⟨rfl, h1, F⟩
  go_wp2
  go_end0
  exact ⟨rfl, h1, (Wf.of_below boxO hq).trans F⟩
end Go.Proofs.YtncfmhlikmibaaaGreatDoor
namespace Go.Proofs.YtncfmhlikmibaaaGreatDoor
open Go.RowKit
set_option maxRecDepth 100000
theorem SlF.from1 {A : Nat → Prop} {w : World} {b off m kc : Nat} {fl : List Value} {x : Nd} {xs : List Nd} (hm : m = xs.length) (sl : SlF A w (some ⟨b, off, none⟩) (m + 1) kc fl) (kf : KsF A w (x :: xs) fl) : SlF A w (winN b off kc) m (kc - 1) (fl.drop 6) ∧ KsF A w xs (fl.drop 6) := by
  have hlen := kf.len
  have hrm := sl.room
  have hmst := sl.most
  constructor
  · refine ⟨by omega, by omega, fun e => ?_, fun h0 => ?_⟩
    · unfold winN at e
      split at e <;> simp at e
    · rw [List.length_drop] at h0
      rw [List.length_cons] at hlen
      have hne1 : ¬ kc = 1 := by omega
      obtain ⟨b', off', e, hA, hc⟩ := sl.cells (by omega)
      simp only [Option.some.injEq, Addr.mk.injEq, and_true] at e
      obtain ⟨rfl, rfl⟩ := e
      refine ⟨b, off + 6, by unfold winN; rw [if_neg hne1], hA, fun j u hj => ?_⟩
      rw [List.getElem?_drop] at hj
      have := hc (6 + j) u hj
      rwa [← Nat.add_assoc] at this
  · simp only [KsF] at kf
    obtain ⟨_, _, _, _, _, _, r, rfl, _, h2⟩ := kf
    exact h2
theorem fld25 (k : Int) (s : ByteArray) (p n : Int) (a b : Value) (w : World) : (Instr.field 25 (.agg #[.int .i64 k, .string s, .int .i64 p, .int .i64 n, a, b]) 1).run Tryz.prog w = .ok (.string s) w := by
  simp [Instr.field, asAgg, go_sem]
theorem part_row {w : World} {g : Nat} {k : Int} {s : ByteArray} {p n : Int} {na : Option Addr} {nl nc : Nat} {ka : Option Addr} {kl kc : Nat} (h : w.heap[g]? = some (.cells #[.int .i64 k, .string s, .int .i64 p, .int .i64 n, .slice na nl nc, .slice ka kl kc] 25)) :
    Calls Tryz.prog 87 #[.slice (some ⟨g, 0, none⟩) 1 1, .int .i64 0] w fun e w' => e = .returned (.agg #[.int .i64 k, .string s, .int .i64 p, .int .i64 n, .slice na nl nc, .slice ka kl kc]) ∧ Below w.heap.size w w' := by
  go_enter Tryz.func87, Tryz.ntmps87
  go_wp2_with (refine al25 _ rfl rfl ?_)
  intro q4 w1 E1 hq4 B1
  have h1 := (B1.block g (lt_of_block h)).trans h
  obtain ⟨z0, z1, z2, z3, z4, z5, _⟩ := nd_cells h1
  go_wp2_with (refine st25 _ rfl _ _ rfl rfl _ _ _ _ _ _ _ _ _ _ _ rfl rfl E1 ?_)
  intro wz Ez Sz
  go_wp2
  exact bodyPost_ret (results_cellT (a := 4) (t := 25) (by rfl) (by rfl) (load25 Ez)) (by rfl) ⟨rfl, B1.trans (Sz.below hq4)⟩
/-- What the operations yield. -/
def sntV (q g b0 m n kc wc : Nat) (tx : List Int) (ka wa : Option Addr) (j : Nat) : Value :=
  ([.pointer (some ⟨q, 0, none⟩),
    .pointer (some ⟨b0, 5, none⟩),
    .slice ka n kc,
    .slice (some ⟨g, 0, none⟩) 1 1,
    .agg #[.int .i64 9, .string (strOfNums tx), .int .i64 0, .int .i64 0, .slice none 0 0, .slice wa m wc],
    .string (strOfNums tx),
    .int .i64 (argsL tx : Int),
    .bool (decide (argsL tx = 0)),
    .tuple #[]] : List Value).getD j undef
theorem sntV_list {l : List Value} (hh : l.length = 9) : ∃ v0 v1 v2 v3 v4 v5 v6 v7 v8, l = [v0, v1, v2, v3, v4, v5, v6, v7, v8] := by
  obtain ⟨v0, t0, rfl, h0⟩ := cons_of hh
  obtain ⟨v1, t1, rfl, h1⟩ := cons_of h0
  obtain ⟨v2, t2, rfl, h2⟩ := cons_of h1
  obtain ⟨v3, t3, rfl, h3⟩ := cons_of h2
  obtain ⟨v4, t4, rfl, h4⟩ := cons_of h3
  obtain ⟨v5, t5, rfl, h5⟩ := cons_of h4
  obtain ⟨v6, t6, rfl, h6⟩ := cons_of h5
  obtain ⟨v7, t7, rfl, h7⟩ := cons_of h6
  obtain ⟨v8, t8, rfl, h8⟩ := cons_of h7
  obtain rfl := List.eq_nil_of_length_eq_zero h8
  exact ⟨_, _, _, _, _, _, _, _, _, rfl⟩
set_option maxHeartbeats 4000000 in
theorem sent_con {tx : List Int} {r : Nd} {xs : List Nd} {sr s : List Int} (p : Nat) (hb : ∀ y ∈ tx, 0 ≤ y ∧ y < 256) (H : NodeC r sr) (hi : inB r (decide (argsL tx = 0)) = false) (hbr : ∀ y ∈ r.text, 0 ≤ y ∧ y < 256) (M : MsgC tx xs s) (q : Nat) (t : List Int) (w : World) (v : Value) (hW : Wr q t w) (hN : NdV (Nb q w) w (.mk 7 tx p 0 [] (r :: xs)) v) (hl : t.length + (sr.length + s.length) ≤ 1000000) :
    Calls Tryz.prog 55 #[.pointer (some ⟨q, 0, none⟩), v] w fun e w' => e = .returned (.tuple #[]) ∧ Wr q (t ++ (sr ++ s)) w' ∧ Wf q w w' := by
  obtain ⟨na, nc, ka, kc, fl, rfl, _, sl, kf, _, hlk, hlt⟩ := hN.parts
  simp only [Nd.kind, Nd.text, Nd.pos, Nd.n, Nd.names, Nd.kids] at *
  have hq := hW.lt
  have hargs := fun w => args_is tx w hb (by omega)
  have hdb : ((argsL tx : Int) == 0) = decide (argsL tx = 0) := by
    by_cases h : argsL tx = 0 <;> simp [h]
  obtain ⟨m, hm⟩ : ∃ m, Hid (m = xs.length) := ⟨xs.length, show _ = _ from rfl⟩
  have hn1 : (r :: xs).length = m + 1 := by rw [List.length_cons, hm.out]
  have hfl := kf.len
  obtain ⟨b, off, rfl, _, _⟩ := sl.cells (by rw [hfl, List.length_cons]; omega)
  rw [hn1] at sl hlk ⊢
  obtain ⟨sl1, kf1⟩ := SlF.from1 hm.out sl kf
  have hmin : (min (1 : Int) ((m : Int) + 1)).toNat = 1 := by omega
  have hwin : (if kc = 1 then some (⟨b, off, none⟩ : Addr) else some ⟨b, off + 6, none⟩) = winN b off kc := rfl
  have h1m : (1 : Int) ≤ ((m + 1 : Nat) : Int) := by omega
  go_enter Tryz.func55, Tryz.ntmps55
  go_upto_region 4 with fail
  generalize (winN b off kc) = wa at *
  generalize kc - 1 = wc at *
  have B2 : Below w.heap.size w ((w.alloc (.cells #[.int .i64 7, .string (strOfNums tx), .int .i64 (p : Int), .int .i64 0, .slice na 0 nc, .slice (some ⟨b, off, none⟩) (m + 1) kc] 25)).alloc (.cells #[.int .i64 9, .string (strOfNums tx), .int .i64 0, .int .i64 0, .slice none 0 0, .slice wa m wc] 25)) := two_below
  have Eg := two_new w (.cells #[.int .i64 7, .string (strOfNums tx), .int .i64 (p : Int), .int .i64 0, .slice na 0 nc, .slice (some ⟨b, off, none⟩) (m + 1) kc] 25) (.cells #[.int .i64 9, .string (strOfNums tx), .int .i64 0, .int .i64 0, .slice none 0 0, .slice wa m wc] 25)
  have E0 : ((w.alloc (.cells #[.int .i64 7, .string (strOfNums tx), .int .i64 (p : Int), .int .i64 0, .slice na 0 nc, .slice (some ⟨b, off, none⟩) (m + 1) kc] 25)).alloc (.cells #[.int .i64 9, .string (strOfNums tx), .int .i64 0, .int .i64 0, .slice none 0 0, .slice wa m wc] 25)).heap[w.heap.size]? = _ := (boxO.block _ (by simp)).trans (newO w (.cells #[.int .i64 7, .string (strOfNums tx), .int .i64 (p : Int), .int .i64 0, .slice na 0 nc, .slice (some ⟨b, off, none⟩) (m + 1) kc] 25))
  generalize (w.alloc (.cells #[.int .i64 7, .string (strOfNums tx), .int .i64 (p : Int), .int .i64 0, .slice na 0 nc, .slice (some ⟨b, off, none⟩) (m + 1) kc] 25)).alloc (.cells #[.int .i64 9, .string (strOfNums tx), .int .i64 0, .int .i64 0, .slice none 0 0, .slice wa m wc] 25) = w2 at *
  have hbq : w.heap.size ≠ q := by omega
  have hgq : w.heap.size + 1 ≠ q := by omega
  generalize w.heap.size + 1 = g at *
  have F2 := Wf.of_below B2 hq
  have hW2 := hW.bel B2
  have hq2 := hW2.lt
  generalize w.heap.size = b0 at *
  generalize hka : some (⟨b, off, none⟩ : Addr) = ka at *
  generalize hnm : m + 1 = n at *
  have cellg : ∀ w', Below w2.heap.size w2 w' → w'.heap[g]? = _ := fun w' B => (B.block g (lt_of_block Eg)).trans Eg
  have cell5 : ∀ w', Below w2.heap.size w2 w' → w'.cell? ⟨b0, 5, none⟩ = some (.slice ka n kc) := fun w' B => (nd_cells ((B.block b0 (lt_of_block E0)).trans E0)).2.2.2.2.2.1
  have hop := fun w' (B : Below w2.heap.size w2 w') => operand_first H (decide (argsL tx = 0)) hi hbr q t w' (hW2.bel B) (by rw [hn1]) (sl.wf (F2.trans (Wf.of_below B hq2))) (kf.wf (F2.trans (Wf.of_below B hq2))) (by omega)
  have hpa : ∀ w', Wr q (t ++ sr) w' → Wf q w2 w' → Calls Tryz.prog 53 #[.pointer (some ⟨q, 0, none⟩), .slice (some ⟨g, 0, none⟩) 1 1, .string ⟨#[59]⟩] w' fun e w'' => e = .returned (.tuple #[]) ∧ Wr q (t ++ sr ++ s) w'' ∧ Wf q w' w'' := by
    intro w' h F
    have Eg' := F.row Eg (by decide) hgq
    have Fw := F2.trans F
    have hN' : NdV (Nb q w') w' (.mk 9 tx 0 0 [] xs) (.agg #[.int .i64 9, .string (strOfNums tx), .int .i64 0, .int .i64 0, .slice none 0 0, .slice wa m wc]) := by
      have := NdV.mk_ (A := Nb q w') (w := w') (k := 9) (t := tx) (p := 0) (n := 0) (l := []) (kids := xs) (SlF.nil _ _) (by have := sl1.wf Fw; rw [hm.out] at this; exact this) (kf1.wf Fw) (by decide) (by have := hm.out; omega) hlt
      rw [← hm.out] at this
      exact this
    exact parts_one (node_msg 0 M) q (t ++ sr) w' h (lit_sl Eg' (.inr ⟨hgq, _, Eg'⟩)) (KsF.one hN') (by simp; omega) _
  clear hwin hmin Eg E0 B2 hW2 hN sl sl1 kf kf1
  refine abstract_act fun A hA => ?_
  have hsz : A.tmps.size = 32 := by rw [hA]; rfl
  have s0 : A.tmps[0]? = some (.pointer (some ⟨q, 0, none⟩)) := by rw [hA]; rfl
  have s3 : A.tmps[3]? = some (.pointer (some ⟨b0, 0, none⟩)) := by rw [hA]; rfl
  have s4 : A.tmps[4]? = some (.slice (some ⟨g, 0, none⟩) 1 1) := by rw [hA]; rfl
  refine wp_region_inv' (fun A D a w' => ∃ (l : List Value), a = putAll A 20 l ∧ l.length = 9 ∧ (∀ j, j < 9 → D j → l[j]? = some (sntV q g b0 m n kc wc tx ka wa j)) ∧ (D 8 ∨ Below w2.heap.size w2 w') ∧ (D 8 → (Wr q (t ++ sr) w' ∧ Wf q w2 w'))) (by kernel_rfl) (by kernel_rfl) ?mono ?start ?step ?done
  case mono =>
    rintro D D' a w' hD ⟨l, ha, hlen, hl, hN, hL⟩
    exact ⟨l, ha, hlen, fun j hj h => hl j hj ((hD j).2 h), hN.imp_left (hD 8).1, fun h => hL ((hD 8).2 h)⟩
  case start => exact ⟨_, (putAll_start A 20 9 (by omega)).1, (putAll_start A 20 9 (by omega)).2, fun _ _ h => h.elim, .inr ((Below.refl _ w2).drew), fun h => h.elim⟩
  case step =>
    clear hA
    intro i o ho D a w' hI hn hcl hd
    obtain ⟨l, ha, hlen, hl, hN, hL⟩ := hI
    match i, ho with
    | 0, ho =>
      cases Option.some.inj ho
      have ev : a.tmps[0]? = some (.pointer (some ⟨q, 0, none⟩)) := by rw [ha, putAll_low A 20 0 l (by omega) (by decide)]; exact s0
      refine wp_value (w' := w') (v := .pointer (some ⟨q, 0, none⟩)) (by simp [execOp, ev, go_sem]) ?_
      exact ⟨_, by rw [ha]; exact putAll_put A 20 0 l _ (by omega) (by omega), by rw [List.length_set]; exact hlen, set_known hlen (by decide) hl, hN.imp_left .inr, fun h => hL (h.resolve_left (by decide))⟩
    | 1, ho =>
      cases Option.some.inj ho
      have ev : a.tmps[3]? = some (.pointer (some ⟨b0, 0, none⟩)) := by rw [ha, putAll_low A 20 3 l (by omega) (by decide)]; exact s3
      refine wp_value (w' := w') (v := .pointer (some ⟨b0, 5, none⟩)) (by simp [execOp, ev, go_sem]) ?_
      exact ⟨_, by rw [ha]; exact putAll_put A 20 1 l _ (by omega) (by omega), by rw [List.length_set]; exact hlen, set_known hlen (by decide) hl, hN.imp_left .inr, fun h => hL (h.resolve_left (by decide))⟩
    | 2, ho =>
      cases Option.some.inj ho
      have ev : a.tmps[21]? = some (.pointer (some ⟨b0, 5, none⟩)) := known_at ha hsz hlen hl 1 (by decide) (hd ⟨1, .data⟩ (by simp) rfl)
      have hN6 := hN.resolve_left (fun h => hn (hcl 8 _ rfl h ⟨2, .data⟩ (by simp) rfl))
      have c5 := cell5 w' hN6
      refine wp_value (w' := w') (v := .slice ka n kc) (by simp [execOp, ev, go_sem, c5]) ?_
      exact ⟨_, by rw [ha]; exact putAll_put A 20 2 l _ (by omega) (by omega), by rw [List.length_set]; exact hlen, set_known hlen (by decide) hl, hN.imp_left .inr, fun h => hL (h.resolve_left (by decide))⟩
    | 3, ho =>
      cases Option.some.inj ho
      have ev : a.tmps[4]? = some (.slice (some ⟨g, 0, none⟩) 1 1) := by rw [ha, putAll_low A 20 4 l (by omega) (by decide)]; exact s4
      refine wp_value (w' := w') (v := .slice (some ⟨g, 0, none⟩) 1 1) (by simp [execOp, ev, go_sem]) ?_
      exact ⟨_, by rw [ha]; exact putAll_put A 20 3 l _ (by omega) (by omega), by rw [List.length_set]; exact hlen, set_known hlen (by decide) hl, hN.imp_left .inr, fun h => hL (h.resolve_left (by decide))⟩
    | 4, ho =>
      cases Option.some.inj ho
      have ev : a.tmps[23]? = some (.slice (some ⟨g, 0, none⟩) 1 1) := known_at ha hsz hlen hl 3 (by decide) (hd ⟨3, .data⟩ (by simp) rfl)
      have hN6 := hN.resolve_left (fun h => (fun h => (fun h => (fun h => hn (hcl 5 _ rfl h ⟨4, .data⟩ (by simp) rfl)) (hcl 6 _ rfl h ⟨5, .data⟩ (by simp) rfl)) (hcl 7 _ rfl h ⟨6, .data⟩ (by simp) rfl)) (hcl 8 _ rfl h ⟨7, .data⟩ (by simp) rfl))
      refine wp_enter (f := 87) (args := #[.slice (some ⟨g, 0, none⟩) 1 1, .int .i64 0]) (by simp [execOp, ev, go_sem]) ?_
      refine (part_row (cellg w' hN6)).mono ?_
      rintro e w6 ⟨rfl, B9⟩
      refine ⟨_, rfl, ?_⟩
      exact ⟨_, by rw [ha]; exact putAll_put A 20 4 l _ (by omega) (by omega), by rw [List.length_set]; exact hlen, set_known hlen (by decide) hl, .inr (hN6.trans (B9.mono hN6.size)), fun h => absurd (h.resolve_left (by decide)) (fun h => (fun h => (fun h => (fun h => hn (hcl 5 _ rfl h ⟨4, .data⟩ (by simp) rfl)) (hcl 6 _ rfl h ⟨5, .data⟩ (by simp) rfl)) (hcl 7 _ rfl h ⟨6, .data⟩ (by simp) rfl)) (hcl 8 _ rfl h ⟨7, .data⟩ (by simp) rfl))⟩
    | 5, ho =>
      cases Option.some.inj ho
      have ev : a.tmps[24]? = some (.agg #[.int .i64 9, .string (strOfNums tx), .int .i64 0, .int .i64 0, .slice none 0 0, .slice wa m wc]) := known_at ha hsz hlen hl 4 (by decide) (hd ⟨4, .data⟩ (by simp) rfl)
      refine wp_value (w' := w') (v := .string (strOfNums tx)) (by simp [execOp, ev, go_sem, fld25]) ?_
      exact ⟨_, by rw [ha]; exact putAll_put A 20 5 l _ (by omega) (by omega), by rw [List.length_set]; exact hlen, set_known hlen (by decide) hl, hN.imp_left .inr, fun h => hL (h.resolve_left (by decide))⟩
    | 6, ho =>
      cases Option.some.inj ho
      have ev : a.tmps[25]? = some (.string (strOfNums tx)) := known_at ha hsz hlen hl 5 (by decide) (hd ⟨5, .data⟩ (by simp) rfl)
      have hN6 := hN.resolve_left (fun h => (fun h => hn (hcl 7 _ rfl h ⟨6, .data⟩ (by simp) rfl)) (hcl 8 _ rfl h ⟨7, .data⟩ (by simp) rfl))
      refine wp_enter (f := 15) (args := #[.string (strOfNums tx)]) (by simp [execOp, ev, go_sem]) ?_
      refine (hargs w').mono ?_
      rintro e w6 ⟨rfl, B9⟩
      refine ⟨_, rfl, ?_⟩
      exact ⟨_, by rw [ha]; exact putAll_put A 20 6 l _ (by omega) (by omega), by rw [List.length_set]; exact hlen, set_known hlen (by decide) hl, .inr (hN6.trans (B9.mono hN6.size)), fun h => absurd (h.resolve_left (by decide)) (fun h => (fun h => hn (hcl 7 _ rfl h ⟨6, .data⟩ (by simp) rfl)) (hcl 8 _ rfl h ⟨7, .data⟩ (by simp) rfl))⟩
    | 7, ho =>
      cases Option.some.inj ho
      have ev : a.tmps[26]? = some (.int .i64 (argsL tx : Int)) := known_at ha hsz hlen hl 6 (by decide) (hd ⟨6, .data⟩ (by simp) rfl)
      refine wp_value (w' := w') (v := .bool (decide (argsL tx = 0))) (by simp [execOp, ev, go_sem, hdb]) ?_
      exact ⟨_, by rw [ha]; exact putAll_put A 20 7 l _ (by omega) (by omega), by rw [List.length_set]; exact hlen, set_known hlen (by decide) hl, hN.imp_left .inr, fun h => hL (h.resolve_left (by decide))⟩
    | 8, ho =>
      cases Option.some.inj ho
      have ev : a.tmps[20]? = some (.pointer (some ⟨q, 0, none⟩)) := known_at ha hsz hlen hl 0 (by decide) (hd ⟨0, .data⟩ (by simp) rfl)
      have ev' : a.tmps[22]? = some (.slice ka n kc) := known_at ha hsz hlen hl 2 (by decide) (hd ⟨2, .data⟩ (by simp) rfl)
      have ev'' : a.tmps[27]? = some (.bool (decide (argsL tx = 0))) := known_at ha hsz hlen hl 7 (by decide) (hd ⟨7, .data⟩ (by simp) rfl)
      have hN6 := hN.resolve_left hn
      refine wp_enter (f := 85) (args := #[.pointer (some ⟨q, 0, none⟩), .slice ka n kc, .int .i64 0, .bool (decide (argsL tx = 0))]) (by simp [execOp, ev, ev', ev'', go_sem]) ?_
      refine (hop w' hN6).mono ?_
      rintro e w6 ⟨rfl, h9, F9⟩
      refine ⟨_, rfl, ?_⟩
      exact ⟨_, by rw [ha]; exact putAll_put A 20 8 l _ (by omega) (by omega), by rw [List.length_set]; exact hlen, set_known hlen (by decide) hl, .inl (.inl rfl), fun _ => ⟨h9, (Wf.of_below hN6 hq2).trans F9⟩⟩
    | i + 9, ho => simp at ho
  case done =>
    rintro D a w' ⟨l, ha, hlen, hl, hN, hL⟩ hall
    obtain ⟨v0, v1, v2, v3, v4, v5, v6, v7, v8, rfl⟩ := sntV_list hlen
    obtain ⟨h4, F4⟩ := hL (hall 8 (by decide))
    have hz := hl 8 (by decide) (hall 8 (by decide))
    simp only [List.getElem?_cons_succ, List.getElem?_cons_zero, Option.some.injEq] at hz
    have hz' : v8 = .tuple #[] := hz
    subst hz'
    subst hA
    have hfr : a = _ := ha
    rw [hfr]
    clear hfr ha
    simp only [putAll, List.take_succ_cons, List.take_zero, List.drop_succ_cons, List.drop_zero, List.cons_append, List.nil_append, List.length_cons, List.length_nil]
    clear hl hN hL hall
    go_wp2_with fail
    refine (hpa w' h4 F4).mono ?_
    rintro e w5 ⟨rfl, h5, F5⟩
    go_wp2
    go_end0
    exact ⟨rfl, by simpa [List.append_assoc] using h5, F2.trans (F4.trans F5)⟩
end Go.Proofs.YtncfmhlikmibaaaGreatDoor
