/- A source read: what Parse and Method answer. -/
import Derived.Test.YtncfmhlikmibaaaGreatDoorAll
import Derived.Test.YtncfmhlikmibaaaGreatDoorStm
import Derived.Test.YtncfmhlikmibaaaGreatDoorWrx
import Derived.Test.YtncfmhlikmibaaaGreatDoorAnyS
namespace Go.Proofs.YtncfmhlikmibaaaGreatDoor
open Go.RowKit
set_option maxRecDepth 100000
/-- A source that is none for its words alone. -/
def LexE (ss : List Int) (pl : Nat) (er : Int) : Prop :=
  (4096 < ss.length ∧ pl = 0 ∧ er = 3) ∨ (ss.length ≤ 4096 ∧ lexR rdB0 0 ss = .error pl ∧ er = 20)
/-- What a source is read as. -/
def TreP (ss : List Int) (m : Bool) (n : Nd) (pl : Nat) (er : Int) : Prop :=
  (LexE ss pl er ∧ n = zNd) ∨ ∃ W, ss.length ≤ 4096 ∧ lexR rdB0 0 ss = .ok W ∧ UnitR W m n pl er
set_option maxHeartbeats 2000000 in
theorem read_none (ss : List Int) (m : Bool) (pl : Nat) (er : Int) (h3 : er ≠ 0) (w : World)
    (HL : ∀ w, Calls Tryz.prog 24 #[.string (strOfNums ss)] w fun e w' => e = .returned (.tuple #[.slice none 0 0, .int .i64 (pl : Int), .int .i64 er]) ∧ Below w.heap.size w w') :
    Calls Tryz.prog 19 #[.string (strOfNums ss), .bool m] w fun e w' => ∃ v, e = .returned (.tuple #[v, .int .i64 (pl : Int), .int .i64 er]) ∧ NdB w.heap.size w' zNd v ∧ Below w.heap.size w w' := by
  have hne : (er != 0) = true := by simp [h3]
  go_enter Tryz.func19, Tryz.ntmps19
  go_wp2_with (refine al25 _ rfl rfl ?_)
  intro q w1 E1 hq B1
  go_wp2_with fail
  refine wp_scope_jumps 0 (fun a' w' => False) (fun _ _ => 0) rfl ?_ ?_
  · go_wp2_with fail
    refine (HL w1).mono ?_
    rintro e w2 ⟨rfl, B2⟩
    have B02 : Below w.heap.size w w2 := B1.trans (B2.mono B1.size)
    have E2 : w2.heap[q]? = _ := (B2.block _ (lt_of_block E1)).trans E1
    clear E1 B1 B2
    go_wp2_with (refine st25 _ rfl _ _ rfl rfl _ _ _ _ _ _ _ _ _ _ _ rfl rfl E2 ?_)
    intro w4 E4 S4
    go_wp2
    simp only [Exit.jump]
    exact bodyPost_ret (results_three (a := 4) (t := 25) (b := 5) (c := 6) (by rfl) (by rfl) (by rfl) (by rfl) (load25 E4)) (by rfl) ⟨_, rfl, NdB.zero, B02.trans (S4.below hq)⟩
  · rintro a' w' h
    exact h.elim
theorem tree_read (ss : List Int) (m : Bool) (w : World) (hb : ∀ x ∈ ss, 0 ≤ x ∧ x < 256) (hm : ss.length ≤ 9223372036854775807) :
    Calls Tryz.prog 19 #[.string (strOfNums ss), .bool m] w fun e w' => ∃ n pl er v, TreP ss m n pl er ∧ e = .returned (.tuple #[v, .int .i64 (pl : Int), .int .i64 er]) ∧ NdB w.heap.size w' n v ∧ Below w.heap.size w w' := by
  by_cases hl : 4096 < ss.length
  · refine (read_none ss m 0 3 (by decide) w fun w => (read_lex ss w hb hm).mono ?_).mono ?_
    · rintro e w' ⟨h, B⟩
      unfold RdP at h
      rw [if_pos hl] at h
      exact ⟨h, B⟩
    · rintro e w' ⟨v, he, hn, B⟩
      exact ⟨zNd, 0, 3, v, .inl ⟨.inl ⟨hl, rfl, rfl⟩, rfl⟩, he, hn, B⟩
  · have hl2 : ss.length ≤ 4096 := by omega
    cases ho : lexR rdB0 0 ss with
    | error p =>
      refine (read_none ss m p 20 (by decide) w fun w => (read_lex ss w hb hm).mono ?_).mono ?_
      · rintro e w' ⟨h, B⟩
        unfold RdP at h
        rw [if_neg hl, ho] at h
        exact ⟨h, B⟩
      · rintro e w' ⟨v, he, hn, B⟩
        exact ⟨zNd, p, 20, v, .inl ⟨.inr ⟨hl2, ho, rfl⟩, rfl⟩, he, hn, B⟩
    | ok W =>
      obtain ⟨S, hT, _⟩ := src_of ho hl2 hb
      have A := alls S hT (fun i d hi _ H => statements_con S hi H) (W.length - 1)
      refine (unit_con S (fun j hj => (A j 0 (by omega) hj (by decide)).body) ss m w fun w => (read_lex ss w hb hm).mono ?_).mono ?_
      · rintro e w' ⟨h, B⟩
        unfold RdP at h
        rw [if_neg hl, ho] at h
        exact ⟨h, B⟩
      · rintro e w' ⟨n, pl, er, v, hu, he, hn, B⟩
        exact ⟨n, pl, er, v, .inr ⟨W, hl2, ho, hu⟩, he, hn, B⟩
/-- Parse and Method. -/
theorem parse_any (f : Nat) (m : Bool) (hf : (f = 8 ∧ m = false) ∨ (f = 13 ∧ m = true)) (ss : List Int) (w : World) (hb : ∀ x ∈ ss, 0 ≤ x ∧ x < 256) (hm : ss.length ≤ 9223372036854775807) :
    Calls Tryz.prog f #[.string (strOfNums ss)] w fun e w' => ∃ n pl er v, TreP ss m n pl er ∧ e = .returned (.tuple #[v, .int .i64 (pl : Int), .int .i64 er]) ∧ NdB w.heap.size w' n v ∧ Below w.heap.size w w' := by
  rcases hf with ⟨rfl, rfl⟩ | ⟨rfl, rfl⟩
  · go_enter Tryz.func8, Tryz.ntmps8
    go_wp2_with (refine al25 _ rfl rfl ?_)
    intro q w1 E1 hq B1
    go_wp2_with fail
    refine (tree_read ss false w1 hb hm).mono ?_
    rintro e w2 ⟨n, pl, er, v, hu, rfl, hn, B2⟩
    obtain ⟨na, nc, ka, kc, _, rfl, _⟩ := NdV.parts hn
    have E2 : w2.heap[q]? = _ := (B2.block _ (lt_of_block E1)).trans E1
    have hql := lt_of_block E1
    go_wp2_with (refine st25 _ rfl _ _ rfl rfl _ _ _ _ _ _ _ _ _ _ _ rfl rfl E2 ?_)
    intro w4 E4 S4
    go_wp2
    exact bodyPost_ret (results_three (a := 2) (t := 25) (b := 3) (c := 4) (by rfl) (by rfl) (by rfl) (by rfl) (load25 E4)) (by rfl) ⟨n, pl, er, _, hu, rfl, hn.imp (fun b _ hA => ⟨by have := B1.size; omega, S4.block b (by omega)⟩) _ _, (B1.trans (B2.mono B1.size)).trans (S4.below hq)⟩
  · go_enter Tryz.func13, Tryz.ntmps13
    go_wp2_with (refine al25 _ rfl rfl ?_)
    intro q w1 E1 hq B1
    go_wp2_with fail
    refine (tree_read ss true w1 hb hm).mono ?_
    rintro e w2 ⟨n, pl, er, v, hu, rfl, hn, B2⟩
    obtain ⟨na, nc, ka, kc, _, rfl, _⟩ := NdV.parts hn
    have E2 : w2.heap[q]? = _ := (B2.block _ (lt_of_block E1)).trans E1
    have hql := lt_of_block E1
    go_wp2_with (refine st25 _ rfl _ _ rfl rfl _ _ _ _ _ _ _ _ _ _ _ rfl rfl E2 ?_)
    intro w4 E4 S4
    go_wp2
    exact bodyPost_ret (results_three (a := 2) (t := 25) (b := 3) (c := 4) (by rfl) (by rfl) (by rfl) (by rfl) (load25 E4)) (by rfl) ⟨n, pl, er, _, hu, rfl, hn.imp (fun b _ hA => ⟨by have := B1.size; omega, S4.block b (by omega)⟩) _ _, (B1.trans (B2.mono B1.size)).trans (S4.below hq)⟩
end Go.Proofs.YtncfmhlikmibaaaGreatDoor
namespace Go.Proofs.YtncfmhlikmibaaaGreatDoor
set_option maxRecDepth 100000
def srcK : List Int := [97, 32, 98, 32, 43, 32, 50, 32, 102, 111, 111, 58, 32, 51]
def WK : List Tk := [⟨1, [97], 0⟩, ⟨1, [98], 2⟩, ⟨3, [43], 4⟩, ⟨4, [50], 6⟩, ⟨2, [102, 111, 111, 58], 8⟩, ⟨4, [51], 13⟩, ⟨0, [], 14⟩]
theorem lexK : lexR rdB0 0 srcK = .ok WK := by kernel_rfl
def treK : Nd := .mk 12 [] 0 0 [] [.mk 7 [102, 111, 111, 58] 8 0 [] [.mk 7 [43] 4 0 [] [.mk 7 [98] 2 0 [] [.mk 5 [97] 0 0 [] []], .mk 1 [50] 6 0 [] []], .mk 1 [51] 13 0 [] []]]
theorem runK : runW WK 60 (.body 0 0 u0N) = some (.ok treK 6) := by kernel_rfl
def srcE : List Int := [97, 32, 93]
def WE : List Tk := [⟨1, [97], 0⟩, ⟨11, [93], 2⟩, ⟨0, [], 3⟩]
theorem lexE : lexR rdB0 0 srcE = .ok WE := by kernel_rfl
def treE : Nd := .mk 12 [] 0 0 [] [.mk 5 [97] 0 0 [] []]
theorem runE : runW WE 60 (.body 0 0 u0N) = some (.ok treE 1) := by kernel_rfl
theorem treP_ok {ss : List Int} {W : List Tk} {n x : Nd} {pl j f : Nat} {er : Int} (h : TreP ss false n pl er) (hl : ss.length ≤ 4096) (ho : lexR rdB0 0 ss = .ok W) (hr : runW W f (.body 0 0 u0N) = some (.ok x j)) : if kdW W j = 0 then n = x ∧ pl = 0 ∧ er = 0 else n = zNd ∧ pl = psW W j ∧ er = 20 := by
  rcases h with ⟨⟨h, _⟩ | ⟨_, h, _⟩, _⟩ | ⟨W', _, h, hu⟩
  · omega
  · rw [ho] at h; cases h
  · rw [ho] at h
    cases h
    unfold UnitR at hu
    rw [if_neg (by decide)] at hu
    obtain ⟨r, h1, h2⟩ := hu
    obtain rfl := h1.det ⟨f, hr⟩
    exact h2
theorem knownK {n : Nd} {pl : Nat} {er : Int} (h : TreP srcK false n pl er) : n = treK ∧ pl = 0 ∧ er = 0 := treP_ok h (by decide) lexK runK
theorem knownE {n : Nd} {pl : Nat} {er : Int} (h : TreP srcE false n pl er) : n = zNd ∧ pl = 2 ∧ er = 20 := treP_ok h (by decide) lexE runE
end Go.Proofs.YtncfmhlikmibaaaGreatDoor
namespace Go.Proofs.YtncfmhlikmibaaaGreatDoor
open Go.RowKit
set_option maxRecDepth 100000
set_option maxHeartbeats 4000000 in
theorem node_send {tx : List Int} {r : Nd} {xs : List Nd} {sr s : List Int} (p : Nat) (hb : ∀ y ∈ tx, 0 ≤ y ∧ y < 256) (H : NodeC r sr) (hi : inB r (decide (argsL tx = 0)) = false) (hbr : ∀ y ∈ r.text, 0 ≤ y ∧ y < 256) (M : MsgC tx xs s) : NodeC (.mk 7 tx p 0 [] (r :: xs)) (sr ++ s) := by
  intro q t w v hW hN hl
  rw [List.length_append] at hl
  have SC := fun w' (F : Wf q w w') (hW' : Wr q t w') => sent_con p hb H hi hbr M q t w' v hW' (hN.wf F) hl
  obtain ⟨na, nc, ka, kc, fl, rfl, _⟩ := hN.parts
  simp only [Nd.kind, Nd.text, Nd.pos, Nd.n, Nd.names, Nd.kids] at *
  have hq := hW.lt
  clear hN
  generalize (r :: xs).length = n at *
  have E1 := newO w (.cells #[.int .i64 7, .string (strOfNums tx), .int .i64 (p : Int), .int .i64 0, .slice na 0 nc, .slice ka n kc] 25)
  obtain ⟨z0, z1, z2, z3, z4, z5, _⟩ := nd_cells E1
  go_enter Tryz.func33, Tryz.ntmps33
  go_wp2_with fail
  refine (SC _ (Wf.of_below boxO hq) (hW.bel boxO)).mono ?_
  rintro e w2 ⟨rfl, h1, F⟩
  go_wp2
  go_end0
  exact ⟨rfl, h1, (Wf.of_below boxO hq).trans F⟩
set_option maxHeartbeats 4000000 in
theorem arguments_none (k : Int) (s : ByteArray) (p : Int) (na : Option Addr) (nc : Nat) (hna : na = none → nc = 0) (ka : Option Addr) (kl kc : Nat) (w : World) :
    Calls Tryz.prog 88 #[.agg #[.int .i64 k, .string s, .int .i64 p, .int .i64 0, .slice na 0 nc, .slice ka kl kc]] w fun e w' => e = .returned (.slice na 0 nc) ∧ Below w.heap.size w w' := by
  cases na with
  | none =>
    obtain rfl := hna rfl
    go_enter Tryz.func88, Tryz.ntmps88
    go_wp2
    go_ret
    exact ⟨rfl, boxO⟩
  | some a =>
    obtain ⟨b, off, sp⟩ := a
    go_enter Tryz.func88, Tryz.ntmps88
    go_wp2
    go_ret
    exact ⟨by simp, boxO⟩
end Go.Proofs.YtncfmhlikmibaaaGreatDoor
namespace Go.Proofs.YtncfmhlikmibaaaGreatDoor
open Go.RowKit
set_option maxRecDepth 100000
/-- What the operations yield. -/
def bdyV (b0 nc kc p : Nat) (tx : List Int) (na ka : Option Addr) (j : Nat) : Value :=
  ([.pointer (some ⟨b0, 4, none⟩),
    .slice na 0 nc,
    .agg #[.int .i64 12, .string (strOfNums tx), .int .i64 (p : Int), .int .i64 0, .slice na 0 nc, .slice ka 1 kc],
    .slice na 0 nc,
    .int .i64 0,
    .slice na 0 nc] : List Value).getD j undef
theorem bdyV_list {l : List Value} (hh : l.length = 6) : ∃ v0 v1 v2 v3 v4 v5, l = [v0, v1, v2, v3, v4, v5] := by
  obtain ⟨v0, t0, rfl, h0⟩ := cons_of hh
  obtain ⟨v1, t1, rfl, h1⟩ := cons_of h0
  obtain ⟨v2, t2, rfl, h2⟩ := cons_of h1
  obtain ⟨v3, t3, rfl, h3⟩ := cons_of h2
  obtain ⟨v4, t4, rfl, h4⟩ := cons_of h3
  obtain ⟨v5, t5, rfl, h5⟩ := cons_of h4
  obtain rfl := List.eq_nil_of_length_eq_zero h5
  exact ⟨_, _, _, _, _, _, rfl⟩
set_option maxHeartbeats 4000000 in
theorem body_write {x : Nd} {s : List Int} (H : NodeC x s) (tx : List Int) (p : Nat) (q : Nat) (t : List Int) (w : World) (v : Value) (hW : Wr q t w) (hN : NdV (Nb q w) w (.mk 12 tx p 0 [] [x]) v) (hl : t.length + s.length ≤ 1000000) :
    Calls Tryz.prog 89 #[.pointer (some ⟨q, 0, none⟩), v] w fun e w' => e = .returned (.tuple #[]) ∧ Wr q (t ++ s) w' ∧ Wf q w w' := by
  obtain ⟨na, nc, ka, kc, fl, rfl, sn, sl, kf, _, hlk, hlt⟩ := hN.parts
  simp only [Nd.kind, Nd.text, Nd.pos, Nd.n, Nd.names, Nd.kids, List.length_nil] at *
  have hq := hW.lt
  have hna := sn.nil0
  have hn1 : ([x] : List Nd).length = 1 := rfl
  rw [hn1] at sl hlk ⊢
  clear hn1 sn
  have PC := fun w' (F : Wf q w w') (h' : Wr q t w') => parts_one H q t w' h' (sl.wf F) (kf.wf F) hl ⟨#[46, 32]⟩
  clear hN sl kf hlk
  go_enter Tryz.func89, Tryz.ntmps89
  go_upto_region 1 with fail
  have B1 : Below w.heap.size w (w.alloc (.cells #[.int .i64 12, .string (strOfNums tx), .int .i64 (p : Int), .int .i64 0, .slice na 0 nc, .slice ka 1 kc] 25)) := boxO
  have E1 := newO w (.cells #[.int .i64 12, .string (strOfNums tx), .int .i64 (p : Int), .int .i64 0, .slice na 0 nc, .slice ka 1 kc] 25)
  generalize w.alloc (.cells #[.int .i64 12, .string (strOfNums tx), .int .i64 (p : Int), .int .i64 0, .slice na 0 nc, .slice ka 1 kc] 25) = w1 at *
  have F1 := Wf.of_below B1 hq
  have hW1 := hW.bel B1
  have hq1 := hW1.lt
  have hbq : w.heap.size ≠ q := by omega
  generalize w.heap.size = b0 at *
  have box : ∀ w', Below w1.heap.size w1 w' → w'.heap[b0]? = _ := fun w' B => (B.block b0 (lt_of_block E1)).trans E1
  clear E1 B1
  refine abstract_act fun A hA => ?_
  have hsz : A.tmps.size = 23 := by rw [hA]; rfl
  have st : A.tmps[4]? = some (undef) := by rw [hA]; rfl
  have s3 : A.tmps[3]? = some (.pointer (some ⟨b0, 0, none⟩)) := by rw [hA]; rfl
  refine wp_region_inv2' (fun A D a w' => ∃ (l : List Value) (vt : Value), a = (putAll A 5 l).put (some 4) vt ∧ l.length = 6 ∧ (∀ j, j < 6 → D j → l[j]? = some (bdyV b0 nc kc p tx na ka j)) ∧ (D 6 → vt = .slice na 0 nc) ∧ (Below w1.heap.size w1 w')) (by kernel_rfl) (by kernel_rfl) ?mono ?start ?step ?done
  case mono =>
    rintro D D' a w' hD ⟨l, vt, ha, hlen, hl, hvt, hN⟩
    exact ⟨l, vt, ha, hlen, fun j hj h => hl j hj ((hD j).2 h), fun h => hvt ((hD 6).2 h), hN⟩
  case start => exact ⟨_, _, putT_start A 5 6 4 _ (by omega) (by decide) st, (putAll_start A 5 6 (by omega)).2, fun _ _ h => h.elim, fun h => h.elim, (Below.refl _ w1).drew⟩
  case step =>
    clear hA
    intro i o ho D a w' hI hn hcl hd
    obtain ⟨l, vt, ha, hlen, hl, hvt, hN⟩ := hI
    match i, ho with
    | 0, ho =>
      cases Option.some.inj ho
      refine ⟨rfl, ?_⟩
      have ev : a.tmps[3]? = some (.pointer (some ⟨b0, 0, none⟩)) := by rw [ha, putT_other _ _ _ _ (by decide), putAll_low A 5 3 l (by omega) (by decide)]; exact s3
      refine wp_value (w' := w') (v := .pointer (some ⟨b0, 4, none⟩)) (by simp [execOp, ev, go_sem]) ?_
      exact ⟨_, vt, by rw [ha]; exact putT_put A 5 0 4 l _ _ (by omega) (by omega) (by decide), by rw [List.length_set]; exact hlen, set_known hlen (by decide) hl, fun h => hvt (h.resolve_left (by decide)), hN⟩
    | 1, ho =>
      cases Option.some.inj ho
      refine ⟨rfl, ?_⟩
      have ev : a.tmps[5]? = some (.pointer (some ⟨b0, 4, none⟩)) := known_atT ha hsz hlen hl 0 (by decide) (hd ⟨0, .data⟩ (by simp) rfl)
      obtain ⟨z0, z1, z2, z3, z4, z5, _⟩ := nd_cells (box w' hN)
      refine wp_value (w' := w') (v := .slice na 0 nc) (by simp [execOp, ev, go_sem, z4]) ?_
      exact ⟨_, vt, by rw [ha]; exact putT_put A 5 1 4 l _ _ (by omega) (by omega) (by decide), by rw [List.length_set]; exact hlen, set_known hlen (by decide) hl, fun h => hvt (h.resolve_left (by decide)), hN⟩
    | 2, ho =>
      cases Option.some.inj ho
      refine ⟨rfl, ?_⟩
      have ev : a.tmps[3]? = some (.pointer (some ⟨b0, 0, none⟩)) := by rw [ha, putT_other _ _ _ _ (by decide), putAll_low A 5 3 l (by omega) (by decide)]; exact s3
      obtain ⟨z0, z1, z2, z3, z4, z5, _⟩ := nd_cells (box w' hN)
      refine wp_value (w' := w') (v := .agg #[.int .i64 12, .string (strOfNums tx), .int .i64 (p : Int), .int .i64 0, .slice na 0 nc, .slice ka 1 kc]) (by simp [execOp, ev, go_sem, z0, z1, z2, z3, z4, z5]) ?_
      exact ⟨_, vt, by rw [ha]; exact putT_put A 5 2 4 l _ _ (by omega) (by omega) (by decide), by rw [List.length_set]; exact hlen, set_known hlen (by decide) hl, fun h => hvt (h.resolve_left (by decide)), hN⟩
    | 3, ho =>
      cases Option.some.inj ho
      refine ⟨rfl, ?_⟩
      have ev : a.tmps[7]? = some (.agg #[.int .i64 12, .string (strOfNums tx), .int .i64 (p : Int), .int .i64 0, .slice na 0 nc, .slice ka 1 kc]) := known_atT ha hsz hlen hl 2 (by decide) (hd ⟨2, .data⟩ (by simp) rfl)
      refine wp_enter (f := 88) (args := #[.agg #[.int .i64 12, .string (strOfNums tx), .int .i64 (p : Int), .int .i64 0, .slice na 0 nc, .slice ka 1 kc]]) (by simp [execOp, ev, go_sem]) ?_
      refine (arguments_none 12 (strOfNums tx) (p : Int) na nc hna ka 1 kc w').mono ?_
      rintro e w6 ⟨rfl, B9⟩
      refine ⟨_, rfl, ?_⟩
      exact ⟨_, vt, by rw [ha]; exact putT_put A 5 3 4 l _ _ (by omega) (by omega) (by decide), by rw [List.length_set]; exact hlen, set_known hlen (by decide) hl, fun h => hvt (h.resolve_left (by decide)), hN.trans (B9.mono hN.size)⟩
    | 4, ho =>
      cases Option.some.inj ho
      refine ⟨rfl, ?_⟩
      have ev : a.tmps[8]? = some (.slice na 0 nc) := known_atT ha hsz hlen hl 3 (by decide) (hd ⟨3, .data⟩ (by simp) rfl)
      refine wp_value (w' := w') (v := .int .i64 0) (by simp [execOp, ev, go_sem]) ?_
      exact ⟨_, vt, by rw [ha]; exact putT_put A 5 4 4 l _ _ (by omega) (by omega) (by decide), by rw [List.length_set]; exact hlen, set_known hlen (by decide) hl, fun h => hvt (h.resolve_left (by decide)), hN⟩
    | 5, ho =>
      cases Option.some.inj ho
      refine ⟨rfl, ?_⟩
      have ev : a.tmps[6]? = some (.slice na 0 nc) := known_atT ha hsz hlen hl 1 (by decide) (hd ⟨1, .data⟩ (by simp) rfl)
      have ev' : a.tmps[9]? = some (.int .i64 0) := known_atT ha hsz hlen hl 4 (by decide) (hd ⟨4, .data⟩ (by simp) rfl)
      refine wp_value (w' := w') (v := .slice na 0 nc) (by simp [execOp, ev, ev', go_sem]) ?_
      exact ⟨_, vt, by rw [ha]; exact putT_put A 5 5 4 l _ _ (by omega) (by omega) (by decide), by rw [List.length_set]; exact hlen, set_known hlen (by decide) hl, fun h => hvt (h.resolve_left (by decide)), hN⟩
    | 6, ho =>
      cases Option.some.inj ho
      refine ⟨rfl, ?_⟩
      have ev : a.tmps[10]? = some (.slice na 0 nc) := known_atT ha hsz hlen hl 5 (by decide) (hd ⟨5, .data⟩ (by simp) rfl)
      refine wp_value (w' := w') (v := .slice na 0 nc) (by simp [execOp, ev, go_sem]) ?_
      exact ⟨l, (.slice na 0 nc), by rw [ha]; exact putT_again _ _ _ _, hlen, fun j hj h => hl j hj (h.resolve_left (by omega)), fun _ => rfl, hN⟩
    | i + 7, ho => simp at ho
  case done =>
    rintro D a w' ⟨l, vt, ha, hlen, hl, hvt, hN⟩ hall
    obtain rfl := hvt (hall 6 (by decide))
    obtain ⟨v0, v1, v2, v3, v4, v5, rfl⟩ := bdyV_list hlen
    subst hA
    have hfr : a = _ := ha
    rw [hfr]
    clear hfr ha
    simp only [putAll, Act.put, List.setIfInBounds_toArray, List.set_cons_zero, List.set_cons_succ, List.take_succ_cons, List.take_zero, List.drop_succ_cons, List.drop_zero, List.cons_append, List.nil_append, List.length_cons, List.length_nil]
    clear hl hlen hall
    obtain ⟨z0, z1, z2, z3, z4, z5, _⟩ := nd_cells (box w' hN)
    have Fb := Wf.of_below hN hq1
    clear hsz st s3 box
    go_wp2_with fail
    refine (PC w' (F1.trans Fb) (hW1.bel hN)).mono ?_
    rintro e w5 ⟨rfl, h5, F5⟩
    go_wp2
    go_end0
    exact ⟨rfl, h5, F1.trans (Fb.trans F5)⟩
set_option maxHeartbeats 4000000 in
theorem node_unit {x : Nd} {s : List Int} (H : NodeC x s) : NodeC (.mk 12 [] 0 0 [] [x]) s := by
  intro q t w v hW hN hl
  have BC := fun w' (F : Wf q w w') (hW' : Wr q t w') => body_write H [] 0 q t w' v hW' (hN.wf F) hl
  obtain ⟨na, nc, ka, kc, fl, rfl, _⟩ := hN.parts
  simp only [Nd.kind, Nd.text, Nd.pos, Nd.n, Nd.names, Nd.kids] at *
  have hq := hW.lt
  have hn1 : ([x] : List Nd).length = 1 := rfl
  have e0 : strOfNums [] = ⟨#[]⟩ := rfl
  rw [hn1, e0] at BC ⊢
  clear hN hn1
  -- unit
  have UC : ∀ w', Wf q w w' → Wr q t w' → Calls Tryz.prog 57 #[.pointer (some ⟨q, 0, none⟩), .agg #[.int .i64 12, .string ⟨#[]⟩, .int .i64 ((0 : Nat) : Int), .int .i64 ((0 : Nat) : Int), .slice na ([] : List (List Int)).length nc, .slice ka 1 kc]] w' fun e w'' => e = .returned (.tuple #[]) ∧ Wr q (t ++ s) w'' ∧ Wf q w' w'' := by
    intro w' F hW'
    have hq' := hW'.lt
    simp only [List.length_nil, Int.natCast_zero] at BC ⊢
    have E1 := newO w' (.cells #[.int .i64 12, .string ⟨#[]⟩, .int .i64 0, .int .i64 0, .slice na 0 nc, .slice ka 1 kc] 25)
    obtain ⟨z0, z1, z2, z3, z4, z5, _⟩ := nd_cells E1
    go_enter Tryz.func57, Tryz.ntmps57
    go_wp2_with fail
    refine (BC _ (F.trans (Wf.of_below boxO hq')) (hW'.bel boxO)).mono ?_
    rintro e w2 ⟨rfl, h1, F2⟩
    go_wp2
    go_end0
    exact ⟨rfl, h1, (Wf.of_below boxO hq').trans F2⟩
  simp only [List.length_nil, Int.natCast_zero] at UC ⊢
  have E1 := newO w (.cells #[.int .i64 12, .string ⟨#[]⟩, .int .i64 0, .int .i64 0, .slice na 0 nc, .slice ka 1 kc] 25)
  obtain ⟨z0, z1, z2, z3, z4, z5, _⟩ := nd_cells E1
  go_enter Tryz.func33, Tryz.ntmps33
  go_wp2_with fail
  refine (UC _ (Wf.of_below boxO hq) (hW.bel boxO)).mono ?_
  rintro e w2 ⟨rfl, h1, F⟩
  go_wp2
  go_end0
  exact ⟨rfl, h1, (Wf.of_below boxO hq).trans F⟩
set_option maxHeartbeats 4000000 in
/-- Text of a part that is written so. -/
theorem text_is {x : Nd} {s : List Int} (H : NodeC x s) (hs : s ≠ []) (hb : ∀ y ∈ s, 0 ≤ y ∧ y < 256) (hl : s.length ≤ 1000000) (A : Nat → Prop) (w : World) (v : Value) (hN : NdV A w x v) :
    Calls Tryz.prog 21 #[v] w fun e w' => e = .returned (.string (strOfNums s)) ∧ Below w.heap.size w w' := by
  have hNq : ∀ q w2, w.heap.size ≤ q → Below w.heap.size w w2 → NdV (Nb q w2) w2 x v := fun q w2 hq B => hN.imp (fun b hb _ => ⟨.inl (by omega), B.block b hb⟩) _ _
  obtain ⟨na, nc, ka, kc, fl, rfl, _⟩ := hN.parts
  clear hN
  have E1 := newO w (.cells #[.int .i64 x.kind, .string (strOfNums x.text), .int .i64 (x.pos : Int), .int .i64 (x.n : Int), .slice na x.names.length nc, .slice ka x.kids.length kc] 25)
  have B1 : Below w.heap.size w (w.alloc (.cells #[.int .i64 x.kind, .string (strOfNums x.text), .int .i64 (x.pos : Int), .int .i64 (x.n : Int), .slice na x.names.length nc, .slice ka x.kids.length kc] 25)) := boxO
  have hs1 : (w.alloc (.cells #[.int .i64 x.kind, .string (strOfNums x.text), .int .i64 (x.pos : Int), .int .i64 (x.n : Int), .slice na x.names.length nc, .slice ka x.kids.length kc] 25)).heap.size = w.heap.size + 1 := by simp
  go_enter Tryz.func21, Tryz.ntmps21
  go_upto_region 2 with fail
  generalize w.alloc (.cells #[.int .i64 x.kind, .string (strOfNums x.text), .int .i64 (x.pos : Int), .int .i64 (x.n : Int), .slice na x.names.length nc, .slice ka x.kids.length kc] 25) = w1 at *
  have W2 : Wr w1.heap.size [] (w1.alloc (.cells #[.pointer none, .slice none 0 0] 70)) := Lib.IsBuilderF.of (Lib.fresh_isBuilder 70 5 w1)
  rw [hs1] at W2
  have B2 : Below w.heap.size w (w1.alloc (.cells #[.pointer none, .slice none 0 0] 70)) := B1.trans (boxO.mono B1.size)
  have E2 : (w1.alloc (.cells #[.pointer none, .slice none 0 0] 70)).heap[w.heap.size]? = _ := (boxO.block _ (lt_of_block E1)).trans E1
  generalize w1.alloc (.cells #[.pointer none, .slice none 0 0] 70) = w2 at *
  have N2 := hNq (w.heap.size + 1) w2 (Nat.le_succ _) B2
  have hq := W2.lt
  generalize hqn : w.heap.size + 1 = q at *
  have hqw : w.heap.size ≤ q := by omega
  obtain ⟨z0, z1, z2, z3, z4, z5, _⟩ := nd_cells E2
  clear E1 B1 hs1 hNq hqn
  go_wp2_with fail
  refine (H q [] w2 _ W2 N2 (by simp; omega)).mono ?_
  rintro e w3 ⟨rfl, h3, F3⟩
  have h3' : Lib.IsBuilderF 70 5 q q (s.map (Value.int .u8)) w3 := h3
  rw [← cells_bytes s hb] at h3'
  have SS := string70 q q (s.map fun n => UInt8.ofNat n.toNat) w3 h3' (by simpa using hs)
  have hso : (⟨(s.map fun n => UInt8.ofNat n.toNat).toArray⟩ : ByteArray) = strOfNums s := rfl
  rw [hso] at SS
  have B3 : Below w.heap.size w w3 := B2.trans (F3.bel.mono hqw)
  clear h3 h3' W2 N2 B2 F3 H hso
  go_wp2_with fail
  refine SS.mono ?_
  rintro e w4 ⟨rfl, _, B4, _⟩
  go_wp2
  go_ret
  exact ⟨rfl, B3.trans (B4.mono hqw)⟩
end Go.Proofs.YtncfmhlikmibaaaGreatDoor
namespace Go.Proofs.YtncfmhlikmibaaaGreatDoor
open Go.RowKit
set_option maxRecDepth 100000
theorem wrK : NodeC treK srcK := by
  have Ha := node_leaf 5 (.inr rfl) [97] 0 (by decide)
  have Mb := msg_un [98] [] (by decide) rfl
  have Hb := node_send 2 (by decide) Ha rfl (by decide) Mb
  have H2 := node_leaf 1 (.inl rfl) [50] 6 (by decide)
  have Mp := msg_sg [43] (r := []) (by decide) rfl H2 rfl (by decide)
  have Hp := node_send 4 (by decide) Hb rfl (by decide) Mp
  have H3 := node_leaf 1 (.inl rfl) [51] 13 (by decide)
  have Mf := msg_key [102, 111, 111] (by decide) (by decide) (by decide) rfl H3 rfl (by decide)
  have Hf := node_send 8 (by decide) Hp rfl (by decide) Mf
  exact node_unit Hf
set_option maxHeartbeats 8000000 in
theorem known_true (w : World) : Calls Tryz.prog 12 #[] w fun e w' => e = .returned (.bool true) ∧ Below w.heap.size w w' := by
  have e1 : (⟨#[97, 32, 98, 32, 43, 32, 50, 32, 102, 111, 111, 58, 32, 51]⟩ : ByteArray) = strOfNums srcK := rfl
  have e2 : (⟨#[97, 32, 93]⟩ : ByteArray) = strOfNums srcE := rfl
  have P1 := fun w => parse_any 8 false (.inl ⟨rfl, rfl⟩) srcK w (by decide) (by decide)
  have P2 := fun w => parse_any 8 false (.inl ⟨rfl, rfl⟩) srcE w (by decide) (by decide)
  have A1 := fun w => args_is [97, 116, 58, 112, 117, 116, 58] w (by decide) (by decide)
  have A2 := fun w => args_is [43] w (by decide) (by decide)
  have A3 := fun w => args_is [102, 111, 111] w (by decide) (by decide)
  have a1 : argsL [97, 116, 58, 112, 117, 116, 58] = 2 := rfl
  have a2 : argsL [43] = 1 := rfl
  have a3 : argsL [102, 111, 111] = 0 := rfl
  rw [a1] at A1
  rw [a2] at A2
  rw [a3] at A3
  rw [← e1] at P1
  rw [← e2] at P2
  go_enter Tryz.func12, Tryz.ntmps12
  go_wp2_with fail
  refine (P1 _).mono ?_
  rintro e w1 ⟨n, pl, er, v, ht, rfl, hn, B1⟩
  obtain ⟨rfl, rfl, rfl⟩ := knownK ht
  clear ht
  obtain ⟨na, nc, ka, kc, _, hv, _⟩ := NdV.parts hn
  replace hv : v = .agg #[.int .i64 12, .string ⟨#[]⟩, .int .i64 0, .int .i64 0, .slice na 0 nc, .slice ka 1 kc] := hv
  subst hv
  rw [Int.natCast_zero]
  go_wp2_with (refine al25 _ rfl rfl ?_)
  intro b1 w2 E2 hb1 B2
  go_wp2_with (refine st25 _ rfl _ _ rfl rfl _ _ _ _ _ _ _ _ _ _ _ rfl rfl E2 ?_)
  intro w3 E3 S3
  have B3 : Below w1.heap.size w1 w3 := B2.trans (S3.below hb1)
  have hn3 : NdV (fun b => w.heap.size ≤ b) w3 treK (.agg #[.int .i64 12, .string ⟨#[]⟩, .int .i64 0, .int .i64 0, .slice na 0 nc, .slice ka 1 kc]) := NdV.imp (w := w1) (fun b hb hA => ⟨hA, B3.block b hb⟩) _ _ hn
  have B03 : Below w.heap.size w w3 := B1.trans (B3.mono B1.size)
  clear E2 B2 S3 hn B3 B1
  go_wp2_with fail
  refine (P2 _).mono ?_
  rintro e w4 ⟨n2, pl2, er2, v2, ht, rfl, hn2, B4⟩
  obtain ⟨rfl, rfl, rfl⟩ := knownE ht
  clear ht
  obtain ⟨na2, nc2, ka2, kc2, _, hv, _⟩ := NdV.parts hn2
  replace hv : v2 = .agg #[.int .i64 0, .string ⟨#[]⟩, .int .i64 0, .int .i64 0, .slice na2 0 nc2, .slice ka2 0 kc2] := hv
  subst hv
  have E4 := (B4.block b1 (lt_of_block E3)).trans E3
  have hn4 : NdV (fun b => w.heap.size ≤ b) w4 treK (.agg #[.int .i64 12, .string ⟨#[]⟩, .int .i64 0, .int .i64 0, .slice na 0 nc, .slice ka 1 kc]) := NdV.imp (w := w3) (fun b hb hA => ⟨hA, B4.block b hb⟩) _ _ hn3
  have B04 : Below w.heap.size w w4 := B03.trans (B4.mono B03.size)
  clear hn3 E3 B4 hn2 B03
  go_wp2_with (refine al25 _ rfl rfl ?_)
  intro b5 w5 E5 hb5 B5
  go_wp2_with (refine st25 _ rfl _ _ rfl rfl _ _ _ _ _ _ _ _ _ _ _ rfl rfl E5 ?_)
  intro w6 E6 S6
  have B6 : Below w4.heap.size w4 w6 := B5.trans (S6.below hb5)
  have E7 := (B6.block b1 (lt_of_block E4)).trans E4
  have hn6 : NdV (fun b => w.heap.size ≤ b) w6 treK (.agg #[.int .i64 12, .string ⟨#[]⟩, .int .i64 0, .int .i64 0, .slice na 0 nc, .slice ka 1 kc]) := NdV.imp (w := w4) (fun b hb hA => ⟨hA, B6.block b hb⟩) _ _ hn4
  have B06 : Below w.heap.size w w6 := B04.trans (B6.mono B04.size)
  obtain ⟨z0, z1, z2, z3, z4, z5, _⟩ := nd_cells E7
  clear E5 B5 S6 E6 E4 hn4 B6 B04
  have T := text_is wrK (by decide) (by decide) (by decide) _ w6 _ hn6
  rw [← e1] at T
  go_wp2_with fail
  refine T.mono ?_
  rintro e w7 ⟨rfl, B7⟩
  have B07 : Below w.heap.size w w7 := B06.trans (B7.mono B06.size)
  clear z0 z1 z2 z3 z4 z5 T B06 B7 E7 hn6
  go_wp2_with fail
  refine (A1 _).mono ?_
  rintro e w8 ⟨rfl, B8⟩
  replace B07 := B07.trans (B8.mono B07.size)
  go_wp2_with fail
  refine (A2 _).mono ?_
  rintro e w9 ⟨rfl, B9⟩
  replace B07 := B07.trans (B9.mono B07.size)
  go_wp2_with fail
  refine (A3 _).mono ?_
  rintro e w10 ⟨rfl, B10⟩
  replace B07 := B07.trans (B10.mono B07.size)
  go_wp2
  go_ret
  exact ⟨rfl, B07⟩
end Go.Proofs.YtncfmhlikmibaaaGreatDoor
