/- The writer: a unit, and Text. -/
import Derived.Test.YtncfmhlikmibaaaGreatDoorWrn
import Derived.Test.YtncfmhlikmibaaaGreatDoorOth
import Derived.Test.YtncfmhlikmibaaaGreatDoorExp
namespace Go.Proofs.YtncfmhlikmibaaaGreatDoor
open Go.RowKit
set_option maxRecDepth 100000
set_option maxHeartbeats 16000000
def MsgC (tx : List Int) (xs : List Nd) (s : List Int) : Prop := ∀ (q : Nat) (t : List Int) (w : World) (ka : Option Addr) (kc : Nat) (fl : List Value), Wr q t w → SlF (Nb q w) w ka xs.length kc fl → KsF (Nb q w) w xs fl → t.length + s.length ≤ 1000000 →
 Calls Tryz.prog 54 #[.pointer (some ⟨q, 0, none⟩), .string (strOfNums tx), .slice ka xs.length kc] w fun e w' => e = .returned (.tuple #[]) ∧ Wr q (t ++ s) w' ∧ Wf q w w'
theorem msg_un (tx : List Int) (xs : List Nd) (hb : ∀ y ∈ tx, 0 ≤ y ∧ y < 256) (h0 : Zcx tx = 0) : MsgC tx xs ([32] ++ tx) := by
 intro q t w ka kc fl hW sl kf hl
 simp only [List.length_append, List.length_singleton] at hl
 have ha := Zdz tx w hb (by omega)
 rw [h0, Int.natCast_zero] at ha
 have hq := hW.lt
 generalize xs.length = n at *
 clear sl kf
 go_enter Tryz.func54, Tryz.ntmps54
 go_wp2_with fail
 refine ha.mono ?_
 rintro e w1 ⟨rfl, B1⟩
 have hW1 := hW.bel B1
 have P : Calls Tryz.prog 50 #[.pointer (some ⟨q, 0, none⟩), .slice (some ⟨w1.heap.size, 0, none⟩) 2 2] (w1.alloc (.cells #[.string ⟨#[32]⟩, .string (strOfNums tx)] 9)) fun e w' => e = .returned (.tuple #[]) ∧ Wr q (t ++ [[32], tx].flatten) w' ∧ Wf q w1 w' :=
  Zki q [[32], tx] t w1 _ w1.heap.size hW1 (Zc0 w1 _) zo Zbc (fun u hu => by
   simp only [List.mem_cons, List.not_mem_nil, or_false] at hu
   rcases hu with rfl | rfl
   ·decide
   exact hb) (by simp; omega) (by simp)
 go_wp2_with fail
 refine P.mono ?_
 rintro e w2 ⟨rfl, h2, F2⟩
 go_wp2
 go_end0
 exact ⟨rfl, by simpa using h2, (Wf.of_below B1 hq).trans F2⟩
theorem msg_sg (tx : List Int) {x : Nd} {r : List Nd} {s : List Int} (hb : ∀ y ∈ tx, 0 ≤ y ∧ y < 256) (hs : sgnL tx = true) (H : Zey x s) (hi : inB x true = false) (hbt : ∀ y ∈ x.text, 0 ≤ y ∧ y < 256) : MsgC tx (x :: r) ([32] ++ tx ++ [32] ++ s) := by
 intro q t w ka kc fl hW sl kf hl
 simp only [List.length_append, List.length_singleton] at hl
 have ha := Zdz tx w hb (by omega)
 have h1 : Zcx tx = 1 := by rw [Zhn, hs]; rfl
 rw [h1] at ha
 have hq := hW.lt
 obtain ⟨n, hn⟩ : ∃ n, Hid (n = (x :: r).length) := ⟨(x :: r).length, show _ = _ from rfl⟩
 rw [← hn.out] at sl ⊢
 go_enter Tryz.func54, Tryz.ntmps54
 go_wp2_with fail
 refine ha.mono ?_
 rintro e w1 ⟨rfl, B1⟩
 have hW1 := hW.bel B1
 have hsg := Zdr tx w1 hb (by omega)
 rw [hs] at hsg
 have F1 := Wf.of_below B1 hq
 have P : Calls Tryz.prog 50 #[.pointer (some ⟨q, 0, none⟩), .slice (some ⟨w1.heap.size, 0, none⟩) 3 3] (w1.alloc (.cells #[.string ⟨#[32]⟩, .string (strOfNums tx), .string ⟨#[32]⟩] 9)) fun e w' => e = .returned (.tuple #[]) ∧ Wr q (t ++ [[32], tx, [32]].flatten) w' ∧ Wf q w1 w' :=
  Zki q [[32], tx, [32]] t w1 _ w1.heap.size hW1 (Zc0 w1 _) zo Zbc (fun u hu => by
   simp only [List.mem_cons, List.not_mem_nil, or_false] at hu
   rcases hu with rfl | rfl | rfl
   ·decide
   ·exact hb
   decide) (by simp; omega) (by simp)
 go_wp2_with fail
 refine hsg.mono ?_
 rintro e w2 ⟨rfl, rfl⟩
 go_wp2_with fail
 refine P.mono ?_
 rintro e w2 ⟨rfl, h2, F2⟩
 have F02 := F1.trans F2
 clear P hsg ha
 go_wp2_with fail
 refine (Zde H true hi hbt q _ w2 h2 hn.out (sl.wf F02) (kf.wf F02) (by simp; omega)).mono ?_
 rintro e w3 ⟨rfl, h3, F3⟩
 go_wp2
 go_end0
 exact ⟨rfl, by simpa [List.append_assoc] using h3, F02.trans F3⟩
theorem msg_key (k : List Int) {x : Nd} {s : List Int} (hk : k.count 58 = 0) (hbk : ∀ y ∈ k, 0 ≤ y ∧ y < 128) (hkl : k.length ≤ 1000) (hs : sgnL (k ++ [58]) = false) (H : Zey x s) (hi : inB x false = false) (hbt : ∀ y ∈ x.text, 0 ≤ y ∧ y < 256) : MsgC (k ++ [58]) [x] ([32] ++ (k ++ [58]) ++ [32] ++ s) := by
 intro q t w ka kc fl hW sl kf hl
 simp only [List.length_append, List.length_singleton] at hl
 have hb : ∀ y ∈ k ++ [58], 0 ≤ y ∧ y < 256 := by
  intro y hy
  rcases List.mem_append.1 hy with h | h
  ·have := hbk y h; omega
  rw [List.mem_singleton.1 h]; omega
 have ha := Zdz (k ++ [58]) w hb (by simp; omega)
 have h1 : Zcx (k ++ [58]) = 1 := by rw [Zhn, hs, if_neg (by decide), List.count_append, hk]; rfl
 rw [h1] at ha
 have hq := hW.lt
 have sl1 : SlF (Nb q w) w ka 1 kc fl := sl
 have hl1 : ([x] : List Nd).length = 1 := rfl
 rw [hl1]
 have hsg := fun w => Zdr (k ++ [58]) w hb (by simp; omega)
 rw [hs] at hsg
 have hke := fun w1 (hW1 : Wr q t w1) (F : Wf q w w1) => Zqj H hi hbt k hk hbk hkl q t w1 hW1 (sl1.wf F) (kf.wf F) (by omega)
 clear hl1 sl
 generalize k ++ [58] = tx at *
 go_enter Tryz.func54, Tryz.ntmps54
 go_wp2_with fail
 refine ha.mono ?_
 rintro e w1 ⟨rfl, B1⟩
 have hW1 := hW.bel B1
 have F1 := Wf.of_below B1 hq
 go_wp2_with fail
 refine (hsg _).mono ?_
 rintro e w2 ⟨rfl, rfl⟩
 go_wp2_with fail
 refine (hke w1 hW1 F1).mono ?_
 rintro e w3 ⟨rfl, h3, F3⟩
 go_wp2
 go_end0
 exact ⟨rfl, h3, F1.trans F3⟩
theorem node_msg {tx : List Int} {xs : List Nd} {s : List Int} (p : Nat) (M : MsgC tx xs s) : Zey (.mk 9 tx p 0 [] xs) s := by
 intro q t w v hW hN hl
 obtain ⟨na, nc, la, lc, fl, rfl, _, sl, kf, _, _, hlt⟩ := hN.parts
 simp only [Nd.kind, Nd.text, Nd.pos, Nd.n, Nd.names, Nd.kids] at *
 have hq := hW.lt
 have M2 := fun w1 (hW1 : Wr q t w1) (F : Wf q w w1) => M q t w1 la lc fl hW1 (sl.wf F) (kf.wf F) hl
 generalize xs.length = n at *
 have E1 := Zc0 w (.cells #[.int .i64 9, .string (strOfNums tx), .int .i64 (p : Int), .int .i64 0, .slice na 0 nc, .slice la n lc] 25)
 obtain ⟨z0, z1, z2, z3, z4, z5, _⟩ := Zae E1
 go_enter Tryz.func33, Tryz.ntmps33
 go_wp2_with fail
 refine (M2 _ (hW.bel Zbc) (Wf.of_below Zbc hq)).mono ?_
 rintro e w2 ⟨rfl, h1, F⟩
 go_wp2
 go_end0
 exact ⟨rfl, h1, (Wf.of_below Zbc hq).trans F⟩
theorem SlF.from1 {A : Nat → Prop} {w : World} {b off m kc : Nat} {fl : List Value} {x : Nd} {xs : List Nd} (hm : m = xs.length) (sl : SlF A w (some ⟨b, off, none⟩) (m + 1) kc fl) (kf : KsF A w (x :: xs) fl) : SlF A w (Zj9 b off kc) m (kc - 1) (fl.drop 6) ∧ KsF A w xs (fl.drop 6) := by
 have Lh := kf.len
 have hrm := sl.room
 have hmst := sl.most
 constructor
 ·refine ⟨by omega, by omega, fun e => ?_, fun h0 => ?_⟩
  ·unfold Zj9 at e
   split at e <;> simp at e
  rw [List.length_drop] at h0
  rw [List.length_cons] at Lh
  have hne1 : ¬ kc = 1 := by omega
  obtain ⟨b', off', e, hA, hc⟩ := sl.cells (by omega)
  simp only [Option.some.injEq, Addr.mk.injEq, and_true] at e
  obtain ⟨rfl, rfl⟩ := e
  refine ⟨b, off + 6, by unfold Zj9; rw [if_neg hne1], hA, fun j u hj => ?_⟩
  rw [List.getElem?_drop] at hj
  have := hc (6 + j) u hj
  rwa [← Nat.add_assoc] at this
 simp only [KsF] at kf
 obtain ⟨_, _, _, _, _, _, r, rfl, _, h2⟩ := kf
 exact h2
theorem fld25 (k : Int) (s : ByteArray) (p n : Int) (a b : Value) (w : World) : (Instr.field 25 (.agg #[.int .i64 k, .string s, .int .i64 p, .int .i64 n, a, b]) 1).run Tryz.prog w = .ok (.string s) w := by
 simp [Instr.field, asAgg, go_sem]
theorem part_row {w : World} {g : Nat} {k : Int} {s : ByteArray} {p n : Int} {na : Option Addr} {nl nc : Nat} {ka : Option Addr} {kl kc : Nat} (h : w.heap[g]? = some (.cells #[.int .i64 k, .string s, .int .i64 p, .int .i64 n, .slice na nl nc, .slice ka kl kc] 25)) :
  Calls Tryz.prog 87 #[.slice (some ⟨g, 0, none⟩) 1 1, .int .i64 0] w fun e w' => e = .returned (.agg #[.int .i64 k, .string s, .int .i64 p, .int .i64 n, .slice na nl nc, .slice ka kl kc]) ∧ Below w.heap.size w w' := by
 go_enter Tryz.func87, Tryz.ntmps87
 go_wp2_with (refine Zdl _ rfl rfl ?_)
 intro q4 w1 E1 hq4 B1
 have h1 := (B1.block g (lt_of_block h)).trans h
 obtain ⟨z0, z1, z2, z3, z4, z5, _⟩ := Zae h1
 go_wp2_with (refine Zar rfl rfl rfl rfl rfl E1 ?_)
 intro wz Ez Sz
 go_wp2
 exact bodyPost_ret (Zas (a := 4) (t := 25) (by rfl) (by rfl) (Zal Ez)) (by rfl) ⟨rfl, B1.trans (Sz.below hq4)⟩
def sntV (q g b0 m n kc wc : Nat) (tx : List Int) (ka wa : Option Addr) (j : Nat) : Value :=
 ([.pointer (some ⟨q, 0, none⟩),
  .pointer (some ⟨b0, 5, none⟩),
  .slice ka n kc,
  .slice (some ⟨g, 0, none⟩) 1 1,
  .agg #[.int .i64 9, .string (strOfNums tx), .int .i64 0, .int .i64 0, .slice none 0 0, .slice wa m wc],
  .string (strOfNums tx),
  .int .i64 (Zcx tx : Int),
  .bool (decide (Zcx tx = 0)),
  .tuple #[]] : List Value).getD j undef
theorem sent_con {tx : List Int} {r : Nd} {xs : List Nd} {sr s : List Int} (p : Nat) (hb : ∀ y ∈ tx, 0 ≤ y ∧ y < 256) (H : Zey r sr) (hi : inB r (decide (Zcx tx = 0)) = false) (hbr : ∀ y ∈ r.text, 0 ≤ y ∧ y < 256) (M : MsgC tx xs s) (q : Nat) (t : List Int) (w : World) (v : Value) (hW : Wr q t w) (hN : NdV (Nb q w) w (.mk 7 tx p 0 [] (r :: xs)) v) (hl : t.length + (sr.length + s.length) ≤ 1000000) :
  Calls Tryz.prog 55 #[.pointer (some ⟨q, 0, none⟩), v] w fun e w' => e = .returned (.tuple #[]) ∧ Wr q (t ++ (sr ++ s)) w' ∧ Wf q w w' := by
 obtain ⟨na, nc, ka, kc, fl, rfl, _, sl, kf, _, hlk, hlt⟩ := hN.parts
 simp only [Nd.kind, Nd.text, Nd.pos, Nd.n, Nd.names, Nd.kids] at *
 have hq := hW.lt
 have hargs := fun w => Zdz tx w hb (by omega)
 have hdb : ((Zcx tx : Int) == 0) = decide (Zcx tx = 0) := by
  by_cases h : Zcx tx = 0 <;> simp [h]
 obtain ⟨m, hm⟩ : ∃ m, Hid (m = xs.length) := ⟨xs.length, show _ = _ from rfl⟩
 have hn1 : (r :: xs).length = m + 1 := by rw [List.length_cons, hm.out]
 have hfl := kf.len
 obtain ⟨b, off, rfl, _, _⟩ := sl.cells (by rw [hfl, List.length_cons]; omega)
 rw [hn1] at sl hlk ⊢
 obtain ⟨sl1, kf1⟩ := SlF.from1 hm.out sl kf
 have hmin : (min (1 : Int) ((m : Int) + 1)).toNat = 1 := by omega
 have hwin : (if kc = 1 then some (⟨b, off, none⟩ : Addr) else some ⟨b, off + 6, none⟩) = Zj9 b off kc := rfl
 have h1m : (1 : Int) ≤ ((m + 1 : Nat) : Int) := by omega
 go_enter Tryz.func55, Tryz.ntmps55
 go_upto_region 4 with fail
 generalize (Zj9 b off kc) = wa at *
 generalize kc - 1 = wc at *
 have B2 : Below w.heap.size w ((w.alloc (.cells #[.int .i64 7, .string (strOfNums tx), .int .i64 (p : Int), .int .i64 0, .slice na 0 nc, .slice (some ⟨b, off, none⟩) (m + 1) kc] 25)).alloc (.cells #[.int .i64 9, .string (strOfNums tx), .int .i64 0, .int .i64 0, .slice none 0 0, .slice wa m wc] 25)) := Zgu
 have Eg := Zl9 w (.cells #[.int .i64 7, .string (strOfNums tx), .int .i64 (p : Int), .int .i64 0, .slice na 0 nc, .slice (some ⟨b, off, none⟩) (m + 1) kc] 25) (.cells #[.int .i64 9, .string (strOfNums tx), .int .i64 0, .int .i64 0, .slice none 0 0, .slice wa m wc] 25)
 have E0 : ((w.alloc (.cells #[.int .i64 7, .string (strOfNums tx), .int .i64 (p : Int), .int .i64 0, .slice na 0 nc, .slice (some ⟨b, off, none⟩) (m + 1) kc] 25)).alloc (.cells #[.int .i64 9, .string (strOfNums tx), .int .i64 0, .int .i64 0, .slice none 0 0, .slice wa m wc] 25)).heap[w.heap.size]? = _ := (Zbc.block _ (by simp)).trans (Zc0 w (.cells #[.int .i64 7, .string (strOfNums tx), .int .i64 (p : Int), .int .i64 0, .slice na 0 nc, .slice (some ⟨b, off, none⟩) (m + 1) kc] 25))
 generalize (w.alloc (.cells #[.int .i64 7, .string (strOfNums tx), .int .i64 (p : Int), .int .i64 0, .slice na 0 nc, .slice (some ⟨b, off, none⟩) (m + 1) kc] 25)).alloc (.cells #[.int .i64 9, .string (strOfNums tx), .int .i64 0, .int .i64 0, .slice none 0 0, .slice wa m wc] 25) = w2 at *
 have hbq : w.heap.size ≠ q := by omega
 have hgq : w.heap.size + 1 ≠ q := by omega
 generalize w.heap.size + 1 = g at *
 have F2 := Wf.of_below B2 hq
 have hW2 := hW.bel B2
 have hq2 := hW2.lt
 generalize w.heap.size = b0 at *
 generalize hka : some (⟨b, off, none⟩ : Addr) = ka at *
 generalize hnm : m + 1 = n at *
 have cellg : ∀ w', Below w2.heap.size w2 w' → w'.heap[g]? = _ := fun w' B => (B.block g (lt_of_block Eg)).trans Eg
 have cell5 : ∀ w', Below w2.heap.size w2 w' → w'.cell? ⟨b0, 5, none⟩ = some (.slice ka n kc) := fun w' B => (Zae ((B.block b0 (lt_of_block E0)).trans E0)).2.2.2.2.2.1
 have hop := fun w' (B : Below w2.heap.size w2 w') => Zde H (decide (Zcx tx = 0)) hi hbr q t w' (hW2.bel B) (by rw [hn1]) (sl.wf (F2.trans (Wf.of_below B hq2))) (kf.wf (F2.trans (Wf.of_below B hq2))) (by omega)
 have hpa : ∀ w', Wr q (t ++ sr) w' → Wf q w2 w' → Calls Tryz.prog 53 #[.pointer (some ⟨q, 0, none⟩), .slice (some ⟨g, 0, none⟩) 1 1, .string ⟨#[59]⟩] w' fun e w'' => e = .returned (.tuple #[]) ∧ Wr q (t ++ sr ++ s) w'' ∧ Wf q w' w'' := by
  intro w' h F
  have Eg' := F.row Eg (by decide) hgq
  have Fw := F2.trans F
  have hN' : NdV (Nb q w') w' (.mk 9 tx 0 0 [] xs) (.agg #[.int .i64 9, .string (strOfNums tx), .int .i64 0, .int .i64 0, .slice none 0 0, .slice wa m wc]) := by
   have := NdV.mk_ (A := Nb q w') (w := w') (k := 9) (t := tx) (p := 0) (n := 0) (l := []) (kids := xs) (SlF.nil _ _) (by have := sl1.wf Fw; rw [hm.out] at this; exact this) (kf1.wf Fw) (by decide) (by have := hm.out; omega) hlt
   rw [← hm.out] at this
   exact this
  exact Zlb (node_msg 0 M) q (t ++ sr) w' h (Ze6 Eg' (.inr ⟨hgq, _, Eg'⟩)) (KsF.one hN') (by simp; omega) _
 clear hwin hmin Eg E0 B2 hW2 hN sl sl1 kf kf1
 refine Zah fun A hA => ?_
 have hsz : A.tmps.size = 32 := by rw [hA]; rfl
 have s0 : A.tmps[0]? = some (.pointer (some ⟨q, 0, none⟩)) := by rw [hA]; rfl
 have s3 : A.tmps[3]? = some (.pointer (some ⟨b0, 0, none⟩)) := by rw [hA]; rfl
 have s4 : A.tmps[4]? = some (.slice (some ⟨g, 0, none⟩) 1 1) := by rw [hA]; rfl
 refine zR1 (fun A D a w' => ∃ (l : List Value), a = Zaj A 20 l ∧ l.length = 9 ∧ (∀ j, j < 9 → D j → l[j]? = some (sntV q g b0 m n kc wc tx ka wa j)) ∧ (D 8 ∨ Below w2.heap.size w2 w') ∧ (D 8 → (Wr q (t ++ sr) w' ∧ Wf q w2 w'))) ?start ?step ?done
 case start => exact ⟨_, zS 20 9 hsz, zG 20 9 hsz, zK, .inr ((Below.refl _ w2).drew), zf⟩
 case step =>
  clear hA
  intro i o ho D a w' hI hn hcl hd
  obtain ⟨l, ha, Lh, hl, hN, hL⟩ := hI
  match i, ho with
  | 0, ho =>
   cases zq ho
   exact zm (zu 0 ha Lh hsz s0) ⟨_, zp 0 ha Lh hsz, zh Lh, zk Lh hl, zl hN, zr hL⟩
  | 1, ho =>
   cases zq ho
   have ev : a.tmps[3]? = some (.pointer (some ⟨b0, 0, none⟩)) := zu 3 ha Lh hsz s3
   exact zx (.pointer (some ⟨b0, 5, none⟩)) (by simp [execOp, ev, go_sem]) ⟨_, zp 1 ha Lh hsz, zh Lh, zk Lh hl, zl hN, zr hL⟩
  | 2, ho =>
   cases zq ho
   have ev : a.tmps[21]? = some (.pointer (some ⟨b0, 5, none⟩)) := zv ha hsz Lh hl 1 hd
   have hN6 := hN.resolve_left (fun h => hn (zc hcl 8 2 rfl h))
   have c5 := cell5 w' hN6
   exact zx (.slice ka n kc) (by simp [execOp, ev, go_sem, c5]) ⟨_, zp 2 ha Lh hsz, zh Lh, zk Lh hl, zl hN, zr hL⟩
  | 3, ho =>
   cases zq ho
   have ev : a.tmps[4]? = some (.slice (some ⟨g, 0, none⟩) 1 1) := zu 4 ha Lh hsz s4
   exact zx (.slice (some ⟨g, 0, none⟩) 1 1) (by simp [execOp, ev, go_sem]) ⟨_, zp 3 ha Lh hsz, zh Lh, zk Lh hl, zl hN, zr hL⟩
  | 4, ho =>
   cases zq ho
   have ev : a.tmps[23]? = some (.slice (some ⟨g, 0, none⟩) 1 1) := zv ha hsz Lh hl 3 hd
   have hN6 := hN.resolve_left (fun h => hn (zc hcl 5 4 rfl (zc hcl 6 5 rfl (zc hcl 7 6 rfl (zc hcl 8 7 rfl h)))))
   refine Zan (f := 87) (args := #[.slice (some ⟨g, 0, none⟩) 1 1, .int .i64 0]) (by simp [execOp, ev, go_sem]) ?_
   refine (part_row (cellg w' hN6)).mono ?_
   rintro e w6 ⟨rfl, B9⟩
   refine ⟨_, rfl, ?_⟩
   exact ⟨_, zp 4 ha Lh hsz, zh Lh, zk Lh hl, .inr (hN6.trans (B9.mono hN6.size)), za (fun h => hn (zc hcl 5 4 rfl (zc hcl 6 5 rfl (zc hcl 7 6 rfl (zc hcl 8 7 rfl h)))))⟩
  | 5, ho =>
   cases zq ho
   have ev : a.tmps[24]? = some (.agg #[.int .i64 9, .string (strOfNums tx), .int .i64 0, .int .i64 0, .slice none 0 0, .slice wa m wc]) := zv ha hsz Lh hl 4 hd
   exact zx (.string (strOfNums tx)) (by simp [execOp, ev, go_sem, fld25]) ⟨_, zp 5 ha Lh hsz, zh Lh, zk Lh hl, zl hN, zr hL⟩
  | 6, ho =>
   cases zq ho
   have ev : a.tmps[25]? = some (.string (strOfNums tx)) := zv ha hsz Lh hl 5 hd
   have hN6 := hN.resolve_left (fun h => hn (zc hcl 7 6 rfl (zc hcl 8 7 rfl h)))
   refine Zan (f := 15) (args := #[.string (strOfNums tx)]) (by simp [execOp, ev, go_sem]) ?_
   refine (hargs w').mono ?_
   rintro e w6 ⟨rfl, B9⟩
   refine ⟨_, rfl, ?_⟩
   exact ⟨_, zp 6 ha Lh hsz, zh Lh, zk Lh hl, .inr (hN6.trans (B9.mono hN6.size)), za (fun h => hn (zc hcl 7 6 rfl (zc hcl 8 7 rfl h)))⟩
  | 7, ho =>
   cases zq ho
   have ev : a.tmps[26]? = some (.int .i64 (Zcx tx : Int)) := zv ha hsz Lh hl 6 hd
   exact zx (.bool (decide (Zcx tx = 0))) (by simp [execOp, ev, go_sem, hdb]) ⟨_, zp 7 ha Lh hsz, zh Lh, zk Lh hl, zl hN, zr hL⟩
  | 8, ho =>
   cases zq ho
   have ev : a.tmps[20]? = some (.pointer (some ⟨q, 0, none⟩)) := zv ha hsz Lh hl 0 hd
   have ev' : a.tmps[22]? = some (.slice ka n kc) := zv ha hsz Lh hl 2 hd
   have ev'' : a.tmps[27]? = some (.bool (decide (Zcx tx = 0))) := zv ha hsz Lh hl 7 hd
   have hN6 := hN.resolve_left hn
   refine Zan (f := 85) (args := #[.pointer (some ⟨q, 0, none⟩), .slice ka n kc, .int .i64 0, .bool (decide (Zcx tx = 0))]) (by simp [execOp, ev, ev', ev'', go_sem]) ?_
   refine (hop w' hN6).mono ?_
   rintro e w6 ⟨rfl, h9, F9⟩
   refine ⟨_, rfl, ?_⟩
   exact ⟨_, zp 8 ha Lh hsz, zh Lh, zk Lh hl, .inl (.inl rfl), fun _ => ⟨h9, (Wf.of_below hN6 hq2).trans F9⟩⟩
  | i + 9, ho => simp at ho
 rintro D a w' ⟨l, ha, Lh, hl, hN, hL⟩ hall
 obtain ⟨v0, v1, v2, v3, v4, v5, v6, v7, v8, rfl⟩ := zL9 Lh
 obtain ⟨h4, F4⟩ := hL (hall 8 (by decide))
 have hz := hl 8 (by decide) (hall 8 (by decide))
 simp only [List.getElem?_cons_succ, List.getElem?_cons_zero, Option.some.injEq] at hz
 have hz' : v8 = .tuple #[] := hz
 subst hz'
 subst hA
 have hfr : a = _ := ha
 rw [hfr]
 clear hfr ha
 simp only [Zaj, yA, yB, yC, yD, yE, yF, yG, yH]
 clear hl hN hL hall
 go_wp2_with fail
 refine (hpa w' h4 F4).mono ?_
 rintro e w5 ⟨rfl, h5, F5⟩
 go_wp2
 go_end0
 exact ⟨rfl, by simpa [List.append_assoc] using h5, F2.trans (F4.trans F5)⟩
theorem Zg5 {tx : List Int} {r : Nd} {xs : List Nd} {sr s : List Int} (p : Nat) (hb : ∀ y ∈ tx, 0 ≤ y ∧ y < 256) (H : Zey r sr) (hi : inB r (decide (Zcx tx = 0)) = false) (hbr : ∀ y ∈ r.text, 0 ≤ y ∧ y < 256) (M : MsgC tx xs s) : Zey (.mk 7 tx p 0 [] (r :: xs)) (sr ++ s) := by
 intro q t w v hW hN hl
 rw [List.length_append] at hl
 have SC := fun w' (F : Wf q w w') (hW' : Wr q t w') => sent_con p hb H hi hbr M q t w' v hW' (hN.wf F) hl
 obtain ⟨na, nc, ka, kc, fl, rfl, _⟩ := hN.parts
 simp only [Nd.kind, Nd.text, Nd.pos, Nd.n, Nd.names, Nd.kids] at *
 have hq := hW.lt
 clear hN
 generalize (r :: xs).length = n at *
 have E1 := Zc0 w (.cells #[.int .i64 7, .string (strOfNums tx), .int .i64 (p : Int), .int .i64 0, .slice na 0 nc, .slice ka n kc] 25)
 obtain ⟨z0, z1, z2, z3, z4, z5, _⟩ := Zae E1
 go_enter Tryz.func33, Tryz.ntmps33
 go_wp2_with fail
 refine (SC _ (Wf.of_below Zbc hq) (hW.bel Zbc)).mono ?_
 rintro e w2 ⟨rfl, h1, F⟩
 go_wp2
 go_end0
 exact ⟨rfl, h1, (Wf.of_below Zbc hq).trans F⟩
theorem Zil (k : Int) (s : ByteArray) (p : Int) (na : Option Addr) (nc : Nat) (hna : na = none → nc = 0) (ka : Option Addr) (kl kc : Nat) (w : World) :
  Calls Tryz.prog 88 #[.agg #[.int .i64 k, .string s, .int .i64 p, .int .i64 0, .slice na 0 nc, .slice ka kl kc]] w fun e w' => e = .returned (.slice na 0 nc) ∧ Below w.heap.size w w' := by
 cases na with
 | none =>
  obtain rfl := hna rfl
  go_enter Tryz.func88, Tryz.ntmps88
  go_wp2
  go_ret
  exact ⟨rfl, Zbc⟩
 | some a =>
  obtain ⟨b, off, sp⟩ := a
  go_enter Tryz.func88, Tryz.ntmps88
  go_wp2
  go_ret
  exact ⟨by simp, Zbc⟩
section
def bdyV (b0 nc kc p : Nat) (tx : List Int) (na ka : Option Addr) (j : Nat) : Value :=
 ([.pointer (some ⟨b0, 4, none⟩),
  .slice na 0 nc,
  .agg #[.int .i64 12, .string (strOfNums tx), .int .i64 (p : Int), .int .i64 0, .slice na 0 nc, .slice ka 1 kc],
  .slice na 0 nc,
  .int .i64 0,
  .slice na 0 nc] : List Value).getD j undef
variable {s : List Int} {x : Nd}
theorem Zop (H : Zey x s) (tx : List Int) (p : Nat) (q : Nat) (t : List Int) (w : World) (v : Value) (hW : Wr q t w) (hN : NdV (Nb q w) w (.mk 12 tx p 0 [] [x]) v) (hl : t.length + s.length ≤ 1000000) :
  Calls Tryz.prog 89 #[.pointer (some ⟨q, 0, none⟩), v] w fun e w' => e = .returned (.tuple #[]) ∧ Wr q (t ++ s) w' ∧ Wf q w w' := by
 obtain ⟨na, nc, ka, kc, fl, rfl, sn, sl, kf, _, hlk, hlt⟩ := hN.parts
 simp only [Nd.kind, Nd.text, Nd.pos, Nd.n, Nd.names, Nd.kids, List.length_nil] at *
 have hq := hW.lt
 have hna := sn.nil0
 have hn1 : ([x] : List Nd).length = 1 := rfl
 rw [hn1] at sl hlk ⊢
 clear hn1 sn
 have PC := fun w' (F : Wf q w w') (h' : Wr q t w') => Zlb H q t w' h' (sl.wf F) (kf.wf F) hl ⟨#[46, 32]⟩
 clear hN sl kf hlk
 go_enter Tryz.func89, Tryz.ntmps89
 go_upto_region 1 with fail
 have B1 : Below w.heap.size w (w.alloc (.cells #[.int .i64 12, .string (strOfNums tx), .int .i64 (p : Int), .int .i64 0, .slice na 0 nc, .slice ka 1 kc] 25)) := Zbc
 have E1 := Zc0 w (.cells #[.int .i64 12, .string (strOfNums tx), .int .i64 (p : Int), .int .i64 0, .slice na 0 nc, .slice ka 1 kc] 25)
 generalize w.alloc (.cells #[.int .i64 12, .string (strOfNums tx), .int .i64 (p : Int), .int .i64 0, .slice na 0 nc, .slice ka 1 kc] 25) = w1 at *
 have F1 := Wf.of_below B1 hq
 have hW1 := hW.bel B1
 have hq1 := hW1.lt
 have hbq : w.heap.size ≠ q := by omega
 generalize w.heap.size = b0 at *
 have box : ∀ w', Below w1.heap.size w1 w' → w'.heap[b0]? = _ := fun w' B => (B.block b0 (lt_of_block E1)).trans E1
 clear E1 B1
 refine Zah fun A hA => ?_
 have hsz : A.tmps.size = 23 := by rw [hA]; rfl
 have st : A.tmps[4]? = some (undef) := by rw [hA]; rfl
 have s3 : A.tmps[3]? = some (.pointer (some ⟨b0, 0, none⟩)) := by rw [hA]; rfl
 refine zR2 (fun A D a w' => ∃ (l : List Value) (vt : Value), a = (Zaj A 5 l).put (some 4) vt ∧ l.length = 6 ∧ (∀ j, j < 6 → D j → l[j]? = some (bdyV b0 nc kc p tx na ka j)) ∧ (D 6 → vt = .slice na 0 nc) ∧ (Below w1.heap.size w1 w')) ?start ?step ?done
 case start => exact ⟨_, _, Zbo A 5 6 4 _ (by omega) (by decide) st, zG 5 6 hsz, zK, zf, (Below.refl _ w1).drew⟩
 case step =>
  clear hA
  intro i o ho D a w' hI hn hcl hd
  obtain ⟨l, vt, ha, Lh, hl, hvt, hN⟩ := hI
  match i, ho with
  | 0, ho =>
   cases zq ho
   refine ⟨rfl, ?_⟩
   have ev : a.tmps[3]? = some (.pointer (some ⟨b0, 0, none⟩)) := zU 3 ha Lh hsz s3
   exact zx (.pointer (some ⟨b0, 4, none⟩)) (by simp [execOp, ev, go_sem]) ⟨_, vt, zt 0 ha Lh hsz, zh Lh, zk Lh hl, zr hvt, hN⟩
  | 1, ho =>
   cases zq ho
   refine ⟨rfl, ?_⟩
   have ev : a.tmps[5]? = some (.pointer (some ⟨b0, 4, none⟩)) := zw ha hsz Lh hl 0 hd
   obtain ⟨z0, z1, z2, z3, z4, z5, _⟩ := Zae (box w' hN)
   exact zx (.slice na 0 nc) (by simp [execOp, ev, go_sem, z4]) ⟨_, vt, zt 1 ha Lh hsz, zh Lh, zk Lh hl, zr hvt, hN⟩
  | 2, ho =>
   cases zq ho
   refine ⟨rfl, ?_⟩
   have ev : a.tmps[3]? = some (.pointer (some ⟨b0, 0, none⟩)) := zU 3 ha Lh hsz s3
   obtain ⟨z0, z1, z2, z3, z4, z5, _⟩ := Zae (box w' hN)
   exact zx (.agg #[.int .i64 12, .string (strOfNums tx), .int .i64 (p : Int), .int .i64 0, .slice na 0 nc, .slice ka 1 kc]) (by simp [execOp, ev, go_sem, z0, z1, z2, z3, z4, z5]) ⟨_, vt, zt 2 ha Lh hsz, zh Lh, zk Lh hl, zr hvt, hN⟩
  | 3, ho =>
   cases zq ho
   refine ⟨rfl, ?_⟩
   have ev : a.tmps[7]? = some (.agg #[.int .i64 12, .string (strOfNums tx), .int .i64 (p : Int), .int .i64 0, .slice na 0 nc, .slice ka 1 kc]) := zw ha hsz Lh hl 2 hd
   refine Zan (f := 88) (args := #[.agg #[.int .i64 12, .string (strOfNums tx), .int .i64 (p : Int), .int .i64 0, .slice na 0 nc, .slice ka 1 kc]]) (by simp [execOp, ev, go_sem]) ?_
   refine (Zil 12 (strOfNums tx) (p : Int) na nc hna ka 1 kc w').mono ?_
   rintro e w6 ⟨rfl, B9⟩
   refine ⟨_, rfl, ?_⟩
   exact ⟨_, vt, zt 3 ha Lh hsz, zh Lh, zk Lh hl, zr hvt, hN.trans (B9.mono hN.size)⟩
  | 4, ho =>
   cases zq ho
   refine ⟨rfl, ?_⟩
   have ev : a.tmps[8]? = some (.slice na 0 nc) := zw ha hsz Lh hl 3 hd
   exact zx (.int .i64 0) (by simp [execOp, ev, go_sem]) ⟨_, vt, zt 4 ha Lh hsz, zh Lh, zk Lh hl, zr hvt, hN⟩
  | 5, ho =>
   cases zq ho
   refine ⟨rfl, ?_⟩
   have ev : a.tmps[6]? = some (.slice na 0 nc) := zw ha hsz Lh hl 1 hd
   have ev' : a.tmps[9]? = some (.int .i64 0) := zw ha hsz Lh hl 4 hd
   exact zx (.slice na 0 nc) (by simp [execOp, ev, ev', go_sem]) ⟨_, vt, zt 5 ha Lh hsz, zh Lh, zk Lh hl, zr hvt, hN⟩
  | 6, ho =>
   cases zq ho
   refine ⟨rfl, ?_⟩
   have ev : a.tmps[10]? = some (.slice na 0 nc) := zw ha hsz Lh hl 5 hd
   exact zx (.slice na 0 nc) (by simp [execOp, ev, go_sem]) ⟨l, (.slice na 0 nc), by rw [ha]; exact Zbp _ _ _ _, Lh, zJ hl, fun _ => rfl, hN⟩
  | i + 7, ho => simp at ho
 rintro D a w' ⟨l, vt, ha, Lh, hl, hvt, hN⟩ hall
 obtain rfl := hvt (hall 6 (by decide))
 obtain ⟨v0, v1, v2, v3, v4, v5, rfl⟩ := zL6 Lh
 subst hA
 have hfr : a = _ := ha
 rw [hfr]
 clear hfr ha
 simp only [Zaj, Act.put, List.setIfInBounds_toArray, List.set_cons_zero, List.set_cons_succ, List.take_succ_cons, List.take_zero, List.drop_succ_cons, List.drop_zero, List.cons_append, List.nil_append, List.length_cons, List.length_nil]
 clear hl Lh hall
 obtain ⟨z0, z1, z2, z3, z4, z5, _⟩ := Zae (box w' hN)
 have Fb := Wf.of_below hN hq1
 clear hsz st s3 box
 go_wp2_with fail
 refine (PC w' (F1.trans Fb) (hW1.bel hN)).mono ?_
 rintro e w5 ⟨rfl, h5, F5⟩
 go_wp2
 go_end0
 exact ⟨rfl, h5, F1.trans (Fb.trans F5)⟩
theorem Zp9 (H : Zey x s) : Zey (.mk 12 [] 0 0 [] [x]) s := by
 intro q t w v hW hN hl
 have BC := fun w' (F : Wf q w w') (hW' : Wr q t w') => Zop H [] 0 q t w' v hW' (hN.wf F) hl
 obtain ⟨na, nc, ka, kc, fl, rfl, _⟩ := hN.parts
 simp only [Nd.kind, Nd.text, Nd.pos, Nd.n, Nd.names, Nd.kids] at *
 have hq := hW.lt
 have hn1 : ([x] : List Nd).length = 1 := rfl
 have e0 : strOfNums [] = ⟨#[]⟩ := rfl
 rw [hn1, e0] at BC ⊢
 clear hN hn1
 -- unit
 have UC : ∀ w', Wf q w w' → Wr q t w' → Calls Tryz.prog 57 #[.pointer (some ⟨q, 0, none⟩), .agg #[.int .i64 12, .string ⟨#[]⟩, .int .i64 ((0 : Nat) : Int), .int .i64 ((0 : Nat) : Int), .slice na ([] : List (List Int)).length nc, .slice ka 1 kc]] w' fun e w'' => e = .returned (.tuple #[]) ∧ Wr q (t ++ s) w'' ∧ Wf q w' w'' := by
  intro w' F hW'
  have hq' := hW'.lt
  simp only [List.length_nil, Int.natCast_zero] at BC ⊢
  have E1 := Zc0 w' (.cells #[.int .i64 12, .string ⟨#[]⟩, .int .i64 0, .int .i64 0, .slice na 0 nc, .slice ka 1 kc] 25)
  obtain ⟨z0, z1, z2, z3, z4, z5, _⟩ := Zae E1
  go_enter Tryz.func57, Tryz.ntmps57
  go_wp2_with fail
  refine (BC _ (F.trans (Wf.of_below Zbc hq')) (hW'.bel Zbc)).mono ?_
  rintro e w2 ⟨rfl, h1, F2⟩
  go_wp2
  go_end0
  exact ⟨rfl, h1, (Wf.of_below Zbc hq').trans F2⟩
 simp only [List.length_nil, Int.natCast_zero] at UC ⊢
 have E1 := Zc0 w (.cells #[.int .i64 12, .string ⟨#[]⟩, .int .i64 0, .int .i64 0, .slice na 0 nc, .slice ka 1 kc] 25)
 obtain ⟨z0, z1, z2, z3, z4, z5, _⟩ := Zae E1
 go_enter Tryz.func33, Tryz.ntmps33
 go_wp2_with fail
 refine (UC _ (Wf.of_below Zbc hq) (hW.bel Zbc)).mono ?_
 rintro e w2 ⟨rfl, h1, F⟩
 go_wp2
 go_end0
 exact ⟨rfl, h1, (Wf.of_below Zbc hq).trans F⟩
theorem text_is (H : Zey x s) (hs : s ≠ []) (hb : ∀ y ∈ s, 0 ≤ y ∧ y < 256) (hl : s.length ≤ 1000000) (A : Nat → Prop) (w : World) (v : Value) (hN : NdV A w x v) :
  Calls Tryz.prog 21 #[v] w fun e w' => e = .returned (.string (strOfNums s)) ∧ Below w.heap.size w w' := by
 have hNq : ∀ q w2, w.heap.size ≤ q → Below w.heap.size w w2 → NdV (Nb q w2) w2 x v := fun q w2 hq B => hN.imp (fun b hb _ => ⟨.inl (by omega), B.block b hb⟩) _ _
 obtain ⟨na, nc, ka, kc, fl, rfl, _⟩ := hN.parts
 clear hN
 have E1 := Zc0 w (.cells #[.int .i64 x.kind, .string (strOfNums x.text), .int .i64 (x.pos : Int), .int .i64 (x.n : Int), .slice na x.names.length nc, .slice ka x.kids.length kc] 25)
 have B1 : Below w.heap.size w (w.alloc (.cells #[.int .i64 x.kind, .string (strOfNums x.text), .int .i64 (x.pos : Int), .int .i64 (x.n : Int), .slice na x.names.length nc, .slice ka x.kids.length kc] 25)) := Zbc
 have hs1 : (w.alloc (.cells #[.int .i64 x.kind, .string (strOfNums x.text), .int .i64 (x.pos : Int), .int .i64 (x.n : Int), .slice na x.names.length nc, .slice ka x.kids.length kc] 25)).heap.size = w.heap.size + 1 := by simp
 go_enter Tryz.func21, Tryz.ntmps21
 go_upto_region 2 with fail
 generalize w.alloc (.cells #[.int .i64 x.kind, .string (strOfNums x.text), .int .i64 (x.pos : Int), .int .i64 (x.n : Int), .slice na x.names.length nc, .slice ka x.kids.length kc] 25) = w1 at *
 have W2 : Wr w1.heap.size [] (w1.alloc (.cells #[.pointer none, .slice none 0 0] 70)) := Lib.IsBuilderF.of (Lib.fresh_isBuilder 70 5 w1)
 rw [hs1] at W2
 have B2 : Below w.heap.size w (w1.alloc (.cells #[.pointer none, .slice none 0 0] 70)) := B1.trans (Zbc.mono B1.size)
 have E2 : (w1.alloc (.cells #[.pointer none, .slice none 0 0] 70)).heap[w.heap.size]? = _ := (Zbc.block _ (lt_of_block E1)).trans E1
 generalize w1.alloc (.cells #[.pointer none, .slice none 0 0] 70) = w2 at *
 have N2 := hNq (w.heap.size + 1) w2 (Nat.le_succ _) B2
 have hq := W2.lt
 generalize hqn : w.heap.size + 1 = q at *
 have hqw : w.heap.size ≤ q := by omega
 obtain ⟨z0, z1, z2, z3, z4, z5, _⟩ := Zae E2
 clear E1 B1 hs1 hNq hqn
 go_wp2_with fail
 refine (H q [] w2 _ W2 N2 (by simp; omega)).mono ?_
 rintro e w3 ⟨rfl, h3, F3⟩
 have h3' : Lib.IsBuilderF 70 5 q q (s.map (Value.int .u8)) w3 := h3
 rw [← Zeo s hb] at h3'
 have SS := string70 q q (s.map fun n => UInt8.ofNat n.toNat) w3 h3' (by simpa using hs)
 have hso : (⟨(s.map fun n => UInt8.ofNat n.toNat).toArray⟩ : ByteArray) = strOfNums s := rfl
 rw [hso] at SS
 have B3 : Below w.heap.size w w3 := B2.trans (F3.bel.mono hqw)
 clear h3 h3' W2 N2 B2 F3 H hso
 go_wp2_with fail
 refine SS.mono ?_
 rintro e w4 ⟨rfl, _, B4, _⟩
 go_wp2
 go_ret
 exact ⟨rfl, B3.trans (B4.mono hqw)⟩
end
end Go.Proofs.YtncfmhlikmibaaaGreatDoor
