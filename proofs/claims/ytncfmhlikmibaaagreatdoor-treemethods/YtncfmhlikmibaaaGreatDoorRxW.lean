/- The document's words. -/
import Derived.Test.YtncfmhlikmibaaaGreatDoorRxB
import Derived.Test.YtncfmhlikmibaaaGreatDoorRRead
import Derived.Test.YtncfmhlikmibaaaGreatDoorLxR
namespace Go.Proofs.YtncfmhlikmibaaaGreatDoor
open Go.RowKit
set_option maxRecDepth 100000
set_option maxHeartbeats 16000000
section
def Zow (o : Option (Int × List Int × Nat)) (k : Nat) (e : Ending) : Prop := (∃ kd t n, o = some (kd, t, n) ∧ e = .returned (.tuple #[.agg #[.int .i64 kd, .string (strOfNums t), .int .i64 (k : Int)], .int .i64 (k + n : Nat)])) ∨ (o = none ∧ ∃ a b c, e = .returned (.tuple #[.agg #[.int .i64 a, .string b, .int .i64 c], .int .i64 (-1)]))
variable {b k : Nat} {kd p : Int} {ss : List Int} {w : World}
theorem Za2 {P : Program} {fn : Func} {tmps : Array Value} {a t c : Nat} {ad : Addr} {v u : Value} (hf : fn.results = #[.cell a t, .tmp c]) (ha : tmps[a]?.getD undef = .pointer (some ad)) (hl : (loadVar t ad).run P w = .ok v w) (hu : tmps[c]?.getD undef = u) : (results fn tmps).run P w = .ok (.tuple #[v, u]) w := by
 unfold results
 rw [hf]
 simp [ha, asAddr, hl, hu]
def tkR (kd : Int) (s : ByteArray) (p : Int) : Obj := .cells #[.int .i64 kd, .string s, .int .i64 p] 78
theorem Zbk {s : ByteArray} (h : w.heap[b]? = some (tkR kd s p)) : w.cell? ⟨b, 0, none⟩ = some (.int .i64 kd) ∧ w.cell? ⟨b, 1, none⟩ = some (.string s) ∧ w.cell? ⟨b, 2, none⟩ = some (.int .i64 p) ∧ ∀ i, w.frozen? ⟨b, i, none⟩ = false := by
 unfold tkR at h
 refine ⟨by simp [World.cell?, h], by simp [World.cell?, h], by simp [World.cell?, h], fun i => by simp [World.frozen?, h]⟩
theorem Zc4 {s : ByteArray} (h : w.heap[b]? = some (tkR kd s p)) : (loadVar 78 ⟨b, 0, none⟩).run Tryz.prog w = .ok (.agg #[.int .i64 kd, .string s, .int .i64 p]) w := by
 obtain ⟨z0, z1, z2, _⟩ := Zbk h
 simp [go_sem, z0, z1, z2]
theorem Zfn {k0 p0 : Int} {s0 : ByteArray} (h : w.heap[b]? = some (tkR k0 s0 p0)) (kd : Int) (s : ByteArray) (p : Int) : (stT w b kd s p).heap[b]? = some (tkR kd s p) := by
 have h1 : (w.setCell ⟨b, 0, none⟩ (.int .i64 kd)).heap[b]? = some (tkR kd s0 p0) := by
  unfold tkR at h ⊢
  rw [heap_setCell_same w b 0 _ _ _ h]
  simp
 have h2 : ((w.setCell ⟨b, 0, none⟩ (.int .i64 kd)).setCell ⟨b, 1, none⟩ (.string s)).heap[b]? = some (tkR kd s p0) := by
  unfold tkR at h1 ⊢
  rw [heap_setCell_same _ b 1 _ _ _ h1]
  simp
 unfold stT
 unfold tkR at h2 ⊢
 rw [heap_setCell_same _ b 2 _ _ _ h2]
 simp
theorem Tryz.results44 : Tryz.f44.results = #[.cell 4 78, .tmp 5] := by kernel_rfl
theorem Zgc {o o' : Obj} : Below w.heap.size w ((w.alloc o).alloc o') := (Zcz (w := w)).alloc (by simp) _
theorem Zn3 (ss : List Int) (k : Nat) (h : Ze8 (ss.getD k 0) = true) : 0 < Zaq (ss.drop k) := Zld (by rw [Za3, Nat.add_zero]; exact h)
theorem set1R {s0 : ByteArray} (h : w.heap[b]? = some (tkR kd s0 p)) (s : ByteArray) : (w.setCell ⟨b, 1, none⟩ (.string s)).heap[b]? = some (tkR kd s p) := by
 unfold tkR at h ⊢
 rw [heap_setCell_same w b 1 _ _ _ h]
 simp
theorem take1 (hk : k < ss.length) : (ss.drop k).take 1 = [ss.getD k 0] := by
 rw [Zbn hk, List.drop_eq_getElem_cons hk]; rfl
theorem take2 (hk : k + 1 < ss.length) : (ss.drop k).take 2 = [ss.getD k 0, ss.getD (k + 1) 0] := by
 rw [Zbn (by omega), Zbn hk, List.drop_eq_getElem_cons (by omega), List.drop_eq_getElem_cons hk]; rfl
theorem Zqq {c : Int} (h : ss.getD k 0 = c) (hc : c ≠ 0) : k < ss.length := by
 rcases Nat.lt_or_ge k ss.length with h1 | h1
 ·exact h1
 have e : ss.getD k 0 = 0 := by simp only [List.getD_eq_getElem?_getD]; rw [List.getElem?_eq_none h1]; rfl
 exact absurd (h.symm.trans e) hc
theorem sg_eq0 {r : List Int} (h : sgB (r.getD 0 0) = false) : Zcd r = 0 := by
 unfold Zcd
 cases r with
 | nil => rfl
 | cons c q => rw [List.take_succ_cons, List.takeWhile_cons_of_neg (by rw [show sgB c = false from h]; decide)]; rfl
theorem hash_rs (ss : List Int) (k : Nat) : Zli (ss.drop k) = if ss.getD (k + 1) 0 = 40 then some (17, (ss.drop k).take 2, 2) else (rsO ss (k + 1)).map fun x => (6, x.1, x.2 + 1) := by
 unfold Zli rsO rqO
 rw [Za3, List.drop_drop]
 split
 ·rfl
 split
 ·rename_i h
  have e : Zcn (ss.drop (k + 1)) = 0 := by
   rw [Zkj, Zd4 ss (k + 1) (by rw [h]; rfl), if_pos rfl, sg_eq0 (by rw [Za3, Nat.add_zero, h]; rfl)]
  rw [e, if_neg (by omega)]
 simp only
 split
 ·rename_i h
  rcases h with h | h
  ·rw [h, if_neg (by omega)]; rfl
  rw [if_pos (by omega), if_pos h]; rfl
 rename_i h
 rw [if_pos (by omega), if_neg (by omega)]
 rfl
theorem Zpo (ss : List Int) (k : Nat) (w : World) (hb : ∀ x ∈ ss, 0 ≤ x ∧ x < 256) (hk : k < ss.length) (hl : ss.length ≤ 100000) : Calls Tryz.prog 44 #[.string (strOfNums ss), .int .i64 k] w fun e w' => Zow (word Zeb (ss.drop k)) k e ∧ Below w.heap.size w w' := by
 have hsz : (strOfNums ss).size = ss.length := strOfNums_size ss
 have hK : (k : Int) < (ss.length : Int) := by omega
 have hat := Zbd ss hb k hk
 have hcb := hb (ss.getD k 0) (by rw [Zbn hk]; exact List.getElem_mem hk)
 have hn0 := fun w => Zg0 ss k w hb (by omega) (by omega)
 have hnl := Zcp (ss.drop k)
 rw [List.length_drop] at hnl
 have hat1 := fun w => Zg1 ss (k + 1) w hb
 rw [show ((k + 1 : Nat) : Int) = (k : Int) + 1 by omega] at hat1
 have hw1 : IntKind.i64.wrap ((k : Int) + 1) = (k : Int) + 1 := by rw [IntKind.wrap_i64]; omega
 have hw2 : IntKind.i64.wrap ((k : Int) + 2) = ((k + 2 : Nat) : Int) := by rw [IntKind.wrap_i64]; omega
 obtain ⟨o, hW⟩ : ∃ o, Hid (word Zeb (ss.drop k) = o) := ⟨_, rfl⟩
 rw [hW.out]
 have hW' := hW.out
 unfold word at hW'
 simp only [Za3, Nat.add_zero] at hW'
 clear hW
 cases hL : Ze8 (ss.getD k 0) with
 | true =>
  rw [hL, if_pos rfl] at hW'
  have hpos := Zn3 ss k hL
  have hco := fun w => Ziv ss (k + Zaq (ss.drop k)) w hb (by omega) (by omega)
  rw [List.drop_drop] at hW'
  have hgt : (k : Int) < ((k + Zaq (ss.drop k) : Nat) : Int) := by omega
  cases hlo : Zic (ss.drop (k + Zaq (ss.drop k))) with
  | false =>
   rw [hlo] at hW' hco
   rw [if_neg (by decide)] at hW'
   have hx := Zco ss k (k + Zaq (ss.drop k))
   rw [show k + Zaq (ss.drop k) - k = Zaq (ss.drop k) by omega] at hx
   have hj1 : (k : Int) ≤ ((k + Zaq (ss.drop k) : Nat) : Int) := by omega
   have hj2 : ((k + Zaq (ss.drop k) : Nat) : Int) ≤ (ss.length : Int) := by omega
   have FIN : Zow o k (.returned (.tuple #[.agg #[.int .i64 1, .string (strOfNums ((ss.drop k).take (Zaq (ss.drop k)))), .int .i64 (k : Int)], .int .i64 ((k + Zaq (ss.drop k) : Nat) : Int)])) := .inl ⟨_, _, _, hW'.symm, rfl⟩
   generalize (ss.drop k).take (Zaq (ss.drop k)) = T at *
   generalize k + Zaq (ss.drop k) = M at *
   generalize ss.getD k 0 = c at *
   clear hW' hlo hpos hnl
   go_enter Tryz.func44, Tryz.ntmps44
   go_wp2_with (first | (go_at_call 36; refine (hn0 _).mono ?_; rintro e w' ⟨rfl, rfl⟩) | (go_at_call 73; refine (hco _).mono ?_; rintro e w' ⟨rfl, rfl⟩))
   exact bodyPost_ret (v := .tuple #[.agg #[.int .i64 (1), .string (strOfNums (T)), .int .i64 ((k : Int))], .int .i64 ((M : Int))]) (Za2 Tryz.results44 rfl (Zc4 (Zib (Zc9 _ _) _)) rfl) rfl ⟨FIN, Zgc⟩
  | true =>
   have hll := Zc3 hlo
   rw [List.length_drop] at hll
   rw [hlo] at hW' hco
   rw [if_pos rfl] at hW'
   have hx := Zco ss k (k + (Zaq (ss.drop k) + 1))
   rw [show k + (Zaq (ss.drop k) + 1) - k = Zaq (ss.drop k) + 1 by omega] at hx
   have hwm : IntKind.i64.wrap (((k + Zaq (ss.drop k) : Nat) : Int) + 1) = ((k + (Zaq (ss.drop k) + 1) : Nat) : Int) := by rw [IntKind.wrap_i64]; omega
   have hj1 : (k : Int) ≤ ((k + (Zaq (ss.drop k) + 1) : Nat) : Int) := by omega
   have hj2 : ((k + (Zaq (ss.drop k) + 1) : Nat) : Int) ≤ (ss.length : Int) := by omega
   have FIN : Zow o k (.returned (.tuple #[.agg #[.int .i64 2, .string (strOfNums ((ss.drop k).take (Zaq (ss.drop k) + 1))), .int .i64 (k : Int)], .int .i64 ((k + (Zaq (ss.drop k) + 1) : Nat) : Int)])) := .inl ⟨_, _, _, hW'.symm, rfl⟩
   generalize (ss.drop k).take (Zaq (ss.drop k) + 1) = T at *
   generalize k + (Zaq (ss.drop k) + 1) = M' at *
   generalize k + Zaq (ss.drop k) = M at *
   generalize ss.getD k 0 = c at *
   clear hW' hlo hpos hnl hll
   go_enter Tryz.func44, Tryz.ntmps44
   go_wp2_with (first | (go_at_call 36; refine (hn0 _).mono ?_; rintro e w' ⟨rfl, rfl⟩) | (go_at_call 73; refine (hco _).mono ?_; rintro e w' ⟨rfl, rfl⟩))
   exact bodyPost_ret (v := .tuple #[.agg #[.int .i64 (2), .string (strOfNums (T)), .int .i64 ((k : Int))], .int .i64 ((M' : Int))]) (Za2 Tryz.results44 rfl (Zc4 (Zib (Zc9 _ _) _)) rfl) rfl ⟨FIN, Zgc⟩
 | false =>
 rw [hL, if_neg (by decide)] at hW'
 rw [Zd4 ss k hL, Nat.add_zero] at hn0
 clear hnl
 cases hD : dgB (ss.getD k 0) with
 | true =>
  rw [hD, if_pos rfl] at hW'
  unfold Zeb at hW'
  have hle : ((ss.drop k).takeWhile dgB).length ≤ ss.length - k := by
   have := (List.takeWhile_prefix (l := ss.drop k) dgB).length_le
   rw [List.length_drop] at this
   exact this
  obtain ⟨n, hn⟩ : ∃ n, Hid (((ss.drop k).takeWhile dgB).length = n) := ⟨_, rfl⟩
  have hE : Hid (k + ((ss.drop k).takeWhile dgB).length = k + n) := by show _ = _; rw [hn.out]
  rw [hn.out] at hle hW'
  have hx := Zco ss k (k + n)
  rw [show k + n - k = n by omega] at hx
  obtain ⟨d, hd⟩ : ∃ d, Hid ((ss.drop k).take n = d) := ⟨_, rfl⟩
  rw [hd.out] at hx hW'
  have hdb : ∀ x ∈ d, 0 ≤ x ∧ x < 256 := fun x h => hb x (by rw [← hd.out] at h; exact List.mem_of_mem_drop (List.mem_of_mem_take h))
  have hdl : d.length ≤ 9223372036854775807 := by
   rw [← hd.out, List.length_take, List.length_drop]; omega
  have hr := fun w => Zpq d w hdb hdl
  obtain ⟨M, hMM⟩ : ∃ M : Nat, Hid (k + n = M) := ⟨_, rfl⟩
  have FIN : decide (rdE d = 0) = true → Zow o k (.returned (.tuple #[.agg #[.int .i64 4, .string (strOfNums d), .int .i64 (k : Int)], .int .i64 (M : Int)])) := fun h => by
   rw [if_pos h] at hW'
   exact .inl ⟨_, _, _, hW'.symm, by rw [hMM.out]⟩
  have FIN2 : decide (rdE d = 0) = false → Zow o k (.returned (.tuple #[.agg #[.int .i64 0, .string (strOfNums []), .int .i64 0], .int .i64 (-1)])) := fun h => by
   rw [if_neg (by rw [h]; decide)] at hW'
   exact .inr ⟨hW'.symm, _, _, _, rfl⟩
  rw [hMM.out] at hx hE
  have hM1 : (k : Int) ≤ (M : Int) := by have := hMM.out; omega
  have hM2 : (M : Int) ≤ (ss.length : Int) := by have := hMM.out; omega
  generalize ss.getD k 0 = c at *
  clear hMM hn hd hle hW' hat1
  go_enter Tryz.func44, Tryz.ntmps44
  go_wp2_with (first | (go_at_call 36; refine (hn0 _).mono ?_; rintro e w' ⟨rfl, rfl⟩) | (go_at_call 60; refine (Zbz hD _).mono ?_; rintro e w' ⟨rfl, rfl⟩))
  go_loop [8] (fun v => ∃ i : Nat, i ≤ ss.length ∧ v = .int .i64 i ∧ Hid (i + ((ss.drop i).takeWhile dgB).length = M)) (fun v => ss.length - (intOf v).toNat)
  case atStart => exact ⟨k, by omega, rfl, hE⟩
  obtain ⟨i, hi, rfl, hv⟩ := hrel
  clear hE hat hL hD hn0
  have hwi : IntKind.i64.wrap ((i : Int) + 1) = (i : Int) + 1 := by rw [IntKind.wrap_i64]; omega
  by_cases hlt : i < ss.length
  ·have hltI : (i : Int) < (ss.length : Int) := by omega
   have hat := Zbd ss hb i hlt
   have hs := Zgv dgB ss i hlt
   cases hg : dgB (ss.getD i 0) with
   | true =>
    have hv' : Hid ((i + 1) + ((ss.drop (i + 1)).takeWhile dgB).length = M) := by
     show _ = _
     rw [hg, if_pos rfl] at hs
     have := hv.out
     omega
    clear hs hv
    generalize ss.getD i 0 = c at *
    go_wp2_with (go_at_call 60; refine (Zbz hg _).mono ?_; rintro e w' ⟨rfl, rfl⟩)
    go_round
    case rel => exact ⟨i + 1, by omega, by go_num, hv'⟩
    case measure => simp [intOf]; omega
   | false =>
    obtain rfl : i = M := by
     rw [hg, if_neg (by decide)] at hs
     have := hv.out
     omega
    clear hs hv
    generalize ss.getD i 0 = c at *
    go_wp2_with (go_at_call 60; refine (Zbz hg _).mono ?_; rintro e w' ⟨rfl, rfl⟩)
    have E4 : ((w.alloc (.cells #[.int .i64 0, .string ⟨#[]⟩, .int .i64 0] 78)).alloc (.cells #[.int .i64 (4), .string (strOfNums d), .int .i64 (k : Int)] 78)).heap[w.heap.size]? = some (tkR 0 ⟨#[]⟩ 0) := Zib (Zc9 _ _) _
    have E7 : ((w.alloc (.cells #[.int .i64 0, .string ⟨#[]⟩, .int .i64 0] 78)).alloc (.cells #[.int .i64 (4), .string (strOfNums d), .int .i64 (k : Int)] 78)).heap[w.heap.size + 1]? = some (tkR (4) (strOfNums d) (k : Int)) := by
     have := Zc9 (w.alloc (.cells #[.int .i64 0, .string ⟨#[]⟩, .int .i64 0] 78)) (.cells #[.int .i64 (4), .string (strOfNums d), .int .i64 (k : Int)] 78)
     rw [show (w.alloc (.cells #[.int .i64 0, .string ⟨#[]⟩, .int .i64 0] 78)).heap.size = w.heap.size + 1 by simp] at this
     exact this
    have B7 : Below w.heap.size w ((w.alloc (.cells #[.int .i64 0, .string ⟨#[]⟩, .int .i64 0] 78)).alloc (.cells #[.int .i64 (4), .string (strOfNums d), .int .i64 (k : Int)] 78)) := Zgc
    generalize (w.alloc (.cells #[.int .i64 0, .string ⟨#[]⟩, .int .i64 0] 78)).alloc (.cells #[.int .i64 (4), .string (strOfNums d), .int .i64 (k : Int)] 78) = w1 at *
    refine (hr _).mono ?_
    rintro e w2 ⟨v, rfl, OV, hB2⟩
    obtain ⟨-, va, vc, ev, -⟩ := OV
    subst ev
    replace E4 := (hB2.block _ (lt_of_block E4)).trans E4
    replace E7 := (hB2.block _ (lt_of_block E7)).trans E7
    replace B7 := Zaf B7 zo hB2
    clear hB2
    replace E4 := Zib E4 (.cells #[.bool (rdB d), .slice va (rdM d).length vc] 101)
    replace E7 := Zib E7 (.cells #[.bool (rdB d), .slice va (rdM d).length vc] 101)
    replace B7 := Zaf B7 zo (Zcz (o := .cells #[.bool (rdB d), .slice va (rdM d).length vc] 101))
    generalize (rdM d).length = vn at *
    generalize rdB d = rb at *
    by_cases h0 : rdE d = 0
    ·replace FIN := FIN (decide_eq_true h0)
     rw [h0]
     clear FIN2 hr h0
     go_upto_region 17 with fail
     generalize w2.alloc (.cells #[.bool rb, .slice va vn vc] 101) = w3 at *
     obtain ⟨z0, z1, z2, zf⟩ := Zbk E4
     obtain ⟨y0, y1, y2, yf⟩ := Zbk E7
     go_wp2
     exact bodyPost_ret (v := .tuple #[.agg #[.int .i64 4, .string (strOfNums d), .int .i64 (k : Int)], .int .i64 (i : Int)]) (Za2 Tryz.results44 rfl (Zc4 (Zfn E4 _ _ _)) rfl) rfl ⟨FIN, Zap B7 zo _ _ _⟩
    replace FIN2 := FIN2 (decide_eq_false h0)
    have h0' : (rdE d != 0) = true := by simp [h0]
    clear FIN hr h0
    generalize rdE d = re at *
    go_upto_region 17 with fail
    generalize w2.alloc (.cells #[.bool rb, .slice va vn vc] 101) = w3 at *
    obtain ⟨z0, z1, z2, zf⟩ := Zbk E4
    go_wp2
    exact bodyPost_ret (v := .tuple #[.agg #[.int .i64 0, .string (strOfNums []), .int .i64 0], .int .i64 (-1)]) (Za2 Tryz.results44 rfl (Zc4 (Zfn E4 _ _ _)) rfl) rfl ⟨FIN2, Zap B7 zo _ _ _⟩
  have hltI : ¬ (i : Int) < (ss.length : Int) := by omega
  have hs := Zk1 dgB ss i (by omega)
  obtain rfl : i = M := by
   have := hv.out
   omega
  clear hs hv
  go_wp2_with fail
  have E4 : ((w.alloc (.cells #[.int .i64 0, .string ⟨#[]⟩, .int .i64 0] 78)).alloc (.cells #[.int .i64 (4), .string (strOfNums d), .int .i64 (k : Int)] 78)).heap[w.heap.size]? = some (tkR 0 ⟨#[]⟩ 0) := Zib (Zc9 _ _) _
  have E7 : ((w.alloc (.cells #[.int .i64 0, .string ⟨#[]⟩, .int .i64 0] 78)).alloc (.cells #[.int .i64 (4), .string (strOfNums d), .int .i64 (k : Int)] 78)).heap[w.heap.size + 1]? = some (tkR (4) (strOfNums d) (k : Int)) := by
   have := Zc9 (w.alloc (.cells #[.int .i64 0, .string ⟨#[]⟩, .int .i64 0] 78)) (.cells #[.int .i64 (4), .string (strOfNums d), .int .i64 (k : Int)] 78)
   rw [show (w.alloc (.cells #[.int .i64 0, .string ⟨#[]⟩, .int .i64 0] 78)).heap.size = w.heap.size + 1 by simp] at this
   exact this
  have B7 : Below w.heap.size w ((w.alloc (.cells #[.int .i64 0, .string ⟨#[]⟩, .int .i64 0] 78)).alloc (.cells #[.int .i64 (4), .string (strOfNums d), .int .i64 (k : Int)] 78)) := Zgc
  generalize (w.alloc (.cells #[.int .i64 0, .string ⟨#[]⟩, .int .i64 0] 78)).alloc (.cells #[.int .i64 (4), .string (strOfNums d), .int .i64 (k : Int)] 78) = w1 at *
  refine (hr _).mono ?_
  rintro e w2 ⟨v, rfl, OV, hB2⟩
  obtain ⟨-, va, vc, ev, -⟩ := OV
  subst ev
  replace E4 := (hB2.block _ (lt_of_block E4)).trans E4
  replace E7 := (hB2.block _ (lt_of_block E7)).trans E7
  replace B7 := Zaf B7 zo hB2
  clear hB2
  replace E4 := Zib E4 (.cells #[.bool (rdB d), .slice va (rdM d).length vc] 101)
  replace E7 := Zib E7 (.cells #[.bool (rdB d), .slice va (rdM d).length vc] 101)
  replace B7 := Zaf B7 zo (Zcz (o := .cells #[.bool (rdB d), .slice va (rdM d).length vc] 101))
  generalize (rdM d).length = vn at *
  generalize rdB d = rb at *
  by_cases h0 : rdE d = 0
  ·replace FIN := FIN (decide_eq_true h0)
   rw [h0]
   clear FIN2 hr h0
   go_upto_region 17 with fail
   generalize w2.alloc (.cells #[.bool rb, .slice va vn vc] 101) = w3 at *
   obtain ⟨z0, z1, z2, zf⟩ := Zbk E4
   obtain ⟨y0, y1, y2, yf⟩ := Zbk E7
   go_wp2
   exact bodyPost_ret (v := .tuple #[.agg #[.int .i64 4, .string (strOfNums d), .int .i64 (k : Int)], .int .i64 (i : Int)]) (Za2 Tryz.results44 rfl (Zc4 (Zfn E4 _ _ _)) rfl) rfl ⟨FIN, Zap B7 zo _ _ _⟩
  replace FIN2 := FIN2 (decide_eq_false h0)
  have h0' : (rdE d != 0) = true := by simp [h0]
  clear FIN hr h0
  generalize rdE d = re at *
  go_upto_region 17 with fail
  generalize w2.alloc (.cells #[.bool rb, .slice va vn vc] 101) = w3 at *
  obtain ⟨z0, z1, z2, zf⟩ := Zbk E4
  go_wp2
  exact bodyPost_ret (v := .tuple #[.agg #[.int .i64 0, .string (strOfNums []), .int .i64 0], .int .i64 (-1)]) (Za2 Tryz.results44 rfl (Zc4 (Zfn E4 _ _ _)) rfl) rfl ⟨FIN2, Zap B7 zo _ _ _⟩
 | false =>
 rw [hD, if_neg (by decide)] at hW'
 by_cases h39 : ss.getD k 0 = 39
 ·skip
  rw [if_pos h39] at hW'
  have HC := fun w => Zgz ss k w hb (by omega)
  have e : rqO ss k = qtW (ss.drop k) := by unfold rqO; rw [if_pos h39]
  rw [e] at HC
  have HS : ∃ s m, RQ k (qtW (ss.drop k)) = .returned (.tuple #[.string s, .int .i64 m]) ∧ Zow o k (.returned (.tuple #[.agg #[.int .i64 5, .string s, .int .i64 (k : Int)], .int .i64 m])) := by
   cases hq : qtW (ss.drop k) with
   | none =>
    rw [hq] at hW'
    exact ⟨_, _, rfl, .inr ⟨hW'.symm, _, _, _, rfl⟩⟩
   | some x =>
    obtain ⟨t, n⟩ := x
    rw [hq] at hW'
    exact ⟨_, _, rfl, .inl ⟨_, _, _, hW'.symm, rfl⟩⟩
  rw [h39] at hat hL hD
  clear hW' hcb h39 e hat1
  rcases HS with ⟨s, m, hR, FIN⟩
  rw [hR] at HC
  go_enter Tryz.func44, Tryz.ntmps44
  go_wp2_with (first | (go_at_call 36; refine (hn0 _).mono ?_; rintro e w' ⟨rfl, rfl⟩) | (go_at_call 60; refine (Zbz hD _).mono ?_; rintro e w' ⟨rfl, rfl⟩) | (go_at_call 76; refine (hat1 _).mono ?_; rintro e w' ⟨rfl, rfl⟩))
  have E4 : ((w.alloc (.cells #[.int .i64 0, .string ⟨#[]⟩, .int .i64 0] 78)).alloc (.cells #[.int .i64 (5), .string ⟨#[]⟩, .int .i64 (k : Int)] 78)).heap[w.heap.size]? = some (tkR 0 ⟨#[]⟩ 0) := Zib (Zc9 _ _) _
  have E7 : ((w.alloc (.cells #[.int .i64 0, .string ⟨#[]⟩, .int .i64 0] 78)).alloc (.cells #[.int .i64 (5), .string ⟨#[]⟩, .int .i64 (k : Int)] 78)).heap[w.heap.size + 1]? = some (tkR (5) ⟨#[]⟩ (k : Int)) := by
   have := Zc9 (w.alloc (.cells #[.int .i64 0, .string ⟨#[]⟩, .int .i64 0] 78)) (.cells #[.int .i64 (5), .string ⟨#[]⟩, .int .i64 (k : Int)] 78)
   rw [show (w.alloc (.cells #[.int .i64 0, .string ⟨#[]⟩, .int .i64 0] 78)).heap.size = w.heap.size + 1 by simp] at this
   exact this
  have B7 : Below w.heap.size w ((w.alloc (.cells #[.int .i64 0, .string ⟨#[]⟩, .int .i64 0] 78)).alloc (.cells #[.int .i64 (5), .string ⟨#[]⟩, .int .i64 (k : Int)] 78)) := Zgc
  generalize (w.alloc (.cells #[.int .i64 0, .string ⟨#[]⟩, .int .i64 0] 78)).alloc (.cells #[.int .i64 (5), .string ⟨#[]⟩, .int .i64 (k : Int)] 78) = w1 at *
  refine (HC _).mono ?_
  rintro e w2 ⟨rfl, hB2⟩
  replace E4 := (hB2.block _ (lt_of_block E4)).trans E4
  replace E7 := (hB2.block _ (lt_of_block E7)).trans E7
  replace B7 := Zaf B7 zo hB2
  clear hB2
  obtain ⟨y0, y1, y2, yf⟩ := Zbk E7
  go_upto_region 23 with fail
  replace E7 := set1R E7 s
  replace E4 := (heap_setCell_other w2 ⟨w.heap.size + 1, 1, none⟩ w.heap.size (.string s) (by simp)).trans E4
  replace B7 := B7.setCell (p := ⟨w.heap.size + 1, 1, none⟩) (Nat.le_succ _) (.string s)
  clear y0 y1 y2 yf
  generalize w2.setCell ⟨w.heap.size + 1, 1, none⟩ (.string s) = w3 at *
  obtain ⟨z0, z1, z2, zf⟩ := Zbk E4
  obtain ⟨y0, y1, y2, yf⟩ := Zbk E7
  go_wp2
  exact bodyPost_ret (v := .tuple #[.agg #[.int .i64 5, .string s, .int .i64 (k : Int)], .int .i64 m]) (Za2 Tryz.results44 rfl (Zc4 (Zfn E4 _ _ _)) rfl) rfl ⟨FIN, Zap B7 zo _ _ _⟩
 rw [if_neg h39] at hW'
 by_cases h35 : ss.getD k 0 = 35
 ·skip
  rw [if_pos h35] at hW'
  have e4 : Zli (ss.drop k) = o := by
   rw [← hW']
   unfold Zli
   rw [Za3]
  rw [hash_rs] at e4
  clear hW'
  rw [h35] at hat hL hD
  by_cases h40 : ss.getD (k + 1) 0 = 40
  ·rw [if_pos h40, take2 (Zqq h40 (by decide)), h35, h40] at e4
   rw [h40] at hat1
   have FIN : Zow o k (.returned (.tuple #[.agg #[.int .i64 17, .string (strOfNums [35, 40]), .int .i64 (k : Int)], .int .i64 ((k + 2 : Nat) : Int)])) := .inl ⟨_, _, _, e4.symm, rfl⟩
   clear e4 hcb h39 h35 h40
   generalize ((k + 2 : Nat) : Int) = M at *
   go_enter Tryz.func44, Tryz.ntmps44
   go_wp2_with (first | (go_at_call 36; refine (hn0 _).mono ?_; rintro e w' ⟨rfl, rfl⟩) | (go_at_call 60; refine (Zbz hD _).mono ?_; rintro e w' ⟨rfl, rfl⟩) | (go_at_call 76; refine (hat1 _).mono ?_; rintro e w' ⟨rfl, rfl⟩))
   exact bodyPost_ret (v := .tuple #[.agg #[.int .i64 (17), .string (strOfNums ([35, 40])), .int .i64 ((k : Int))], .int .i64 (M)]) (Za2 Tryz.results44 rfl (Zc4 (Zib (Zc9 _ _) _)) rfl) rfl ⟨FIN, Zgc⟩
  rw [if_neg h40] at e4
  have h40' : (ss.getD (k + 1) 0 == 40) = false := beq_eq_false_iff_ne.2 h40
  have HC := fun w => Zmb ss (k + 1) w hb (by omega) (by omega)
  rw [show ((k + 1 : Nat) : Int) = (k : Int) + 1 by omega] at HC
  have HS : ∃ s m, RQ (k + 1) (rsO ss (k + 1)) = .returned (.tuple #[.string s, .int .i64 m]) ∧ Zow o k (.returned (.tuple #[.agg #[.int .i64 6, .string s, .int .i64 (k : Int)], .int .i64 m])) := by
   cases hq : rsO ss (k + 1) with
   | none =>
    rw [hq] at e4
    exact ⟨_, _, rfl, .inr ⟨e4.symm, _, _, _, rfl⟩⟩
   | some x =>
    obtain ⟨t, n⟩ := x
    rw [hq] at e4
    refine ⟨_, _, rfl, .inl ⟨_, _, _, e4.symm, ?_⟩⟩
    rw [show k + 1 + n = k + (n + 1) by omega]
  clear e4 hcb h39 h35 h40
  generalize ss.getD (k + 1) 0 = d at *
  rcases HS with ⟨s, m, hR, FIN⟩
  rw [hR] at HC
  go_enter Tryz.func44, Tryz.ntmps44
  go_wp2_with (first | (go_at_call 36; refine (hn0 _).mono ?_; rintro e w' ⟨rfl, rfl⟩) | (go_at_call 60; refine (Zbz hD _).mono ?_; rintro e w' ⟨rfl, rfl⟩) | (go_at_call 76; refine (hat1 _).mono ?_; rintro e w' ⟨rfl, rfl⟩))
  have E4 : ((w.alloc (.cells #[.int .i64 0, .string ⟨#[]⟩, .int .i64 0] 78)).alloc (.cells #[.int .i64 (6), .string ⟨#[]⟩, .int .i64 (k : Int)] 78)).heap[w.heap.size]? = some (tkR 0 ⟨#[]⟩ 0) := Zib (Zc9 _ _) _
  have E7 : ((w.alloc (.cells #[.int .i64 0, .string ⟨#[]⟩, .int .i64 0] 78)).alloc (.cells #[.int .i64 (6), .string ⟨#[]⟩, .int .i64 (k : Int)] 78)).heap[w.heap.size + 1]? = some (tkR (6) ⟨#[]⟩ (k : Int)) := by
   have := Zc9 (w.alloc (.cells #[.int .i64 0, .string ⟨#[]⟩, .int .i64 0] 78)) (.cells #[.int .i64 (6), .string ⟨#[]⟩, .int .i64 (k : Int)] 78)
   rw [show (w.alloc (.cells #[.int .i64 0, .string ⟨#[]⟩, .int .i64 0] 78)).heap.size = w.heap.size + 1 by simp] at this
   exact this
  have B7 : Below w.heap.size w ((w.alloc (.cells #[.int .i64 0, .string ⟨#[]⟩, .int .i64 0] 78)).alloc (.cells #[.int .i64 (6), .string ⟨#[]⟩, .int .i64 (k : Int)] 78)) := Zgc
  generalize (w.alloc (.cells #[.int .i64 0, .string ⟨#[]⟩, .int .i64 0] 78)).alloc (.cells #[.int .i64 (6), .string ⟨#[]⟩, .int .i64 (k : Int)] 78) = w1 at *
  refine (HC _).mono ?_
  rintro e w2 ⟨rfl, hB2⟩
  replace E4 := (hB2.block _ (lt_of_block E4)).trans E4
  replace E7 := (hB2.block _ (lt_of_block E7)).trans E7
  replace B7 := Zaf B7 zo hB2
  clear hB2
  obtain ⟨y0, y1, y2, yf⟩ := Zbk E7
  go_upto_region 29 with fail
  replace E7 := set1R E7 s
  replace E4 := (heap_setCell_other w2 ⟨w.heap.size + 1, 1, none⟩ w.heap.size (.string s) (by simp)).trans E4
  replace B7 := B7.setCell (p := ⟨w.heap.size + 1, 1, none⟩) (Nat.le_succ _) (.string s)
  clear y0 y1 y2 yf
  generalize w2.setCell ⟨w.heap.size + 1, 1, none⟩ (.string s) = w3 at *
  obtain ⟨z0, z1, z2, zf⟩ := Zbk E4
  obtain ⟨y0, y1, y2, yf⟩ := Zbk E7
  go_wp2
  exact bodyPost_ret (v := .tuple #[.agg #[.int .i64 6, .string s, .int .i64 (k : Int)], .int .i64 m]) (Za2 Tryz.results44 rfl (Zc4 (Zfn E4 _ _ _)) rfl) rfl ⟨FIN, Zap B7 zo _ _ _⟩
 rw [if_neg h35] at hW'
 have h39' : (ss.getD k 0 == 39) = false := beq_eq_false_iff_ne.2 h39
 have h35' : (ss.getD k 0 == 35) = false := beq_eq_false_iff_ne.2 h35
 cases hS : sgB (ss.getD k 0) with
 | true =>
  rw [hS, if_pos rfl] at hW'
  have hle := Zgg (ss.drop k)
  rw [List.length_drop] at hle
  have hsg := fun w => Zit ss k w hb (by omega) (by omega)
  have hx := Zco ss k (k + Zcd (ss.drop k))
  rw [show k + Zcd (ss.drop k) - k = Zcd (ss.drop k) by omega] at hx
  have hj1 : (k : Int) ≤ ((k + Zcd (ss.drop k) : Nat) : Int) := by omega
  have hj2 : ((k + Zcd (ss.drop k) : Nat) : Int) ≤ (ss.length : Int) := by omega
  have FIN : Zow o k (.returned (.tuple #[.agg #[.int .i64 3, .string (strOfNums ((ss.drop k).take (Zcd (ss.drop k)))), .int .i64 (k : Int)], .int .i64 ((k + Zcd (ss.drop k) : Nat) : Int)])) := .inl ⟨_, _, _, hW'.symm, rfl⟩
  generalize (ss.drop k).take (Zcd (ss.drop k)) = T at *
  generalize k + Zcd (ss.drop k) = M at *
  generalize ss.getD k 0 = c at *
  clear hW' hle h39 h35
  go_enter Tryz.func44, Tryz.ntmps44
  go_wp2_with (first | (go_at_call 36; refine (hn0 _).mono ?_; rintro e w' ⟨rfl, rfl⟩) | (go_at_call 60; refine (Zbz hD _).mono ?_; rintro e w' ⟨rfl, rfl⟩) | (go_at_call 78; refine (Zd3 hS _).mono ?_; rintro e w' ⟨rfl, rfl⟩) | (go_at_call 79; refine (hsg _).mono ?_; rintro e w' ⟨rfl, rfl⟩))
  exact bodyPost_ret (v := .tuple #[.agg #[.int .i64 (3), .string (strOfNums (T)), .int .i64 ((k : Int))], .int .i64 ((M : Int))]) (Za2 Tryz.results44 rfl (Zc4 (Zib (Zc9 _ _) _)) rfl) rfl ⟨FIN, Zgc⟩
 | false =>
  rw [hS, if_neg (by decide)] at hW'
  by_cases h58 : ss.getD k 0 = 58
  ·rw [if_pos h58] at hW'
   have hlo : Zic (ss.drop k) = (ss.getD (k + 1) 0 != 61) := by
    unfold Zic
    rw [Za3, Za3, Nat.add_zero, h58]
    rfl
   rw [hlo] at hW'
   by_cases h61 : ss.getD (k + 1) 0 = 61
   ·rw [take2 (Zqq h61 (by decide)), h58, h61, if_neg (by decide)] at hW'
    rw [h61] at hat1
    rw [h58] at hat hL hD hS
    have FIN : Zow o k (.returned (.tuple #[.agg #[.int .i64 7, .string (strOfNums [58, 61]), .int .i64 (k : Int)], .int .i64 ((k + 2 : Nat) : Int)])) := .inl ⟨_, _, _, hW'.symm, rfl⟩
    clear hW' hcb h39 h35 h39' h35' h58 h61 hlo
    generalize ((k + 2 : Nat) : Int) = M at *
    go_enter Tryz.func44, Tryz.ntmps44
    go_wp2_with (first | (go_at_call 36; refine (hn0 _).mono ?_; rintro e w' ⟨rfl, rfl⟩) | (go_at_call 60; refine (Zbz hD _).mono ?_; rintro e w' ⟨rfl, rfl⟩) | (go_at_call 78; refine (Zd3 hS _).mono ?_; rintro e w' ⟨rfl, rfl⟩) | (go_at_call 76; refine (hat1 _).mono ?_; rintro e w' ⟨rfl, rfl⟩))
    exact bodyPost_ret (v := .tuple #[.agg #[.int .i64 (7), .string (strOfNums ([58, 61])), .int .i64 ((k : Int))], .int .i64 (M)]) (Za2 Tryz.results44 rfl (Zc4 (Zib (Zc9 _ _) _)) rfl) rfl ⟨FIN, Zgc⟩
   have h61' : (ss.getD (k + 1) 0 == 61) = false := beq_eq_false_iff_ne.2 h61
   rw [take1 hk, h58, if_pos (by simpa using h61)] at hW'
   rw [h58] at hat hL hD hS
   have FIN : Zow o k (.returned (.tuple #[.agg #[.int .i64 16, .string (strOfNums [58]), .int .i64 (k : Int)], .int .i64 ((k : Int) + 1)])) := .inl ⟨_, _, _, hW'.symm, rfl⟩
   clear hW' hcb h39 h35 h39' h35' h58 h61 hlo
   generalize ss.getD (k + 1) 0 = d at *
   go_enter Tryz.func44, Tryz.ntmps44
   go_wp2_with (first | (go_at_call 36; refine (hn0 _).mono ?_; rintro e w' ⟨rfl, rfl⟩) | (go_at_call 60; refine (Zbz hD _).mono ?_; rintro e w' ⟨rfl, rfl⟩) | (go_at_call 78; refine (Zd3 hS _).mono ?_; rintro e w' ⟨rfl, rfl⟩) | (go_at_call 76; refine (hat1 _).mono ?_; rintro e w' ⟨rfl, rfl⟩))
   exact bodyPost_ret (v := .tuple #[.agg #[.int .i64 (16), .string (strOfNums ([58])), .int .i64 ((k : Int))], .int .i64 ((k : Int) + 1)]) (Za2 Tryz.results44 rfl (Zc4 (Zib (Zc9 _ _) _)) rfl) rfl ⟨FIN, Zgc⟩
  rw [if_neg h58] at hW'
  have h58' : (ss.getD k 0 == 58) = false := beq_eq_false_iff_ne.2 h58
  have hN := Zna (ss.getD k 0)
  have hM := Zm9 (ss.getD k 0)
  have hx := Zco ss k (k + 1)
  rw [show k + 1 - k = 1 by omega] at hx
  have hj2 : (k : Int) + 1 ≤ (ss.length : Int) := by omega
  have hto : ((k : Int) + 1).toNat = k + 1 := by omega
  have FIN : ∀ i, mks.idxOf? (ss.getD k 0) = some i → Zow o k (.returned (.tuple #[.agg #[.int .i64 (8 + (i : Int)), .string (strOfNums ((ss.drop k).take 1)), .int .i64 (k : Int)], .int .i64 ((k : Int) + 1)])) := fun i h => by
   rw [h] at hW'
   exact .inl ⟨_, _, _, hW'.symm, rfl⟩
  have FIN2 : mks.idxOf? (ss.getD k 0) = none → Zow o k (.returned (.tuple #[.agg #[.int .i64 0, .string (strOfNums []), .int .i64 0], .int .i64 (-1)])) := fun h => by
   rw [h] at hW'
   exact .inr ⟨hW'.symm, _, _, _, rfl⟩
  obtain ⟨S, hS0⟩ : ∃ S : ByteArray, Hid (⟨#[40, 41, 91, 93, 124, 94, 46, 59]⟩ = S) := ⟨_, rfl⟩
  have hSs : S.size = 8 := by rw [← hS0.out]; rfl
  have hSat : ∀ j, j < 8 → ∀ (hp : j < S.size), ((S[j]'hp).toNat : Int) = mks.getD j 0 := by
   intro j hj hp
   have e := hS0.out
   subst e
   have : ∀ i : Fin 8, (((⟨#[40, 41, 91, 93, 124, 94, 46, 59]⟩ : ByteArray)[i.1]'(by have := i.2; exact this)).toNat : Int) = mks.getD i.1 0 := by decide
   exact this ⟨j, hj⟩
  generalize ss.getD k 0 = c at *
  clear hW' h39 h35 h58
  go_enter Tryz.func44, Tryz.ntmps44
  go_upto_region 37 with (first | (go_at_call 36; refine (hn0 _).mono ?_; rintro e w' ⟨rfl, rfl⟩) | (go_at_call 60; refine (Zbz hD _).mono ?_; rintro e w' ⟨rfl, rfl⟩) | (go_at_call 78; refine (Zd3 hS _).mono ?_; rintro e w' ⟨rfl, rfl⟩))
  rw [hS0.out]
  clear hS0
  go_wp2
  go_loop [12] (fun v => ∃ q : Nat, q ≤ 8 ∧ v = .int .i64 q ∧ Hid (∀ j, j < q → mks.getD j 0 ≠ c)) (fun v => 8 - (intOf v).toNat)
  case atStart => exact ⟨0, Nat.zero_le _, rfl, fun j hj => absurd hj (by omega)⟩
  obtain ⟨q, hq, rfl, hno⟩ := hrel
  have hwq : IntKind.i64.wrap ((q : Int) + 1) = (q : Int) + 1 := by rw [IntKind.wrap_i64]; omega
  have hw8 : IntKind.i64.wrap (8 + (q : Int)) = 8 + (q : Int) := by rw [IntKind.wrap_i64]; omega
  by_cases hlt : q < 8
  ·have hltI : (q : Int) < 8 := by omega
   have hv := hSat q hlt
   have hyes : mks.getD q 0 = c → mks.idxOf? c = some q := fun e => hM q hlt hno.out e
   have hgo : mks.getD q 0 ≠ c → Hid (∀ j, j < q + 1 → mks.getD j 0 ≠ c) := fun e j hj => by
    rcases Nat.lt_succ_iff_lt_or_eq.1 hj with h | h
    ·exact hno.out j h
    rw [h]; exact e
   clear hSat hN hM hno
   generalize mks.getD q 0 = v at *
   by_cases heq : v = c
   ·have FINq := FIN q (hyes heq)
    have hcb' : (v == c) = true := by simp [heq]
    clear hyes hgo heq FIN FIN2
    generalize (ss.drop k).take 1 = T at *
    go_wp2
    exact bodyPost_ret (v := .tuple #[.agg #[.int .i64 (8 + (q : Int)), .string (strOfNums (T)), .int .i64 ((k : Int))], .int .i64 ((k : Int) + 1)]) (Za2 Tryz.results44 rfl (Zc4 (Zib (Zc9 _ _) _)) rfl) rfl ⟨FINq, Zgc⟩
   have hi := hgo heq
   have hcb' : (v == c) = false := by simp [heq]
   clear hyes hgo heq
   go_wp2
   go_round
   case rel => exact ⟨q + 1, hlt, by go_num, hi⟩
   case measure => simp [intOf]; omega
  have hltI : ¬ (q : Int) < 8 := by omega
  have FINn := FIN2 (hN fun j hj => hno.out j (by omega))
  clear hN hM hno hSat FIN FIN2
  go_wp2
  exact bodyPost_ret (v := .tuple #[.agg #[.int .i64 (0), .string (strOfNums ([])), .int .i64 (0)], .int .i64 (-1)]) (Za2 Tryz.results44 rfl (Zc4 (Zib (Zc9 _ _) _)) rfl) rfl ⟨FINn, Zgc⟩
end
end Go.Proofs.YtncfmhlikmibaaaGreatDoor
