/- Words of one kind: pieces of the source, names, numbers, marks. -/
import Derived.Test.YtoghhjljmhdioaaLxB
import Derived.Test.YtoghhjljmhdioaaRead
import Derived.Deep.CutRange
namespace Go.Proofs.Ytoghhjljmhdioaa
open Go.RowKit
set_option maxRecDepth 100000
/-- What a word's reader answers. -/
def RW (kd : Int) (t : List Int) (m : Nat) (ok : Bool) : Ending := .returned (.tuple #[.agg #[.int .i64 kd, .string (strOfNums t), .int .i64 0], .int .i64 m, .bool ok])
theorem ext_str (ss : List Int) (k m : Nat) : (strOfNums ss).extract k m = strOfNums ((ss.drop k).take (m - k)) := by
  apply ByteArray.ext
  unfold strOfNums
  rw [ByteArray.data_extract]
  apply Array.ext'
  simp [List.map_take, List.map_drop]
theorem results_tok {P : Program} {fn : Func} {tmps : Array Value} {a t c d : Nat} {ad : Addr} {w : World} {v u x : Value} (hf : fn.results = #[.cell a t, .tmp c, .tmp d]) (ha : tmps[a]?.getD undef = .pointer (some ad)) (hl : (loadVar t ad).run P w = .ok v w) (hu : tmps[c]?.getD undef = u) (hx : tmps[d]?.getD undef = x) : (results fn tmps).run P w = .ok (.tuple #[v, u, x]) w := by
  unfold results
  rw [hf]
  simp [ha, asAddr, hl, hu, hx]
/-- A word in a variable. -/
def tkB (kd : Int) (s : ByteArray) (p : Int) : Obj := .cells #[.int .i64 kd, .string s, .int .i64 p] 59
theorem tk_cells {w : World} {b : Nat} {kd : Int} {s : ByteArray} {p : Int} (h : w.heap[b]? = some (tkB kd s p)) : w.cell? ⟨b, 0, none⟩ = some (.int .i64 kd) ∧ w.cell? ⟨b, 1, none⟩ = some (.string s) ∧ w.cell? ⟨b, 2, none⟩ = some (.int .i64 p) ∧ ∀ i, w.frozen? ⟨b, i, none⟩ = false := by
  unfold tkB at h
  refine ⟨by simp [World.cell?, h], by simp [World.cell?, h], by simp [World.cell?, h], fun i => by simp [World.frozen?, h]⟩
theorem load35 {w : World} {b : Nat} {kd : Int} {s : ByteArray} {p : Int} (h : w.heap[b]? = some (tkB kd s p)) : (loadVar 59 ⟨b, 0, none⟩).run Try.prog w = .ok (.agg #[.int .i64 kd, .string s, .int .i64 p]) w := by
  obtain ⟨z0, z1, z2, _⟩ := tk_cells h
  simp [go_sem, z0, z1, z2]
theorem Try.results41 : Try.f41.results = #[.cell 8 59, .tmp 9, .tmp 10] := by kernel_rfl
theorem Try.results36 : Try.f36.results = #[.cell 4 59, .tmp 5, .tmp 6] := by kernel_rfl
theorem Try.results38 : Try.f38.results = #[.cell 4 59, .tmp 5, .tmp 6] := by kernel_rfl
theorem Try.results43 : Try.f43.results = #[.cell 4 59, .tmp 5, .tmp 6] := by kernel_rfl
theorem newT (w : World) (o : Obj) : (w.alloc o).heap[w.heap.size]? = some o := heap_alloc_new w o
theorem oldT {w : World} {b : Nat} {x : Obj} (h : w.heap[b]? = some x) (o : Obj) : (w.alloc o).heap[b]? = some x := (Below.heap_alloc w o b (lt_of_block h)).trans h
theorem boxT {w : World} {o : Obj} : Below w.heap.size w (w.alloc o) := (Below.refl _ _).alloc (Nat.le_refl _) _
/-- A word is stored. -/
def stT (w : World) (b : Nat) (kd : Int) (s : ByteArray) (p : Int) : World := ((w.setCell ⟨b, 0, none⟩ (.int .i64 kd)).setCell ⟨b, 1, none⟩ (.string s)).setCell ⟨b, 2, none⟩ (.int .i64 p)
theorem stT_blk {w : World} {b : Nat} {k0 p0 : Int} {s0 : ByteArray} (h : w.heap[b]? = some (tkB k0 s0 p0)) (kd : Int) (s : ByteArray) (p : Int) : (stT w b kd s p).heap[b]? = some (tkB kd s p) := by
  have h1 : (w.setCell ⟨b, 0, none⟩ (.int .i64 kd)).heap[b]? = some (tkB kd s0 p0) := by
    unfold tkB at h ⊢
    rw [heap_setCell_same w b 0 _ _ _ h]
    simp
  have h2 : ((w.setCell ⟨b, 0, none⟩ (.int .i64 kd)).setCell ⟨b, 1, none⟩ (.string s)).heap[b]? = some (tkB kd s p0) := by
    unfold tkB at h1 ⊢
    rw [heap_setCell_same _ b 1 _ _ _ h1]
    simp
  unfold stT
  unfold tkB at h2 ⊢
  rw [heap_setCell_same _ b 2 _ _ _ h2]
  simp
theorem stT_other {w : World} {b g : Nat} (h : g ≠ b) (kd : Int) (s : ByteArray) (p : Int) : (stT w b kd s p).heap[g]? = w.heap[g]? :=
  (heap_setCell_other _ ⟨b, 2, none⟩ g _ h).trans ((heap_setCell_other _ ⟨b, 1, none⟩ g _ h).trans (heap_setCell_other _ ⟨b, 0, none⟩ g _ h))
theorem stT_below {B b : Nat} {w w' : World} (h : Below B w w') (hb : B ≤ b) (kd : Int) (s : ByteArray) (p : Int) : Below B w (stT w' b kd s p) := ((h.setCell hb _).setCell hb _).setCell hb _
theorem keptT {w w2 : World} {o : Obj} (h : Below (w.alloc o).heap.size (w.alloc o) w2) : w2.heap[w.heap.size]? = some o := (h.block _ (by simp)).trans (newT w o)
theorem overT {w w2 : World} {o : Obj} (h : Below (w.alloc o).heap.size (w.alloc o) w2) : Below w.heap.size w w2 := below_size boxT (Nat.le_refl _) h
set_option maxHeartbeats 2000000 in
theorem piece_any (ss : List Int) (kd : Int) (k m : Nat) (w : World) (hk : k ≤ m) (hm : m ≤ ss.length) : Calls Try.prog 41 #[.int .i64 kd, .string (strOfNums ss), .int .i64 k, .int .i64 m] w fun e w' => e = RW kd ((ss.drop k).take (m - k)) m true ∧ Below w.heap.size w w' := by
  have hsz : (strOfNums ss).size = ss.length := strOfNums_size ss
  have hx := ext_str ss k m
  have h1 : (k : Int) ≤ (m : Int) := by omega
  have h2 : (m : Int) ≤ (ss.length : Int) := by omega
  go_enter Try.func41, Try.ntmps41
  go_wp2
  exact bodyPost_ret (v := .tuple #[.agg #[.int .i64 kd, .string (strOfNums ((ss.drop k).take (m - k))), .int .i64 0], .int .i64 m, .bool true]) (results_tok Try.results41 rfl (load35 (newT _ _)) rfl rfl) rfl ⟨rfl, boxT⟩
set_option maxHeartbeats 2000000 in
theorem named_any (ss : List Int) (k : Nat) (w : World) (hb : ∀ x ∈ ss, 0 ≤ x ∧ x < 256) (hk : k < ss.length) (hl : ss.length ≤ 9223372036854775800) : Calls Try.prog 36 #[.string (strOfNums ss), .int .i64 k] w fun e w' => e = (if lone (ss.drop (k + nmLen (ss.drop k))) then RW 2 ((ss.drop k).take (nmLen (ss.drop k) + 1)) (k + (nmLen (ss.drop k) + 1)) true else RW 1 ((ss.drop k).take (nmLen (ss.drop k))) (k + nmLen (ss.drop k)) true) ∧ Below w.heap.size w w' := by
  have hle := nmLen_le (ss.drop k)
  rw [List.length_drop] at hle
  have hn := fun w => nameEnd_any ss k w hb (by omega) (by omega)
  have hlo := fun w => lone_any ss (k + nmLen (ss.drop k)) w hb (by omega) (by omega)
  cases hg : lone (ss.drop (k + nmLen (ss.drop k))) with
  | false =>
    have hp := fun w => piece_any ss 1 k (k + nmLen (ss.drop k)) w (by omega) (by omega)
    rw [hg] at hlo
    rw [if_neg (by decide)]
    rw [show k + nmLen (ss.drop k) - k = nmLen (ss.drop k) by omega] at hp
    unfold RW at hp ⊢
    generalize (ss.drop k).take (nmLen (ss.drop k)) = t at *
    generalize k + nmLen (ss.drop k) = m at *
    clear hg hle
    go_enter Try.func36, Try.ntmps36
    go_wp2_with (first | (go_at_call 49; refine (hn _).mono ?_; rintro e w' ⟨rfl, rfl⟩) | (go_at_call 50; refine (hlo _).mono ?_; rintro e w' ⟨rfl, rfl⟩))
    refine (hp _).mono ?_
    rintro e w2 ⟨rfl, hB2⟩
    have E : w2.heap[w.heap.size]? = some (tkB 0 ⟨#[]⟩ 0) := keptT hB2
    have BB := overT hB2
    obtain ⟨z0, z1, z2, zf⟩ := tk_cells E
    clear hB2
    go_wp2
    exact bodyPost_ret (v := .tuple #[.agg #[.int .i64 1, .string (strOfNums t), .int .i64 0], .int .i64 m, .bool true]) (results_tok Try.results36 rfl (load35 (stT_blk E _ _ _)) rfl rfl) rfl ⟨rfl, stT_below BB (Nat.le_refl _) _ _ _⟩
  | true =>
    have hgl := lone_len hg
    rw [List.length_drop] at hgl
    have hp := fun w => piece_any ss 2 k (k + (nmLen (ss.drop k) + 1)) w (by omega) (by omega)
    have hw1 : IntKind.i64.wrap (((k + nmLen (ss.drop k) : Nat) : Int) + 1) = ((k + (nmLen (ss.drop k) + 1) : Nat) : Int) := by rw [IntKind.wrap_i64]; omega
    rw [hg] at hlo
    rw [if_pos rfl]
    rw [show k + (nmLen (ss.drop k) + 1) - k = nmLen (ss.drop k) + 1 by omega] at hp
    unfold RW at hp ⊢
    generalize (ss.drop k).take (nmLen (ss.drop k) + 1) = t at *
    generalize k + (nmLen (ss.drop k) + 1) = m' at *
    generalize k + nmLen (ss.drop k) = m at *
    clear hg hle hgl
    go_enter Try.func36, Try.ntmps36
    go_wp2_with (first | (go_at_call 49; refine (hn _).mono ?_; rintro e w' ⟨rfl, rfl⟩) | (go_at_call 50; refine (hlo _).mono ?_; rintro e w' ⟨rfl, rfl⟩))
    refine (hp _).mono ?_
    rintro e w2 ⟨rfl, hB2⟩
    have E : w2.heap[w.heap.size]? = some (tkB 0 ⟨#[]⟩ 0) := keptT hB2
    have BB := overT hB2
    obtain ⟨z0, z1, z2, zf⟩ := tk_cells E
    clear hB2
    go_wp2
    exact bodyPost_ret (v := .tuple #[.agg #[.int .i64 2, .string (strOfNums t), .int .i64 0], .int .i64 m', .bool true]) (results_tok Try.results36 rfl (load35 (stT_blk E _ _ _)) rfl rfl) rfl ⟨rfl, stT_below BB (Nat.le_refl _) _ _ _⟩
set_option maxHeartbeats 4000000 in
theorem number_yes (ss : List Int) (k : Nat) (w : World) (hb : ∀ x ∈ ss, 0 ≤ x ∧ x < 256) (hk : k ≤ ss.length) (hl : ss.length ≤ 9223372036854775800) (h0 : rdE ((ss.drop k).take ((ss.drop k).takeWhile dgB).length) = 0) : Calls Try.prog 38 #[.string (strOfNums ss), .int .i64 k] w fun e w' => e = RW 4 ((ss.drop k).take ((ss.drop k).takeWhile dgB).length) (k + ((ss.drop k).takeWhile dgB).length) true ∧ Below w.heap.size w w' := by
  have hsz : (strOfNums ss).size = ss.length := strOfNums_size ss
  have hle : ((ss.drop k).takeWhile dgB).length ≤ ss.length - k := by
    have := (List.takeWhile_prefix (l := ss.drop k) dgB).length_le
    rw [List.length_drop] at this
    exact this
  obtain ⟨n, hn⟩ : ∃ n, Hid (((ss.drop k).takeWhile dgB).length = n) := ⟨_, rfl⟩
  have hE : Hid (k + ((ss.drop k).takeWhile dgB).length = k + n) := by show _ = _; rw [hn.out]
  rw [hn.out] at hle h0 ⊢
  have hx := ext_str ss k (k + n)
  have hp := fun w => piece_any ss 4 k (k + n) w (by omega) (by omega)
  rw [show k + n - k = n by omega] at hp hx
  obtain ⟨d, hd⟩ : ∃ d, Hid ((ss.drop k).take n = d) := ⟨_, rfl⟩
  rw [hd.out] at hp hx h0 ⊢
  have hdb : ∀ x ∈ d, 0 ≤ x ∧ x < 256 := fun x h => hb x (by rw [← hd.out] at h; exact List.mem_of_mem_drop (List.mem_of_mem_take h))
  have hdl : d.length ≤ 9223372036854775807 := by
    rw [← hd.out, List.length_take, List.length_drop]; omega
  have hr := fun w => read_any d w hdb hdl
  generalize hM : k + n = M at *
  have hM1 : (k : Int) ≤ (M : Int) := by omega
  have hM2 : (M : Int) ≤ (ss.length : Int) := by omega
  have hM0 : k ≤ M ∧ M ≤ ss.length := by omega
  clear hM hn hd hle
  unfold RW at hp ⊢
  go_enter Try.func38, Try.ntmps38
  go_wp2
  go_loop [7] (fun v => ∃ i : Nat, i ≤ ss.length ∧ v = .int .i64 i ∧ Hid (i + ((ss.drop i).takeWhile dgB).length = M)) (fun v => ss.length - (intOf v).toNat)
  case atStart => exact ⟨k, hk, rfl, hE⟩
  case round =>
    obtain ⟨i, hi, rfl, hv⟩ := hrel
    clear hE
    have hw1 : IntKind.i64.wrap ((i : Int) + 1) = (i : Int) + 1 := by rw [IntKind.wrap_i64]; omega
    by_cases hlt : i < ss.length
    · have hltI : (i : Int) < (ss.length : Int) := by omega
      have hat := str_at ss hb i hlt
      have hs := tw_step dgB ss i hlt
      cases hg : dgB (ss.getD i 0) with
      | true =>
        have hv' : Hid ((i + 1) + ((ss.drop (i + 1)).takeWhile dgB).length = M) := by
          show _ = _
          rw [hg, if_pos rfl] at hs
          have := hv.out
          omega
        clear hs hv
        generalize ss.getD i 0 = c at *
        go_wp2_with (go_at_call 37; refine (digit_is hg _).mono ?_; rintro e w' ⟨rfl, rfl⟩)
        go_round
        case rel => exact ⟨i + 1, by omega, by go_num, hv'⟩
        case measure => simp [intOf]; omega
      | false =>
        obtain rfl : i = M := by
          rw [hg, if_neg (by decide)] at hs
          have := hv.out
          omega
        clear hs hv
        generalize ss.getD i 0 = c at *
        go_wp2_with (go_at_call 37; refine (digit_is hg _).mono ?_; rintro e w' ⟨rfl, rfl⟩)
        refine (hr _).mono ?_
        rintro e w2 ⟨v, rfl, OV, hB2⟩
        obtain ⟨-, va, vc, ev, -⟩ := OV
        subst ev
        have E0 : w2.heap[w.heap.size]? = some (tkB 0 ⟨#[]⟩ 0) := keptT hB2
        have B0 := overT hB2
        clear hB2 hr
        replace E0 := oldT E0 (.cells #[.bool (rdB d), .slice va (rdM d).length vc] 87)
        replace B0 := below_size B0 (Nat.le_refl _) (boxT (o := .cells #[.bool (rdB d), .slice va (rdM d).length vc] 87))
        generalize (rdM d).length = vn at *
        generalize rdB d = rb at *
        rw [h0]
        go_wp2_with fail
        generalize w2.alloc (.cells #[.bool rb, .slice va vn vc] 87) = w3 at *
        refine (hp _).mono ?_
        rintro e w2 ⟨rfl, hB2⟩
        have E : w2.heap[w.heap.size]? = some (tkB 0 ⟨#[]⟩ 0) := (hB2.block _ (lt_of_block E0)).trans E0
        have BB := below_size B0 (Nat.le_refl _) hB2
        obtain ⟨z0, z1, z2, zf⟩ := tk_cells E
        clear hB2
        go_wp2
        exact bodyPost_ret (v := .tuple #[.agg #[.int .i64 4, .string (strOfNums d), .int .i64 0], .int .i64 i, .bool true]) (results_tok Try.results38 rfl (load35 (stT_blk E _ _ _)) rfl rfl) rfl ⟨rfl, stT_below BB (Nat.le_refl _) _ _ _⟩

    · have hltI : ¬ (i : Int) < (ss.length : Int) := by omega
      have hs := tw_end dgB ss i (by omega)
      obtain rfl : i = M := by
        have := hv.out
        omega
      clear hs hv
      go_wp2_with fail
      refine (hr _).mono ?_
      rintro e w2 ⟨v, rfl, OV, hB2⟩
      obtain ⟨-, va, vc, ev, -⟩ := OV
      subst ev
      have E0 : w2.heap[w.heap.size]? = some (tkB 0 ⟨#[]⟩ 0) := keptT hB2
      have B0 := overT hB2
      clear hB2 hr
      replace E0 := oldT E0 (.cells #[.bool (rdB d), .slice va (rdM d).length vc] 87)
      replace B0 := below_size B0 (Nat.le_refl _) (boxT (o := .cells #[.bool (rdB d), .slice va (rdM d).length vc] 87))
      generalize (rdM d).length = vn at *
      generalize rdB d = rb at *
      rw [h0]
      go_wp2_with fail
      generalize w2.alloc (.cells #[.bool rb, .slice va vn vc] 87) = w3 at *
      refine (hp _).mono ?_
      rintro e w2 ⟨rfl, hB2⟩
      have E : w2.heap[w.heap.size]? = some (tkB 0 ⟨#[]⟩ 0) := (hB2.block _ (lt_of_block E0)).trans E0
      have BB := below_size B0 (Nat.le_refl _) hB2
      obtain ⟨z0, z1, z2, zf⟩ := tk_cells E
      clear hB2
      go_wp2
      exact bodyPost_ret (v := .tuple #[.agg #[.int .i64 4, .string (strOfNums d), .int .i64 0], .int .i64 i, .bool true]) (results_tok Try.results38 rfl (load35 (stT_blk E _ _ _)) rfl rfl) rfl ⟨rfl, stT_below BB (Nat.le_refl _) _ _ _⟩

set_option maxHeartbeats 4000000 in
theorem number_no (ss : List Int) (k : Nat) (w : World) (hb : ∀ x ∈ ss, 0 ≤ x ∧ x < 256) (hk : k ≤ ss.length) (hl : ss.length ≤ 9223372036854775800) (h0 : ¬ rdE ((ss.drop k).take ((ss.drop k).takeWhile dgB).length) = 0) : Calls Try.prog 38 #[.string (strOfNums ss), .int .i64 k] w fun e w' => e = RW 0 [] k false ∧ Below w.heap.size w w' := by
  have hsz : (strOfNums ss).size = ss.length := strOfNums_size ss
  have hle : ((ss.drop k).takeWhile dgB).length ≤ ss.length - k := by
    have := (List.takeWhile_prefix (l := ss.drop k) dgB).length_le
    rw [List.length_drop] at this
    exact this
  obtain ⟨n, hn⟩ : ∃ n, Hid (((ss.drop k).takeWhile dgB).length = n) := ⟨_, rfl⟩
  have hE : Hid (k + ((ss.drop k).takeWhile dgB).length = k + n) := by show _ = _; rw [hn.out]
  rw [hn.out] at hle h0
  have hx := ext_str ss k (k + n)
  have hp := fun w => piece_any ss 4 k (k + n) w (by omega) (by omega)
  rw [show k + n - k = n by omega] at hp hx
  obtain ⟨d, hd⟩ : ∃ d, Hid ((ss.drop k).take n = d) := ⟨_, rfl⟩
  rw [hd.out] at hp hx h0
  have hdb : ∀ x ∈ d, 0 ≤ x ∧ x < 256 := fun x h => hb x (by rw [← hd.out] at h; exact List.mem_of_mem_drop (List.mem_of_mem_take h))
  have hdl : d.length ≤ 9223372036854775807 := by
    rw [← hd.out, List.length_take, List.length_drop]; omega
  have hr := fun w => read_any d w hdb hdl
  generalize hM : k + n = M at *
  have hM1 : (k : Int) ≤ (M : Int) := by omega
  have hM2 : (M : Int) ≤ (ss.length : Int) := by omega
  have hM0 : k ≤ M ∧ M ≤ ss.length := by omega
  clear hM hn hd hle
  unfold RW at hp ⊢
  go_enter Try.func38, Try.ntmps38
  go_wp2
  go_loop [7] (fun v => ∃ i : Nat, i ≤ ss.length ∧ v = .int .i64 i ∧ Hid (i + ((ss.drop i).takeWhile dgB).length = M)) (fun v => ss.length - (intOf v).toNat)
  case atStart => exact ⟨k, hk, rfl, hE⟩
  case round =>
    obtain ⟨i, hi, rfl, hv⟩ := hrel
    clear hE
    have hw1 : IntKind.i64.wrap ((i : Int) + 1) = (i : Int) + 1 := by rw [IntKind.wrap_i64]; omega
    by_cases hlt : i < ss.length
    · have hltI : (i : Int) < (ss.length : Int) := by omega
      have hat := str_at ss hb i hlt
      have hs := tw_step dgB ss i hlt
      cases hg : dgB (ss.getD i 0) with
      | true =>
        have hv' : Hid ((i + 1) + ((ss.drop (i + 1)).takeWhile dgB).length = M) := by
          show _ = _
          rw [hg, if_pos rfl] at hs
          have := hv.out
          omega
        clear hs hv
        generalize ss.getD i 0 = c at *
        go_wp2_with (go_at_call 37; refine (digit_is hg _).mono ?_; rintro e w' ⟨rfl, rfl⟩)
        go_round
        case rel => exact ⟨i + 1, by omega, by go_num, hv'⟩
        case measure => simp [intOf]; omega
      | false =>
        obtain rfl : i = M := by
          rw [hg, if_neg (by decide)] at hs
          have := hv.out
          omega
        clear hs hv
        generalize ss.getD i 0 = c at *
        go_wp2_with (go_at_call 37; refine (digit_is hg _).mono ?_; rintro e w' ⟨rfl, rfl⟩)
        refine (hr _).mono ?_
        rintro e w2 ⟨v, rfl, OV, hB2⟩
        obtain ⟨-, va, vc, ev, -⟩ := OV
        subst ev
        have E0 : w2.heap[w.heap.size]? = some (tkB 0 ⟨#[]⟩ 0) := keptT hB2
        have B0 := overT hB2
        clear hB2 hr
        replace E0 := oldT E0 (.cells #[.bool (rdB d), .slice va (rdM d).length vc] 87)
        replace B0 := below_size B0 (Nat.le_refl _) (boxT (o := .cells #[.bool (rdB d), .slice va (rdM d).length vc] 87))
        generalize (rdM d).length = vn at *
        generalize rdB d = rb at *
        have h0' : (rdE d != 0) = true := by simp [h0]
        generalize rdE d = re at *
        go_upto_region 6 with fail
        generalize w2.alloc (.cells #[.bool rb, .slice va vn vc] 87) = w3 at *
        have E : w3.heap[w.heap.size]? = some (tkB 0 ⟨#[]⟩ 0) := E0
        obtain ⟨z0, z1, z2, zf⟩ := tk_cells E
        go_wp2
        exact bodyPost_ret (v := .tuple #[.agg #[.int .i64 0, .string (strOfNums []), .int .i64 0], .int .i64 k, .bool false]) (results_tok Try.results38 rfl (load35 (stT_blk E _ _ _)) rfl rfl) rfl ⟨rfl, stT_below B0 (Nat.le_refl _) _ _ _⟩

    · have hltI : ¬ (i : Int) < (ss.length : Int) := by omega
      have hs := tw_end dgB ss i (by omega)
      obtain rfl : i = M := by
        have := hv.out
        omega
      clear hs hv
      go_wp2_with fail
      refine (hr _).mono ?_
      rintro e w2 ⟨v, rfl, OV, hB2⟩
      obtain ⟨-, va, vc, ev, -⟩ := OV
      subst ev
      have E0 : w2.heap[w.heap.size]? = some (tkB 0 ⟨#[]⟩ 0) := keptT hB2
      have B0 := overT hB2
      clear hB2 hr
      replace E0 := oldT E0 (.cells #[.bool (rdB d), .slice va (rdM d).length vc] 87)
      replace B0 := below_size B0 (Nat.le_refl _) (boxT (o := .cells #[.bool (rdB d), .slice va (rdM d).length vc] 87))
      generalize (rdM d).length = vn at *
      generalize rdB d = rb at *
      have h0' : (rdE d != 0) = true := by simp [h0]
      generalize rdE d = re at *
      go_upto_region 6 with fail
      generalize w2.alloc (.cells #[.bool rb, .slice va vn vc] 87) = w3 at *
      have E : w3.heap[w.heap.size]? = some (tkB 0 ⟨#[]⟩ 0) := E0
      obtain ⟨z0, z1, z2, zf⟩ := tk_cells E
      go_wp2
      exact bodyPost_ret (v := .tuple #[.agg #[.int .i64 0, .string (strOfNums []), .int .i64 0], .int .i64 k, .bool false]) (results_tok Try.results38 rfl (load35 (stT_blk E _ _ _)) rfl rfl) rfl ⟨rfl, stT_below B0 (Nat.le_refl _) _ _ _⟩

theorem lit_mk : (⟨#[40, 41, 91, 93, 124, 94, 46, 59]⟩ : ByteArray) = strOfNums mks := rfl
theorem mks_none (c : Int) (h : ∀ i, i < 8 → mks.getD i 0 ≠ c) : mks.idxOf? c = none := by
  unfold mks at h ⊢
  have h0 := h 0 (by omega); have h1 := h 1 (by omega); have h2 := h 2 (by omega); have h3 := h 3 (by omega)
  have h4 := h 4 (by omega); have h5 := h 5 (by omega); have h6 := h 6 (by omega); have h7 := h 7 (by omega)
  simp only [List.getD_cons_zero, List.getD_cons_succ] at h0 h1 h2 h3 h4 h5 h6 h7
  simp [List.idxOf?, List.findIdx?_cons, h0, h1, h2, h3, h4, h5, h6, h7]
theorem mks_some (c : Int) (i : Nat) (hi : i < 8) (h : ∀ j, j < i → mks.getD j 0 ≠ c) (he : mks.getD i 0 = c) : mks.idxOf? c = some i := by
  subst he
  have : ∀ i : Fin 8, mks.idxOf? (mks.getD i.1 0) = some i.1 := by decide
  exact this ⟨i, hi⟩
set_option maxHeartbeats 4000000 in
theorem mark_colon (ss : List Int) (k : Nat) (w : World) (hb : ∀ x ∈ ss, 0 ≤ x ∧ x < 256) (hk : k < ss.length) (hl : ss.length ≤ 9223372036854775800) (hc : ss.getD k 0 = 58) : Calls Try.prog 43 #[.string (strOfNums ss), .int .i64 k] w fun e w' => e = (if lone (ss.drop k) then RW 16 ((ss.drop k).take 1) (k + 1) true else RW 7 ((ss.drop k).take 2) (k + 2) true) ∧ Below w.heap.size w w' := by
  have hsz : (strOfNums ss).size = ss.length := strOfNums_size ss
  have hltI : (k : Int) < (ss.length : Int) := by omega
  have hat := str_at ss hb k hk
  rw [hc] at hat
  have hlo := fun w => lone_any ss k w hb (by omega) (by omega)
  cases hg : lone (ss.drop k) with
  | true =>
    rw [hg] at hlo
    rw [if_pos rfl]
    have hp := fun w => piece_any ss 16 k (k + 1) w (by omega) (by omega)
    rw [show k + 1 - k = 1 by omega, show ((k + 1 : Nat) : Int) = (k : Int) + 1 by omega] at hp
    have hw1 : IntKind.i64.wrap ((k : Int) + 1) = (k : Int) + 1 := by rw [IntKind.wrap_i64]; omega
    unfold RW at hp ⊢
    generalize (ss.drop k).take 1 = t at *
    clear hg
    go_enter Try.func43, Try.ntmps43
    go_wp2_with (go_at_call 50; refine (hlo _).mono ?_; rintro e w' ⟨rfl, rfl⟩)
    have E0 : (w.alloc (.cells #[.int .i64 0, .string ⟨#[]⟩, .int .i64 0] 59)).heap[w.heap.size]? = some (tkB 0 ⟨#[]⟩ 0) := newT _ _
    have B0 := boxT (w := w) (o := .cells #[.int .i64 0, .string ⟨#[]⟩, .int .i64 0] 59)
    generalize w.alloc (.cells #[.int .i64 0, .string ⟨#[]⟩, .int .i64 0] 59) = w1 at *
    refine (hp _).mono ?_
    rintro e w2 ⟨rfl, hB2⟩
    have E : w2.heap[w.heap.size]? = some (tkB 0 ⟨#[]⟩ 0) := (hB2.block _ (lt_of_block E0)).trans E0
    have BB := below_size B0 (Nat.le_refl _) hB2
    obtain ⟨z0, z1, z2, zf⟩ := tk_cells E
    clear hB2
    go_wp2
    exact bodyPost_ret (v := .tuple #[.agg #[.int .i64 16, .string (strOfNums t), .int .i64 0], .int .i64 ((k + 1 : Nat) : Int), .bool true]) (results_tok Try.results43 rfl (load35 (stT_blk E _ _ _)) rfl rfl) rfl ⟨rfl, stT_below BB (Nat.le_refl _) _ _ _⟩
  | false =>
    have h2 : k + 2 ≤ ss.length := by
      unfold lone at hg
      rw [getD_drop, getD_drop, Nat.add_zero, hc] at hg
      by_cases h : k + 1 < ss.length
      · omega
      · have e : ss.getD (k + 1) 0 = 0 := by simp [List.getD, Nat.not_lt.1 h]
        rw [e] at hg
        exact absurd hg (by decide)
    rw [hg] at hlo
    rw [if_neg (by decide)]
    have hp := fun w => piece_any ss 7 k (k + 2) w (by omega) (by omega)
    rw [show k + 2 - k = 2 by omega, show ((k + 2 : Nat) : Int) = (k : Int) + 2 by omega] at hp
    have hw1 : IntKind.i64.wrap ((k : Int) + 2) = (k : Int) + 2 := by rw [IntKind.wrap_i64]; omega
    unfold RW at hp ⊢
    generalize (ss.drop k).take 2 = t at *
    clear hg
    go_enter Try.func43, Try.ntmps43
    go_wp2_with (go_at_call 50; refine (hlo _).mono ?_; rintro e w' ⟨rfl, rfl⟩)
    have E0 : (w.alloc (.cells #[.int .i64 0, .string ⟨#[]⟩, .int .i64 0] 59)).heap[w.heap.size]? = some (tkB 0 ⟨#[]⟩ 0) := newT _ _
    have B0 := boxT (w := w) (o := .cells #[.int .i64 0, .string ⟨#[]⟩, .int .i64 0] 59)
    generalize w.alloc (.cells #[.int .i64 0, .string ⟨#[]⟩, .int .i64 0] 59) = w1 at *
    refine (hp _).mono ?_
    rintro e w2 ⟨rfl, hB2⟩
    have E : w2.heap[w.heap.size]? = some (tkB 0 ⟨#[]⟩ 0) := (hB2.block _ (lt_of_block E0)).trans E0
    have BB := below_size B0 (Nat.le_refl _) hB2
    obtain ⟨z0, z1, z2, zf⟩ := tk_cells E
    clear hB2
    go_wp2
    exact bodyPost_ret (v := .tuple #[.agg #[.int .i64 7, .string (strOfNums t), .int .i64 0], .int .i64 ((k + 2 : Nat) : Int), .bool true]) (results_tok Try.results43 rfl (load35 (stT_blk E _ _ _)) rfl rfl) rfl ⟨rfl, stT_below BB (Nat.le_refl _) _ _ _⟩
/-- What mark answers of a byte that is no colon. -/
def mkW (ss : List Int) (k : Nat) (o : Option Nat) : Ending := match o with
  | some i => RW (8 + (i : Int)) ((ss.drop k).take 1) (k + 1) true
  | none => RW 0 [] k false
set_option maxHeartbeats 4000000 in
theorem mark_any (ss : List Int) (k : Nat) (w : World) (hb : ∀ x ∈ ss, 0 ≤ x ∧ x < 256) (hk : k < ss.length) (hl : ss.length ≤ 9223372036854775800) (hc : ss.getD k 0 ≠ 58) : Calls Try.prog 43 #[.string (strOfNums ss), .int .i64 k] w fun e w' => e = mkW ss k (mks.idxOf? (ss.getD k 0)) ∧ Below w.heap.size w w' := by
  have hsz : (strOfNums ss).size = ss.length := strOfNums_size ss
  have hltI : (k : Int) < (ss.length : Int) := by omega
  have hat := str_at ss hb k hk
  have hcb := hb (ss.getD k 0) (by rw [getD_lt hk]; exact List.getElem_mem hk)
  have hp := fun i w => piece_any ss (8 + i) k (k + 1) w (by omega) (by omega)
  rw [show k + 1 - k = 1 by omega, show ((k + 1 : Nat) : Int) = (k : Int) + 1 by omega] at hp
  have hw1 : IntKind.i64.wrap ((k : Int) + 1) = (k : Int) + 1 := by rw [IntKind.wrap_i64]; omega
  have hN := mks_none (ss.getD k 0)
  have hS := mks_some (ss.getD k 0)
  unfold RW at hp
  generalize hcc : ss.getD k 0 = c at *
  clear hcc
  have hwr : IntKind.i32.wrap c = c := by rw [IntKind.wrap_i32]; omega
  have hc58 : (c == 58) = false := by simp [hc]
  obtain ⟨S, hS0⟩ : ∃ S : ByteArray, Hid (⟨#[40, 41, 91, 93, 124, 94, 46, 59]⟩ = S) := ⟨_, rfl⟩
  have hSs : S.size = 8 := by rw [← hS0.out]; rfl
  have hSat : ∀ j (hp : j < S.size), ((S[j]'hp).toNat : Int) = mks.getD j 0 := by
    intro j hj
    have e := hS0.out
    subst e
    have : ∀ i : Fin 8, (((⟨#[40, 41, 91, 93, 124, 94, 46, 59]⟩ : ByteArray)[i.1]'(by have := i.2; exact this)).toNat : Int) = mks.getD i.1 0 := by decide
    exact this ⟨j, hj⟩
  go_enter Try.func43, Try.ntmps43
  go_upto_region 5 with fail
  rw [hS0.out]
  clear hS0
  go_wp2
  go_loopw [] (fun wr => ∃ pos : Nat, wr.heap[w.heap.size + 1]? = some (.stringIter S pos) ∧ wr.heap[w.heap.size]? = some (tkB 0 ⟨#[]⟩ 0) ∧ Below w.heap.size w wr ∧ pos ≤ 8 ∧ Hid (∀ j, j < pos → mks.getD j 0 ≠ c)) (fun wr => 8 - wr.iterPos (w.heap.size + 1))
  case atStart =>
    refine ⟨0, ?_, oldT (newT w _) _, (boxT (w := w)).alloc (by simp) _, Nat.zero_le _, fun j hj => absurd hj (by omega)⟩
    simpa using World.iter_heap (w.alloc (.cells #[.int .i64 0, .string ⟨#[]⟩, .int .i64 0] 59)) S 0
  case round =>
    obtain ⟨pos, hit, E0, B0, hpos, hno⟩ := hrel
    have hit2 := fun p' => Lib.iterAt_heap wr (w.heap.size + 1) S pos p' hit
    have hbw2 := fun p' => Lib.below_iterAt B0 (k := w.heap.size + 1) (by omega) S p'
    have hE2 : ∀ p', (wr.iterAt (w.heap.size + 1) S p').heap[w.heap.size]? = some (tkB 0 ⟨#[]⟩ 0) := fun p' => (Lib.iterAt_other wr (w.heap.size + 1) w.heap.size S p' (by omega)).trans E0
    by_cases hp8 : pos < 8
    · have hp' : pos < S.size := by omega
      have hv := hSat pos hp'
      have hv0 : 0 ≤ mks.getD pos 0 ∧ mks.getD pos 0 < 128 := by
        have : ∀ i : Fin 8, 0 ≤ mks.getD i.1 0 ∧ mks.getD i.1 0 < 128 := by decide
        exact this ⟨pos, hp8⟩
      have hnx : ∀ ty, (Instr.next (.pointer (some ⟨w.heap.size + 1, 0, none⟩)) true ty).run Try.prog wr = .ok (.tuple #[.bool true, .int .i64 pos, .int .i32 (mks.getD pos 0)]) (wr.iterAt (w.heap.size + 1) S (pos + 1)) := fun ty => by
        rw [Lib.run_next_ascii_at wr (w.heap.size + 1) S pos ty hit hp' (by omega), hv]
      have hyes : mks.getD pos 0 = c → Hid (mks.idxOf? c = some pos) := fun e => hS pos hp8 hno.out e
      have hgo : mks.getD pos 0 ≠ c → Hid (∀ j, j < pos + 1 → mks.getD j 0 ≠ c) := fun e j hj => by
        rcases Nat.lt_succ_iff_lt_or_eq.1 hj with h | h
        · exact hno.out j h
        · rw [h]; exact e
      clear hv hSat hN hS hno
      have hw8 : IntKind.i64.wrap (8 + (pos : Int)) = 8 + (pos : Int) := by rw [IntKind.wrap_i64]; omega
      generalize mks.getD pos 0 = v at *
      by_cases heq : v = c
      · have hi := hyes heq
        have hcb' : (v == c) = true := by simp [heq]
        clear hyes hgo hv0 heq
        go_wp2_with fail
        replace E0 := hE2 (pos + 1)
        replace B0 := hbw2 (pos + 1)
        clear hE2 hbw2 hit2 hnx hit
        generalize wr.iterAt (w.heap.size + 1) S (pos + 1) = w3 at *
        refine (hp pos _).mono ?_
        rintro e w2 ⟨rfl, hB2⟩
        have E : w2.heap[w.heap.size]? = some (tkB 0 ⟨#[]⟩ 0) := (hB2.block _ (lt_of_block E0)).trans E0
        have BB := below_size B0 (Nat.le_refl _) hB2
        obtain ⟨z0, z1, z2, zf⟩ := tk_cells E
        clear hB2
        go_wp2
        exact bodyPost_ret (v := .tuple #[.agg #[.int .i64 (8 + (pos : Int)), .string (strOfNums ((ss.drop k).take 1)), .int .i64 0], .int .i64 ((k + 1 : Nat) : Int), .bool true]) (results_tok Try.results43 rfl (load35 (stT_blk E _ _ _)) rfl rfl) rfl ⟨by rw [hi.out]; rfl, stT_below BB (Nat.le_refl _) _ _ _⟩
      · have hi := hgo heq
        have hcb' : (v == c) = false := by simp [heq]
        clear hyes hgo hv0 heq
        go_wp2
        go_roundw
        case rel => exact ⟨pos + 1, hit2 _, hE2 _, hbw2 _, hp8, hi⟩
        case measure =>
          simp only [World.iterPos, hit2, hit]
          omega
    · have hnx : ∀ ty, (Instr.next (.pointer (some ⟨w.heap.size + 1, 0, none⟩)) true ty).run Try.prog wr = _ := fun ty => Lib.run_next_end_at wr (w.heap.size + 1) S pos ty hit (by omega)
      have hi : Hid (mks.idxOf? c = none) := hN fun j hj => hno.out j (by omega)
      clear hN hS hno hSat hit2 hbw2 hE2
      have E : wr.heap[w.heap.size]? = some (tkB 0 ⟨#[]⟩ 0) := E0
      obtain ⟨z0, z1, z2, zf⟩ := tk_cells E
      go_wp2
      exact bodyPost_ret (v := .tuple #[.agg #[.int .i64 0, .string (strOfNums []), .int .i64 0], .int .i64 k, .bool false]) (results_tok Try.results43 rfl (load35 (stT_blk E _ _ _)) rfl rfl) rfl ⟨by rw [hi.out]; rfl, stT_below B0 (Nat.le_refl _) _ _ _⟩
end Go.Proofs.Ytoghhjljmhdioaa
