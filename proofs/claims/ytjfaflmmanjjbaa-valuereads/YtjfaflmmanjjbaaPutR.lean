/- A record as bytes. -/
import Derived.Test.YtjfaflmmanjjbaaPutC
import Derived.Test.YtjfaflmmanjjbaaRightR
namespace Go.Proofs.Ytjfaflmmanjjbaa
open Go.RowKit
set_option maxRecDepth 100000
def chsB (xs : List Ch) : List Int := xs.flatMap fun x => chB x.oop x.gone x.cls x.vs x.bs
/-- The bytes of a record. -/
def recY (c : Int) (xs : List Ch) : List Int := uvar c.toNat ++ uvar xs.length ++ chsB xs
theorem chsB_snoc {xs : List Ch} {k : Nat} {x : Ch} (h : xs[k]? = some x) : chsB (xs.take (k + 1)) = chsB (xs.take k) ++ chB x.oop x.gone x.cls x.vs x.bs := by
  rw [take_at h]
  simp [chsB]
theorem chsB_take (xs : List Ch) (k : Nat) : (chsB (xs.take k)).length ≤ (chsB xs).length := by
  have e : chsB xs = chsB (xs.take k) ++ chsB (xs.drop k) := by unfold chsB; rw [← List.flatMap_append, List.take_append_drop]
  rw [e, List.length_append]
  omega
theorem okL_all : ∀ {l : Int} {xs : List Ch}, okL l xs = true → 0 ≤ l → ∀ x ∈ xs, 0 < x.oop ∧ x.oop ≤ 4096 ∧ okCh x.gone x.cls x.vs x.bs = true
  | _, [], _, _, _, hx => by cases hx
  | l, y :: t, h, hl, x, hx => by
    simp only [okL, Bool.and_eq_true, decide_eq_true_eq] at h
    rcases List.mem_cons.1 hx with rfl | hx
    · exact ⟨by omega, h.1.1.2, h.1.2⟩
    · exact okL_all h.2 (by omega) x hx
theorem okR_parts {c : Int} {xs : List Ch} (h : okR c xs = true) : (1 ≤ c ∧ c ≤ 1099511627776) ∧ xs.length ≤ 4096 ∧ okL 0 xs = true := by
  unfold okR at h
  simp only [Bool.and_eq_true, decide_eq_true_eq] at h
  exact ⟨h.1.1, h.1.2, h.2⟩
theorem chB_len {o : Nat} {g : Bool} {c : Int} {vs : List (Int × Int)} {bs : List Int} (ho : o ≤ 4096) (h : okCh g c vs bs = true) : (chB (o : Int) g c vs bs).length ≤ 5000 := by
  have h1 : (uvar o).length ≤ 10 := by rw [uvar_length o (by omega)]; exact (usz_bd o).2
  unfold chB
  rw [Int.toNat_natCast, List.length_append]
  cases g with
  | true => simp; omega
  | false =>
    have := objY_len (c := c) (vs := vs) (bs := bs) h
    simp
    omega
/-- What a record's writing answers. -/
def PutP (w : World) (c : Int) (xs : List Ch) (e : Ending) (w' : World) : Prop :=
  (okR c xs = false ∧ e = .returned (.tuple #[.slice none 0 0, .int .i64 1]) ∨ okR c xs = true ∧ 60000 < (recY c xs).length ∧ e = .returned (.tuple #[.slice none 0 0, .int .i64 3]) ∨ okR c xs = true ∧ (recY c xs).length ≤ 60000 ∧ ∃ v, e = .returned (.tuple #[v, .int .i64 0]) ∧ OwnB w' w.heap.size v (recY c xs)) ∧ Below w.heap.size w w'
def recB (c : Int) (v : Value) (t : Nat) : Obj := .cells #[.int .i64 c, v] t (0, 0)
theorem rec_cells {w : World} {b t : Nat} {c : Int} {v : Value} (h : w.heap[b]? = some (recB c v t)) : w.cell? ⟨b, 0, none⟩ = some (.int .i64 c) ∧ w.cell? ⟨b, 1, none⟩ = some v := by
  refine ⟨?_, ?_⟩ <;> (rw [cell_of_row _ b _ _ _ _ h]; rfl)
theorem OwnB.size {w : World} {base n c : Nat} {a : Option Addr} {xs : List Int} (h : OwnB w base (.slice a n c) xs) : n = xs.length := by
  obtain ⟨a', c', e⟩ := h.shape
  cases e
  rfl
set_option maxHeartbeats 4000000 in
theorem putRecord_any {w : World} (c : Int) {a : Option Addr} {n cap : Nat} {xs : List Ch} (h : IsC w a n cap xs) :
    Calls Try.prog 30 #[.agg #[.int .i64 c, .slice a n cap]] w fun e w' => PutP w c xs e w' := by
  have hsz := h.size
  have B1 : Below w.heap.size w (w.alloc (recB c (.slice a n cap) 52)) := box_below
  have E1 := new1 w (recB c (.slice a n cap) 52)
  cases hok : okR c xs with
  | false =>
    go_enter Try.func30, Try.ntmps30
    go_wp2_with fail
    refine (rightRecord_any c (h.below box_below)).mono ?_
    rintro e w2 ⟨rfl, B2⟩
    rw [hok]
    have B3 : Below w.heap.size w w2 := below_size box_below box_below.size B2
    clear B2
    go_wp2
    go_ret2
    exact ⟨.inl ⟨hok, rfl⟩, B3⟩
  | true =>
    obtain ⟨hc, hn, hL⟩ := okR_parts hok
    obtain ⟨m, rfl⟩ : ∃ m : Nat, c = (m : Int) := ⟨c.toNat, by omega⟩
    have hul1 : (uvar m).length ≤ 10 := by rw [uvar_length m (by omega)]; exact (usz_bd m).2
    have hul2 : (uvar n).length ≤ 10 := by rw [uvar_length n (by omega)]; exact (usz_bd n).2
    have e0 : Hid (recY (m : Int) xs = uvar m ++ uvar n ++ chsB xs) := by unfold Hid recY; rw [Int.toNat_natCast, hsz]
    replace hok : Hid (okR (m : Int) xs = true) := hok
    go_enter Try.func30, Try.ntmps30
    go_wp2_with fail
    refine (rightRecord_any (m : Int) (h.below box_below)).mono ?_
    rintro e w2 ⟨rfl, B2⟩
    rw [hok.out]
    have B3 : Below w.heap.size w w2 := below_size box_below box_below.size B2
    have E2 := (B2.block w.heap.size (by simp)).trans E1
    clear B1 E1 B2
    obtain ⟨z0, z1⟩ := rec_cells E2
    go_wp2_with fail
    refine (appendNumber_any (ownB_nil w2 w.heap.size) m (by omega) (by simp) B3.size).mono ?_
    rintro e w3 ⟨v3, rfl, O3, G3⟩
    rw [List.nil_append] at O3
    have E3 := G3.keep w.heap.size _ 52 (by decide) E2
    have G3' := (⟨B3, fun g cs t ht hg => (B3.block g (lt_of_block hg)).trans hg⟩ : Gr w.heap.size w w2).trans G3
    obtain ⟨a3, n3, c3, rfl⟩ := O3.shape'
    clear z0 z1 E2 G3 B3
    obtain ⟨z0, z1⟩ := rec_cells (c := (m : Int)) (v := .slice a n cap) E3
    have sz3 := G3'.below.size
    go_wp2_with fail
    refine (appendNumber_any O3 n (by omega) (by omega) sz3).mono ?_
    rintro e w4 ⟨v4, rfl, O4, G4⟩
    have E4 := G4.keep w.heap.size _ 52 (by decide) E3
    have G4' := G3'.trans G4
    obtain ⟨a4, n4, c4, rfl⟩ := O4.shape'
    clear z0 z1 E3 G4 G3' O3 sz3
    obtain ⟨z0, z1⟩ := rec_cells (c := (m : Int)) (v := .slice a n cap) E4
    obtain ⟨ys, hys⟩ : ∃ ys, Hid (uvar m ++ uvar n = ys) := ⟨_, rfl⟩
    have hyl : ys.length ≤ 20 := by rw [← hys.out, List.length_append]; omega
    rw [hys.out] at O4 e0
    go_wp2
    go_loopw [4, 21] (fun bv iv wr => ∃ (k : Nat) (a : Option Addr) (n' c : Nat), k ≤ n ∧ iv = .int .i64 (k : Int) ∧ bv = .slice a n' c ∧ OwnB wr w.heap.size (.slice a n' c) (ys ++ chsB (xs.take k)) ∧ Gr w.heap.size w wr ∧ (ys ++ chsB (xs.take k)).length ≤ 60000) (fun _ iv _ => n - (intOf iv).toNat)
    case atStart => exact ⟨0, a4, n4, c4, by omega, rfl, rfl, by simpa [chsB] using O4, G4', by simp [chsB]; omega⟩
    case round =>
      clear O4 G4' E4 z0 z1
      obtain ⟨k, a', n', c', hk, rfl, rfl, O, G, hlen⟩ := hrel
      by_cases hlt : k < n
      · obtain ⟨b, off, x, rfl, hbl, hx, hcx, hox⟩ := (h.below G.below).at_ k hlt
        have hall := okL_all hL (by omega) x (List.mem_of_getElem? hx.out)
        have hsn := chsB_snoc hx.out
        obtain ⟨o, g, cc, vs, bs⟩ := x
        obtain ⟨b2, off2, e2, hcw⟩ := h.cells (by omega)
        cases e2
        obtain ⟨sa, sn, sc, ba, bn, bc, d0, d1, d2, d3, d4, io⟩ := hcw k _ hx.out
        simp only at d0 d1 d2 io hall hsn
        obtain ⟨ho1, ho2, hokc⟩ := hall
        obtain ⟨o, rfl⟩ : ∃ q : Nat, o = (q : Int) := ⟨o.toNat, by omega⟩
        have hbw := lt_of_cell d0
        have c0 := (G.below.cell (p := ⟨b, off + k * 5, none⟩) hbw).trans d0
        have c1 := (G.below.cell (p := ⟨b, off + k * 5 + 1, none⟩) hbw).trans d1
        have c2 := (G.below.cell (p := ⟨b, off + k * 5 + 2, none⟩) hbw).trans d2
        have c3 := (G.below.cell (p := ⟨b, off + k * 5 + 3, none⟩) hbw).trans d3
        have c4 := (G.below.cell (p := ⟨b, off + k * 5 + 4, none⟩) hbw).trans d4
        replace hsn : Hid (chsB (xs.take (k + 1)) = chsB (xs.take k) ++ chB (o : Int) g cc vs bs) := hsn
        have hki : (k : Int) < (n : Int) := by omega
        have G2 : Gr w.heap.size w (wr.alloc (.cells #[.int .i64 (o : Int), .bool g, .int .i64 cc, .slice sa sn sc, .slice ba bn bc] 77)) := G.trans (Gr.of box_below G.below.size)
        clear hcx hcw d0 d1 d2 d3 d4 hox
        go_wp2_with fail
        refine (appendChange_any (O.below box_below) o g io hokc (by omega) G2.below (by omega)).mono ?_
        rintro e w5 ⟨v5, rfl, O5, G5⟩
        obtain ⟨a5, n5, c5, rfl⟩ := O5.shape'
        rw [List.append_assoc, ← hsn.out] at O5
        have G6 := G2.trans G5
        have hs5 : n5 = (ys ++ chsB (xs.take (k + 1))).length := O5.size
        have hct := chsB_take xs (k + 1)
        have hchl : (chB (o : Int) g cc vs bs).length ≤ 5000 := chB_len (by omega) hokc
        have hmx : n5 ≤ 65000 := by rw [hs5, hsn.out, ← List.append_assoc, List.length_append]; omega
        clear O G G2 G5 c0 c1 c2 c3 c4 io hokc
        by_cases hbig : 60000 < n5
        · have hbi : (60000 : Int) < (n5 : Int) := by omega
          have hfull : Hid (60000 < (recY (m : Int) xs).length) := by unfold Hid; rw [e0.out, List.length_append]; rw [List.length_append] at hs5; omega
          clear hs5
          go_wp2
          go_ret2
          exact ⟨.inr (.inl ⟨hok.out, hfull.out, rfl⟩), G6.below⟩
        · have hbi : ¬ (60000 : Int) < (n5 : Int) := by omega
          have hl5 : Hid ((ys ++ chsB (xs.take (k + 1))).length ≤ 60000) := by unfold Hid; omega
          clear hs5
          go_wp2
          go_roundw
          case rel => exact ⟨k + 1, a5, n5, c5, by omega, by go_num, rfl, O5, G6, hl5.out⟩
          case measure => simp [intOf]; omega
      · have hlt' : ¬ (k : Int) < (n : Int) := by omega
        rw [List.take_of_length_le (by omega)] at O hlen
        go_wp2
        go_ret2
        exact ⟨.inr (.inr ⟨hok.out, by rw [e0.out]; exact hlen, _, rfl, by rw [e0.out]; exact O⟩), G.below⟩
end Go.Proofs.Ytjfaflmmanjjbaa
