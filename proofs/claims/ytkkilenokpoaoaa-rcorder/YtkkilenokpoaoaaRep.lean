/- rc.Replay. -/
import Derived.Test.YtkkilenokpoaoaaBagA
namespace Go.Proofs.Ytkkilenokpoaoaa
open Go.RowKit
set_option maxRecDepth 100000
/-- Ops, one behind the other. -/
def playS (st : List (Int × Int) → Pp → Option (List (Int × Int))) : List (Int × Int) → List Pp → Option (List (Int × Int))
  | us, [] => some us
  | us, p :: t => match st us p with
    | none => none
    | some us' => playS st us' t
/-- What Replay answers. -/
def Rep (base : Nat) (c : Int) (bs : List Int) (r : Option (List (Int × Int))) (e : Ending) (w' : World) : Prop :=
  match r with
  | none => e = .returned (.tuple #[.agg #[.int .i64 0, .slice none 0 0, .slice none 0 0], .int .i64 30])
  | some us => ∃ a cap b n bc, e = .returned (.tuple #[.agg #[.int .i64 c, .slice a us.length cap, .slice b n bc], .int .i64 0]) ∧ OwnV w' base (.slice a us.length cap) us ∧ OwnB w' base (.slice b n bc) bs
theorem results_two {P : Program} {fn : Func} {tmps : Array Value} {a t c : Nat} {ad : Addr} {w : World} {v u : Value} (hf : fn.results = #[.cell a t, .tmp c]) (ha : tmps[a]?.getD undef = .pointer (some ad)) (hl : (loadVar t ad).run P w = .ok v w) (hu : tmps[c]?.getD undef = u) : (results fn tmps).run P w = .ok (.tuple #[v, u]) w := by
  unfold results
  rw [hf]
  simp [ha, asAddr, hl, hu]
/-- What holds ahead of each op: the answer's block, the object's block, its slots, its bytes. -/
structure RepI (w : World) (base b3 : Nat) (c : Int) (bv : Value) (bs : List Int) (z : Int) (us : List (Int × Int)) (a : Option Addr) (cp : Nat) (wr : World) : Prop where
  res : wr.heap[w.heap.size + 1]? = some (objB z (.slice none 0 0) (.slice none 0 0))
  out : wr.heap[b3]? = some (objB c (.slice a us.length cp) bv)
  v : OwnV wr base (.slice a us.length cp) us
  b : OwnB wr base bv bs
  bel : Below w.heap.size w wr
  base : base ≤ wr.heap.size
theorem RepI.alloc {w : World} {base b3 : Nat} {c : Int} {bv : Value} {bs : List Int} {z : Int} {us : List (Int × Int)} {a : Option Addr} {cp : Nat} {wr : World} (h : RepI w base b3 c bv bs z us a cp wr) (o : Obj) : RepI w base b3 c bv bs z us a cp (wr.alloc o) :=
  ⟨old1 h.res o, old1 h.out o, h.v.below box_below, h.b.below box_below, below_size h.bel h.bel.size box_below, by have := h.base; simp; omega⟩
theorem RepI.res_keep {w : World} {base b3 : Nat} {c : Int} {bv : Value} {bs : List Int} {z : Int} {us : List (Int × Int)} {a : Option Addr} {cp : Nat} {wr w' : World} (h : RepI w base b3 c bv bs z us a cp wr) (hK : Kp (.slice a us.length cp) wr w') : w'.heap[w.heap.size + 1]? = some (objB z (.slice none 0 0) (.slice none 0 0)) :=
  (hK.block _ (lt_of_block h.res) (own_ne h.v.1 h.res (by decide))).trans h.res
theorem RepI.out_keep {w : World} {base b3 : Nat} {c : Int} {bv : Value} {bs : List Int} {z : Int} {us : List (Int × Int)} {a : Option Addr} {cp : Nat} {wr w' : World} (h : RepI w base b3 c bv bs z us a cp wr) (hK : Kp (.slice a us.length cp) wr w') : w'.heap[b3]? = some (objB c (.slice a us.length cp) bv) :=
  (hK.block _ (lt_of_block h.out) (own_ne h.v.1 h.out (by decide))).trans h.out
theorem RepI.bel_keep {w : World} {base b3 : Nat} {c : Int} {bv : Value} {bs : List Int} {z : Int} {us : List (Int × Int)} {a : Option Addr} {cp : Nat} {wr w' : World} (h : RepI w base b3 c bv bs z us a cp wr) (hK : Kp (.slice a us.length cp) wr w') (hl : w.heap.size ≤ base) : Below w.heap.size w w' :=
  hK.below h.bel h.bel.size (fun _ hg => Nat.le_trans hl (own_block h.v.1 hg).1)
theorem RepI.step {w : World} {base b3 : Nat} {c : Int} {bv : Value} {bs : List Int} {z : Int} {us us' : List (Int × Int)} {a a' : Option Addr} {cp cp' : Nat} {wr w' : World} (h : RepI w base b3 c bv bs z us a cp wr) (hK : Kp (.slice a us.length cp) wr w') (hv : OwnV w' base (.slice a' us'.length cp') us') (hl : w.heap.size ≤ base) (hn : w.heap.size + 1 ≠ b3) (hlb : w.heap.size ≤ b3) : RepI w base b3 c bv bs z us' a' cp' (w'.setCell ⟨b3, 1, none⟩ (.slice a' us'.length cp')) := by
  have E := h.out_keep hK
  have hB : w'.ownsRow base 5 1 bv bs.length (bs.map (Value.int .u8)) := own_same h.b.1 (fun g hg => by
    obtain ⟨_, cur, hh⟩ := own_block h.b.1 hg
    exact hK.block g (lt_of_block hh) (own_ne h.v.1 hh (by decide)))
  exact ⟨(heap_setCell_other _ _ _ _ hn).trans (h.res_keep hK), obj_set1 E _, ownV_of (own_setCell hv.1 E (by decide)) hv.wf, ownB_of (own_setCell hB E (by decide)) h.b.byte, below_setCell (h.bel_keep hK hl) hlb, by have := h.base; have := hK.size; simp; omega⟩
theorem playS_at {st : List (Int × Int) → Pp → Option (List (Int × Int))} {us : List (Int × Int)} {ps : List Pp} {k : Nat} {p : Pp} {R : Option (List (Int × Int))} (h : ps[k]? = some p) (e : playS st us (ps.drop k) = R) : (match st us p with | none => none | some us' => playS st us' (ps.drop (k + 1))) = R := by
  obtain ⟨hk, e1⟩ := List.getElem?_eq_some_iff.1 h
  rw [List.drop_eq_getElem_cons hk, e1] at e
  exact e
theorem Try.results20 : Try.f20.results = #[.cell 4 38, .tmp 5] := by kernel_rfl
set_option maxHeartbeats 4000000 in
theorem replay_counterG {w : World} {sa ba pa : Option Addr} {sn sc bn bc pn pc : Nat} {vs : List (Int × Int)} {bs : List Int} {ps : List Pp} (h : IsO w 13 sa sn sc ba bn bc vs bs) (hs : sn ≤ 8796093022208) (hb : bn ≤ 140737488355328) (hP : IsP w pa pn pc ps)
    (st : List (Int × Int) → Pp → Option (List (Int × Int))) (S : List (Int × Int) → Prop) (hS : S vs) (hst : ∀ us p, S us → p ∈ ps → (∀ us', st us p = some us' → S us') ∧ ∀ (w1 : World) (base : Nat) (v : Value), OwnV w1 base v us → base ≤ w1.heap.size → Calls Try.prog 37 #[v, .agg #[.int .i64 p.oop, .bool p.add, .int .i64 p.k, .int .i64 p.n]] w1 (Did base v w1 (st us p))) :
    Calls Try.prog 20 #[.agg #[.int .i64 13, .slice sa sn sc, .slice ba bn bc], .slice pa pn pc] w fun e w' => Rep w.heap.size 13 bs (playS st vs ps) e w' ∧ Below w.heap.size w w' := by
  have s1 := hP.size
  have m1 := hP.most
  have r1 := hP.room
  unfold maxLen at m1
  obtain ⟨R, hR⟩ : ∃ R, Hid (playS st vs ps = R) := ⟨_, rfl⟩
  rw [hR.out]
  go_enter Try.func20, Try.ntmps20
  go_wp2_with fail
  have B2 : Below w.heap.size w ((w.alloc (objB 13 (.slice sa sn sc) (.slice ba bn bc))).alloc (objB 0 (.slice none 0 0) (.slice none 0 0))) := below_size box_below box_below.size box_below
  have E2 : ((w.alloc (objB 13 (.slice sa sn sc) (.slice ba bn bc))).alloc (objB 0 (.slice none 0 0) (.slice none 0 0))).heap[w.heap.size + 1]? = some (objB 0 (.slice none 0 0) (.slice none 0 0)) := new2 _ _ _
  have E1 : ((w.alloc (objB 13 (.slice sa sn sc) (.slice ba bn bc))).alloc (objB 0 (.slice none 0 0) (.slice none 0 0))).heap[w.heap.size]? = some (objB 13 (.slice sa sn sc) (.slice ba bn bc)) := old1 (new1 _ _) _
  have h2 := (h.below (box_below (o := objB 13 (.slice sa sn sc) (.slice ba bn bc)))).below (box_below (o := objB 0 (.slice none 0 0) (.slice none 0 0)))
  have l1 : w.heap.size ≤ w.heap.size + 1 := by omega
  unfold objB at B2 E1 E2 h2
  generalize (w.alloc (.cells #[.int .i64 13, .slice sa sn sc, .slice ba bn bc] 38)).alloc (.cells #[.int .i64 0, .slice none 0 0, .slice none 0 0] 38) = w2 at *
  refine (copy_any h2 hs hb).mono ?_
  rintro e w3 ⟨vv, bv, rfl, OV, OB, B3⟩
  obtain ⟨va, vc, rfl⟩ : ∃ a c, vv = .slice a vs.length c := by obtain ⟨_, a, c, e, _⟩ := OV; exact ⟨a, c, e⟩
  obtain ⟨ba', bc', rfl⟩ : ∃ a c, bv = .slice a bs.length c := by obtain ⟨_, a, c, e, _⟩ := OB; exact ⟨a, c, e⟩
  have l2 := B2.size
  have l3 := B3.size
  have E1' := (B3.block _ (lt_of_block E1)).trans E1
  have E2' := (B3.block _ (lt_of_block E2)).trans E2
  have B4 : Below w.heap.size w w3 := below_size B2 B2.size B3
  have E1a := old1 E1' (objB 13 (.slice va vs.length vc) (.slice ba' bs.length bc'))
  have E2a := old1 E2' (objB 13 (.slice va vs.length vc) (.slice ba' bs.length bc'))
  have E3a := new1 w3 (objB 13 (.slice va vs.length vc) (.slice ba' bs.length bc'))
  have OVa := OV.below (box_below (o := objB 13 (.slice va vs.length vc) (.slice ba' bs.length bc')))
  have OBa := OB.below (box_below (o := objB 13 (.slice va vs.length vc) (.slice ba' bs.length bc')))
  have B5 : Below w.heap.size w (w3.alloc (objB 13 (.slice va vs.length vc) (.slice ba' bs.length bc'))) := below_size B4 B4.size box_below
  have hne : w.heap.size + 1 ≠ w3.heap.size := by have := lt_of_block E2'; omega
  have lw3 := B4.size
  have l4 : w2.heap.size ≤ (w3.alloc (objB 13 (.slice va vs.length vc) (.slice ba' bs.length bc'))).heap.size := by simp; omega
  obtain ⟨y0, y1, y2, yf⟩ := obj_cells E1a
  clear E1 E2 B2 B3 h2 E1' E2' OV OB B4 E1a y1 y2 yf
  unfold objB at y0 E2a E3a OVa OBa B5 l4
  go_wp2
  generalize w3.alloc (.cells #[.int .i64 13, .slice va vs.length vc, .slice ba' bs.length bc'] 38) = w4 at *
  clear y0
  clear l3
  generalize w3.heap.size = b3 at *
  have hI0 : RepI w w2.heap.size b3 13 (.slice ba' bs.length bc') bs 0 vs va vc w4 := ⟨E2a, E3a, OVa, OBa, B5, l4⟩
  clear E2a E3a OVa OBa B5 l4
  generalize w2.heap.size = base at *
  go_loopw [22] (fun iv wr => ∃ (k : Nat) (us : List (Int × Int)) (a : Option Addr) (cp : Nat), k ≤ pn ∧ iv = .int .i64 (k : Int) ∧ playS st us (ps.drop k) = R ∧ S us ∧ RepI w base b3 13 (.slice ba' bs.length bc') bs 0 us a cp wr) (fun iv _ => pn - (intOf iv).toNat)
  case atStart => exact ⟨0, vs, va, vc, by omega, rfl, by simpa using hR.out, hS, hI0⟩
  case round =>
    obtain ⟨k, us, a, cp, hk, rfl, hpl, hSu, hI⟩ := hrel
    replace hpl : Hid (playS st us (ps.drop k) = R) := hpl
    clear hI0
    by_cases hlt : k < pn
    · obtain ⟨b, off, p, rfl, hbl, hpk, ⟨q0, q1, q2, q3⟩, hpo⟩ := (hP.below hI.bel).at_ k hlt
      have hki : (k : Int) < (pn : Int) := by omega
      have hpl' := playS_at hpk.out hpl.out
      obtain ⟨hS', hdo⟩ := hst us p hSu (List.mem_of_getElem? hpk.out)
      have hI1 := hI.alloc (.cells #[.int .i64 p.oop, .bool p.add, .int .i64 p.k, .int .i64 p.n] 66)
      obtain ⟨z0, z1, z2, zf⟩ := obj_cells hI1.out
      go_wp2_with fail
      clear q0 q1 q2 q3 z0 z1 z2 zf hI
      generalize wr.alloc (.cells #[.int .i64 p.oop, .bool p.add, .int .i64 p.k, .int .i64 p.n] 66) = wq at *
      refine (hdo wq base _ hI1.v hI1.base).mono ?_
      intro e w5 hD
      cases hc : st us p with
      | none =>
        rw [hc] at hD hpl'
        obtain ⟨rfl, hK⟩ := hD
        have hR0 : Hid (R = none) := hpl'.symm
        have E5 := hI1.res_keep hK
        have B5 := hI1.bel_keep hK l2
        obtain ⟨z0, z1, z2, zf⟩ := obj_cells E5
        go_wp2_with fail
        clear z0 z1 z2 zf
        have E6 := stO_blk E5 0 (.slice none 0 0) (.slice none 0 0)
        obtain ⟨z0, z1, z2, zf⟩ := obj_cells E6
        exact bodyPost_ret (v := .tuple #[.agg #[.int .i64 0, .slice none 0 0, .slice none 0 0], .int .i64 30]) (results_two Try.results20 rfl (load38 z0 z1 z2) rfl) rfl ⟨by rw [hR0.out]; rfl, stO_below B5 l1 _ _ _⟩
      | some us' =>
        rw [hc] at hD hpl'
        obtain ⟨a', c', rfl, OV', hK⟩ := hD
        replace hpl' : Hid (playS st us' (ps.drop (k + 1)) = R) := hpl'
        have hI2 := hI1.step hK OV' l2 hne lw3
        have hS2 := hS' us' hc
        obtain ⟨z0, z1, z2, zf⟩ := obj_cells (hI1.out_keep hK)
        clear hdo
        go_wp2
        go_roundw
        case rel => exact ⟨k + 1, us', a', c', by omega, by go_num, hpl'.out, hS2, hI2⟩
        case measure => simp [intOf]; omega
    · have hpl2 : Hid (some us = R) := by
        have e := hpl.out
        rw [List.drop_of_length_le (by omega)] at e
        exact e
      obtain ⟨z0, z1, z2, zf⟩ := obj_cells hI.out
      obtain ⟨x0, x1, x2, xf⟩ := obj_cells hI.res
      go_wp2_with fail
      clear z0 z1 z2 zf x0 x1 x2 xf
      have E6 := stO_blk hI.res 13 (.slice a us.length cp) (.slice ba' bs.length bc')
      obtain ⟨z0, z1, z2, zf⟩ := obj_cells E6
      exact bodyPost_ret (v := .tuple #[.agg #[.int .i64 13, .slice a us.length cp, .slice ba' bs.length bc'], .int .i64 0]) (results_two Try.results20 rfl (load38 z0 z1 z2) rfl) rfl ⟨by rw [← hpl2.out]; exact ⟨_, _, _, _, _, rfl, ownV_of (own_mono (stO_own hI.v.1 hI.res (by decide) _ _ _) l2) hI.v.wf, ownB_of (own_mono (stO_own hI.b.1 hI.res (by decide) _ _ _) l2) hI.b.byte⟩, stO_below hI.bel l1 _ _ _⟩
set_option maxHeartbeats 4000000 in
theorem replay_bagG {w : World} {sa ba pa : Option Addr} {sn sc bn bc pn pc : Nat} {vs : List (Int × Int)} {bs : List Int} {ps : List Pp} (h : IsO w 14 sa sn sc ba bn bc vs bs) (hs : sn ≤ 8796093022208) (hb : bn ≤ 140737488355328) (hP : IsP w pa pn pc ps)
    (st : List (Int × Int) → Pp → Option (List (Int × Int))) (S : List (Int × Int) → Prop) (hS : S vs) (hst : ∀ us p, S us → p ∈ ps → (∀ us', st us p = some us' → S us') ∧ ∀ (w1 : World) (base : Nat) (v : Value), OwnV w1 base v us → base ≤ w1.heap.size → Calls Try.prog 36 #[v, .agg #[.int .i64 p.oop, .bool p.add, .int .i64 p.k, .int .i64 p.n]] w1 (Did base v w1 (st us p))) :
    Calls Try.prog 20 #[.agg #[.int .i64 14, .slice sa sn sc, .slice ba bn bc], .slice pa pn pc] w fun e w' => Rep w.heap.size 14 bs (playS st vs ps) e w' ∧ Below w.heap.size w w' := by
  have s1 := hP.size
  have m1 := hP.most
  have r1 := hP.room
  unfold maxLen at m1
  obtain ⟨R, hR⟩ : ∃ R, Hid (playS st vs ps = R) := ⟨_, rfl⟩
  rw [hR.out]
  go_enter Try.func20, Try.ntmps20
  go_wp2_with fail
  have B2 : Below w.heap.size w ((w.alloc (objB 14 (.slice sa sn sc) (.slice ba bn bc))).alloc (objB 0 (.slice none 0 0) (.slice none 0 0))) := below_size box_below box_below.size box_below
  have E2 : ((w.alloc (objB 14 (.slice sa sn sc) (.slice ba bn bc))).alloc (objB 0 (.slice none 0 0) (.slice none 0 0))).heap[w.heap.size + 1]? = some (objB 0 (.slice none 0 0) (.slice none 0 0)) := new2 _ _ _
  have E1 : ((w.alloc (objB 14 (.slice sa sn sc) (.slice ba bn bc))).alloc (objB 0 (.slice none 0 0) (.slice none 0 0))).heap[w.heap.size]? = some (objB 14 (.slice sa sn sc) (.slice ba bn bc)) := old1 (new1 _ _) _
  have h2 := (h.below (box_below (o := objB 14 (.slice sa sn sc) (.slice ba bn bc)))).below (box_below (o := objB 0 (.slice none 0 0) (.slice none 0 0)))
  have l1 : w.heap.size ≤ w.heap.size + 1 := by omega
  unfold objB at B2 E1 E2 h2
  generalize (w.alloc (.cells #[.int .i64 14, .slice sa sn sc, .slice ba bn bc] 38)).alloc (.cells #[.int .i64 0, .slice none 0 0, .slice none 0 0] 38) = w2 at *
  refine (copy_any h2 hs hb).mono ?_
  rintro e w3 ⟨vv, bv, rfl, OV, OB, B3⟩
  obtain ⟨va, vc, rfl⟩ : ∃ a c, vv = .slice a vs.length c := by obtain ⟨_, a, c, e, _⟩ := OV; exact ⟨a, c, e⟩
  obtain ⟨ba', bc', rfl⟩ : ∃ a c, bv = .slice a bs.length c := by obtain ⟨_, a, c, e, _⟩ := OB; exact ⟨a, c, e⟩
  have l2 := B2.size
  have l3 := B3.size
  have E1' := (B3.block _ (lt_of_block E1)).trans E1
  have E2' := (B3.block _ (lt_of_block E2)).trans E2
  have B4 : Below w.heap.size w w3 := below_size B2 B2.size B3
  have E1a := old1 E1' (objB 14 (.slice va vs.length vc) (.slice ba' bs.length bc'))
  have E2a := old1 E2' (objB 14 (.slice va vs.length vc) (.slice ba' bs.length bc'))
  have E3a := new1 w3 (objB 14 (.slice va vs.length vc) (.slice ba' bs.length bc'))
  have OVa := OV.below (box_below (o := objB 14 (.slice va vs.length vc) (.slice ba' bs.length bc')))
  have OBa := OB.below (box_below (o := objB 14 (.slice va vs.length vc) (.slice ba' bs.length bc')))
  have B5 : Below w.heap.size w (w3.alloc (objB 14 (.slice va vs.length vc) (.slice ba' bs.length bc'))) := below_size B4 B4.size box_below
  have hne : w.heap.size + 1 ≠ w3.heap.size := by have := lt_of_block E2'; omega
  have lw3 := B4.size
  have l4 : w2.heap.size ≤ (w3.alloc (objB 14 (.slice va vs.length vc) (.slice ba' bs.length bc'))).heap.size := by simp; omega
  obtain ⟨y0, y1, y2, yf⟩ := obj_cells E1a
  clear E1 E2 B2 B3 h2 E1' E2' OV OB B4 E1a y1 y2 yf
  unfold objB at y0 E2a E3a OVa OBa B5 l4
  go_wp2
  generalize w3.alloc (.cells #[.int .i64 14, .slice va vs.length vc, .slice ba' bs.length bc'] 38) = w4 at *
  clear y0
  clear l3
  generalize w3.heap.size = b3 at *
  have hI0 : RepI w w2.heap.size b3 14 (.slice ba' bs.length bc') bs 0 vs va vc w4 := ⟨E2a, E3a, OVa, OBa, B5, l4⟩
  clear E2a E3a OVa OBa B5 l4
  generalize w2.heap.size = base at *
  go_loopw [22] (fun iv wr => ∃ (k : Nat) (us : List (Int × Int)) (a : Option Addr) (cp : Nat), k ≤ pn ∧ iv = .int .i64 (k : Int) ∧ playS st us (ps.drop k) = R ∧ S us ∧ RepI w base b3 14 (.slice ba' bs.length bc') bs 0 us a cp wr) (fun iv _ => pn - (intOf iv).toNat)
  case atStart => exact ⟨0, vs, va, vc, by omega, rfl, by simpa using hR.out, hS, hI0⟩
  case round =>
    obtain ⟨k, us, a, cp, hk, rfl, hpl, hSu, hI⟩ := hrel
    replace hpl : Hid (playS st us (ps.drop k) = R) := hpl
    clear hI0
    by_cases hlt : k < pn
    · obtain ⟨b, off, p, rfl, hbl, hpk, ⟨q0, q1, q2, q3⟩, hpo⟩ := (hP.below hI.bel).at_ k hlt
      have hki : (k : Int) < (pn : Int) := by omega
      have hpl' := playS_at hpk.out hpl.out
      obtain ⟨hS', hdo⟩ := hst us p hSu (List.mem_of_getElem? hpk.out)
      have hI1 := hI.alloc (.cells #[.int .i64 p.oop, .bool p.add, .int .i64 p.k, .int .i64 p.n] 66)
      obtain ⟨z0, z1, z2, zf⟩ := obj_cells hI1.out
      go_wp2_with fail
      clear q0 q1 q2 q3 z0 z1 z2 zf hI
      generalize wr.alloc (.cells #[.int .i64 p.oop, .bool p.add, .int .i64 p.k, .int .i64 p.n] 66) = wq at *
      refine (hdo wq base _ hI1.v hI1.base).mono ?_
      intro e w5 hD
      cases hc : st us p with
      | none =>
        rw [hc] at hD hpl'
        obtain ⟨rfl, hK⟩ := hD
        have hR0 : Hid (R = none) := hpl'.symm
        have E5 := hI1.res_keep hK
        have B5 := hI1.bel_keep hK l2
        obtain ⟨z0, z1, z2, zf⟩ := obj_cells E5
        go_wp2_with fail
        clear z0 z1 z2 zf
        have E6 := stO_blk E5 0 (.slice none 0 0) (.slice none 0 0)
        obtain ⟨z0, z1, z2, zf⟩ := obj_cells E6
        exact bodyPost_ret (v := .tuple #[.agg #[.int .i64 0, .slice none 0 0, .slice none 0 0], .int .i64 30]) (results_two Try.results20 rfl (load38 z0 z1 z2) rfl) rfl ⟨by rw [hR0.out]; rfl, stO_below B5 l1 _ _ _⟩
      | some us' =>
        rw [hc] at hD hpl'
        obtain ⟨a', c', rfl, OV', hK⟩ := hD
        replace hpl' : Hid (playS st us' (ps.drop (k + 1)) = R) := hpl'
        have hI2 := hI1.step hK OV' l2 hne lw3
        have hS2 := hS' us' hc
        obtain ⟨z0, z1, z2, zf⟩ := obj_cells (hI1.out_keep hK)
        clear hdo
        go_wp2
        go_roundw
        case rel => exact ⟨k + 1, us', a', c', by omega, by go_num, hpl'.out, hS2, hI2⟩
        case measure => simp [intOf]; omega
    · have hpl2 : Hid (some us = R) := by
        have e := hpl.out
        rw [List.drop_of_length_le (by omega)] at e
        exact e
      obtain ⟨z0, z1, z2, zf⟩ := obj_cells hI.out
      obtain ⟨x0, x1, x2, xf⟩ := obj_cells hI.res
      go_wp2_with fail
      clear z0 z1 z2 zf x0 x1 x2 xf
      have E6 := stO_blk hI.res 14 (.slice a us.length cp) (.slice ba' bs.length bc')
      obtain ⟨z0, z1, z2, zf⟩ := obj_cells E6
      exact bodyPost_ret (v := .tuple #[.agg #[.int .i64 14, .slice a us.length cp, .slice ba' bs.length bc'], .int .i64 0]) (results_two Try.results20 rfl (load38 z0 z1 z2) rfl) rfl ⟨by rw [← hpl2.out]; exact ⟨_, _, _, _, _, rfl, ownV_of (own_mono (stO_own hI.v.1 hI.res (by decide) _ _ _) l2) hI.v.wf, ownB_of (own_mono (stO_own hI.b.1 hI.res (by decide) _ _ _) l2) hI.b.byte⟩, stO_below hI.bel l1 _ _ _⟩
end Go.Proofs.Ytkkilenokpoaoaa
