/- The document's state: all changes up to a commit. -/
import Derived.Test.YtajdelinfkodbaaDpu
namespace Go.Proofs.Ytajdelinfkodbaa
open Go.RowKit
set_option maxRecDepth 100000
def InK (l : List Ch) : Prop := ∀ x ∈ l, 1 ≤ x.oop ∧ x.oop ≤ 4096
theorem putL_in {l : List Ch} {c : Ch} (h : InK l) (hc : 1 ≤ c.oop ∧ c.oop ≤ 4096) : InK (putL l c) := by
  intro x hx
  rcases (setF_mem (k := c.oop) (n := c) (l := l) x).1 hx with q | q
  · rw [q]; exact hc
  · exact h x q.1
theorem foldl_in : ∀ (xs : List Ch) {l : List Ch}, InK l → InK xs → InK (xs.foldl putL l)
  | [], _, h, _ => h
  | x :: r, _, h, hx => foldl_in r (putL_in h (hx x (by simp))) (fun y hy => hx y (by simp [hy]))
theorem rise_few {l : List Ch} (h : InK l) (hr : l.Pairwise (fun x y => x.oop < y.oop)) : l.length ≤ 4096 := by
  have hnd : (l.map Ch.oop).Nodup := by
    rw [List.nodup_iff_pairwise_ne, List.pairwise_map]
    exact hr.imp (fun h => by omega)
  have := few 4096 _ hnd (fun z hz => by
    obtain ⟨x, hx, rfl⟩ := List.mem_map.1 hz
    exact h x hx)
  simpa using this
theorem upTo_take {l : List (Int × List Ch)} {c : Int} {i : Nat} (hr : l.Pairwise (fun r s => r.1 < s.1)) (h1 : ∀ r ∈ l.take i, r.1 ≤ c) (h2 : ∀ r, l[i]? = some r → c < r.1) : upTo l c = l.take i := by
  unfold upTo
  have e : l = l.take i ++ l.drop i := (List.take_append_drop i l).symm
  have hd : (l.drop i).filter (fun r => decide (r.1 ≤ c)) = [] := by
    rw [List.filter_eq_nil_iff]
    intro r hm
    obtain ⟨j, hj⟩ := List.mem_iff_getElem?.1 hm
    rw [List.getElem?_drop] at hj
    have hlt := (List.getElem?_eq_some_iff.1 hj).1
    have hi : i < l.length := by omega
    have h3 := h2 _ (List.getElem?_eq_getElem hi)
    rcases Nat.eq_zero_or_pos j with q | q
    · subst q
      rw [Nat.add_zero, List.getElem?_eq_getElem hi] at hj
      cases hj
      simp
      omega
    · rw [List.pairwise_iff_getElem] at hr
      have := hr i (i + j) hi hlt (by omega)
      rw [List.getElem?_eq_getElem hlt] at hj
      cases hj
      simp
      omega
  conv => lhs; rw [e]
  rw [List.filter_append, hd, List.append_nil, List.filter_eq_self.2 (fun r hr => by simpa using h1 r hr)]
theorem LrT.atT {w : World} {U : Nat → Prop} {a : Option Addr} {n c : Nat} {l : List (Int × List Ch)} (h : LrT w U (.slice a n c) l) (j : Nat) (hj : j < l.length) : ∃ rb com ra rn rc xs, a = some ⟨rb, 0, none⟩ ∧ rb < w.heap.size ∧ w.cell? ⟨rb, j * 2, none⟩ = some (.int .i64 com) ∧ w.cell? ⟨rb, j * 2 + 1, none⟩ = some (.slice ra rn rc) ∧ ChT w U (.slice ra rn rc) xs ∧ rn = xs.length ∧ Hid (l[j]? = some (com, xs)) := by
  obtain ⟨rs, rfl, h1, _, h3⟩ := h
  rw [List.length_map] at hj
  obtain ⟨r, hr⟩ : ∃ r, rs[j]? = some r := ⟨_, List.getElem?_eq_getElem hj⟩
  obtain ⟨f0, f1⟩ := flatR_at hr
  rcases h1.2 with ⟨_, h0⟩ | ⟨g, cap, cur, e, _⟩
  · omega
  · cases e
    have c0 := World.ownsRow.cells h1 (g := g) rfl _ _ f0
    have c1 := World.ownsRow.cells h1 (g := g) rfl _ _ f1
    rw [Addr.add_lit, Nat.zero_add] at c0 c1
    have hc := h3 r (List.mem_of_getElem? hr)
    have hn : r.n = r.xs.length := by obtain ⟨a, n, c, e, q⟩ := hc.shape; cases e; exact q
    exact ⟨g, r.com, r.a, r.n, r.c, r.xs, rfl, lt_of_cell c0, c0, c1, hc, hn, by show _ = _; rw [List.getElem?_map, hr]; rfl⟩
/-- What is well in all of it. -/
structure OkV (u : RTf) : Prop where
  ok : OkU u
  b : InK u.base
  r : ∀ r ∈ u.recs, InK r.2
theorem stL_in {u : RTf} (h : OkV u) (i : Nat) : InK (stL u.base (u.recs.take i)) := by
  unfold stL
  refine foldl_in _ h.b (fun x hx => ?_)
  unfold flatR2 at hx
  obtain ⟨r, hr, hx⟩ := List.mem_flatMap.1 hx
  exact h.r r (List.mem_of_mem_take hr) x hx
/-- While state goes through the records. -/
structure StQ (w : World) (U : Nat → Prop) (l : List Ch) (v : Value) (wr : World) : Prop where
  q : ∃ T, ChT wr T v l ∧ Grow U T w wr
  b : Below w.heap.size w wr
set_option maxHeartbeats 16000000 in
theorem state_any {w : World} {U : Nat → Prop} {b k : Nat} {u : RTf} (h : RTb w U b u k) (ho : OkV u) (hk : k ≤ 1000) (c : Int) :
    Calls Try.prog 43 #[.pointer (some ⟨b, 0, none⟩), .int .i64 c] w (PutP w U (stateU u c)) := by
  obtain ⟨bv, lv, wv, hblk, hB, hL, _⟩ := h.blk
  obtain ⟨ba, bn, bc, rfl, hbn⟩ := hB.shape
  obtain ⟨la, ln, lc, rfl, hln⟩ := hL.shape
  have hfl : ln ≤ 1000 := by have := h.few.1; omega
  have hlt := h.lt
  replace hln : Hid _ := hln
  clear h hbn
  obtain ⟨y0, y1, y2, y3, y4⟩ := rt_cells hblk
  go_enter Try.func43, Try.ntmps43
  go_wp2
  clear y0 y1 y2 y3 y4
  go_loopw [5, 6] (fun ov iv wr => ∃ (i : Nat) (oa : Option Addr) (onc : Nat × Nat), i ≤ ln ∧ iv = .int .i64 (i : Int) ∧ ov = .slice oa onc.1 onc.2 ∧ StQ w U (stL u.base (u.recs.take i)) ov wr ∧ Hid (∀ r ∈ u.recs.take i, r.1 ≤ c)) (fun _ iv _ => ln - (intOf iv).toNat)
  case atStart => exact ⟨0, ba, (bn, bc), by omega, rfl, rfl, ⟨⟨U, hB, Grow.refl _ _⟩, Below.refl _ _⟩, by simp [Hid]⟩
  case round =>
    obtain ⟨i, oa, ⟨on, oc⟩, hi, rfl, rfl, SQ, hle⟩ := hrel
    have B1 := SQ.b
    obtain ⟨y0, y1, y2, y3, y4⟩ := rt_cells ((B1.block b (lt_of_block hblk)).trans hblk)
    have fin : ∀ wz, StQ w U (stL u.base (u.recs.take i)) (.slice oa on oc) wz → (∀ r, u.recs[i]? = some r → c < r.1) → PutP w U (stateU u c) (.returned (.slice oa on oc)) wz := fun wz q q2 => by
      obtain ⟨⟨T, t1, t2⟩, t3⟩ := q
      refine ⟨oa, on, oc, T, rfl, ?_, t2, t3⟩
      unfold stateU
      rw [upTo_take ho.ok.rr hle.out q2]
      exact t1
    replace fin : Hid _ := fin
    by_cases hlt2 : i < ln
    · have hii : (i : Int) < (ln : Int) := by omega
      obtain ⟨rb, com, ra, rn, rc, xs, rfl, hrb, r0, r1, hC, hrn, hxj⟩ := hL.atT i (by have := hln.out; omega)
      have d0 : wr.cell? ⟨rb, i * 2, none⟩ = some (.int .i64 com) := (B1.cell hrb).trans r0
      have d1 : wr.cell? ⟨rb, i * 2 + 1, none⟩ = some (.slice ra rn rc) := (B1.cell hrb).trans r1
      by_cases hcm : com ≤ c
      · have hin := ho.r _ (List.mem_of_getElem? hxj.out)
        replace hin : InK xs := hin
        replace hrn : Hid _ := hrn
        have hnn : rn ≤ 9223372036854775807 := by
          obtain ⟨ss, _, _, _, q, _⟩ := hC
          rcases q.2 with ⟨e, _⟩ | ⟨g, cap, cur, e, _, _, q3, q4, _⟩
          · cases e; omega
          · cases e; unfold maxLen at q4; omega
        go_wp2
        clear y0 y1 y2 y3 y4 d0 d1
        go_loopw [5, 7] (fun ov kv wr => ∃ (k : Nat) (oa : Option Addr) (onc : Nat × Nat), k ≤ rn ∧ kv = .int .i64 (k : Int) ∧ ov = .slice oa onc.1 onc.2 ∧ StQ w U ((xs.take k).foldl putL (stL u.base (u.recs.take i))) ov wr) (fun _ kv _ => rn - (intOf kv).toNat)
        case atStart => exact ⟨0, oa, (on, oc), by omega, rfl, rfl, SQ⟩
        case round =>
          clear SQ B1 fin
          obtain ⟨k, oa, ⟨on, oc⟩, hk2, rfl, rfl, SQ⟩ := hrel
          have B1 := SQ.b
          obtain ⟨y0, y1, y2, y3, y4⟩ := rt_cells ((B1.block b (lt_of_block hblk)).trans hblk)
          have d0 := (B1.cell (p := ⟨rb, i * 2, none⟩) hrb).trans r0
          have d1 := (B1.cell (p := ⟨rb, i * 2 + 1, none⟩) hrb).trans r1
          by_cases hkl : k < rn
          · have hkk : (k : Int) < (rn : Int) := by omega
            obtain ⟨cb, s, rfl, hcb, hcl, hel, hsj, hxb⟩ := hC.at_ k (by have := hrn.out; omega)
            have e0 := (B1.cell (p := ⟨cb, k * 5, none⟩) hcb).trans (hcl 0 _ rfl)
            have e1 := (B1.cell (p := ⟨cb, k * 5 + 1, none⟩) hcb).trans (hcl 1 _ rfl)
            have e2 := (B1.cell (p := ⟨cb, k * 5 + 2, none⟩) hcb).trans (hcl 2 _ rfl)
            have e3 := (B1.cell (p := ⟨cb, k * 5 + 3, none⟩) hcb).trans (hcl 3 _ rfl)
            have e4 := (B1.cell (p := ⟨cb, k * 5 + 4, none⟩) hcb).trans (hcl 4 _ rfl)
            have hfew : Hid (((xs.take k).foldl putL (stL u.base (u.recs.take i))).length ≤ 8000) := by
              have := rise_few (foldl_in (xs.take k) (stL_in ho i) (fun x hx => hin x (List.mem_of_mem_take hx))) (foldl_rise _ (stL_rise ho.ok.rb _))
              show _ ≤ _
              omega
            obtain ⟨⟨T, t1, t2⟩, t3⟩ := SQ
            have hy : ElT wr T s := hel.same t2.old (fun g hg _ => t3.block g hg)
            go_wp2_with fail
            refine (put_any t1 s hy hxb hfew.out).mono ?_
            rintro e w' ⟨oa', on', oc', T', rfl, p1, p2, p3⟩
            have SQ' : StQ w U ((xs.take (k + 1)).foldl putL (stL u.base (u.recs.take i))) (.slice oa' on' oc') w' := by
              refine ⟨⟨T', ?_, t2.trans p2 t3.size p3.size⟩, below_size t3 t3.size p3⟩
              rw [take_at hsj.out, List.foldl_append]
              exact p1
            clear t1 t2 t3 hy p1 p2 p3 e0 e1 e2 e3 e4 y0 y1 y2 y3 y4 d0 d1 B1
            go_wp2
            go_roundw
            case rel => exact ⟨k + 1, _, (on', oc'), by omega, by go_num, rfl, SQ'⟩
            case measure => simp [intOf]; omega
          · have hkk : ¬ (k : Int) < (rn : Int) := by omega
            have hall : xs.take k = xs := List.take_of_length_le (by have := hrn.out; omega)
            rw [hall] at SQ
            have SQ' : StQ w U (stL u.base (u.recs.take (i + 1))) (.slice oa on oc) wr := by
              rw [take_at hxj.out, stL_snoc]
              exact SQ
            have hle' : Hid (∀ r ∈ u.recs.take (i + 1), r.1 ≤ c) := by
              show ∀ r ∈ u.recs.take (i + 1), r.1 ≤ c
              rw [take_at hxj.out]
              intro r hr
              rcases List.mem_append.1 hr with q | q
              · exact hle.out r q
              · rw [List.mem_singleton] at q; rw [q]; exact hcm
            clear SQ hall
            go_wp2
            go_roundw
            case rel => exact ⟨i + 1, _, (on, oc), by omega, by go_num, rfl, SQ', hle'⟩
            case measure => simp [intOf]; omega
      · have F := fin.out wr SQ (fun r hr => by rw [hxj.out] at hr; cases hr; show c < com; omega)
        go_wp2
        go_ret
        exact F
    · have hii : ¬ (i : Int) < (ln : Int) := by omega
      have F := fin.out wr SQ (fun r hr => by have := (List.getElem?_eq_some_iff.1 hr).1; have := hln.out; omega)
      go_wp2
      go_ret
      exact F
end Go.Proofs.Ytajdelinfkodbaa
