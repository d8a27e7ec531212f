/- The document's Copy. -/
import Derived.Test.YtjfaflmmanjjbaaBlk
namespace Go.Proofs.Ytjfaflmmanjjbaa
open Go.RowKit
set_option maxRecDepth 100000
theorem OwnV.below {w w' : World} {base : Nat} {v : Value} {vs : List (Int × Int)} (h : OwnV w base v vs) (hb : Below w.heap.size w w') : OwnV w' base v vs :=
  ⟨own_below h.1 hb, by obtain ⟨a, cap, e, k⟩ := h.2; exact ⟨a, cap, e, k.below hb⟩⟩
theorem new1 (w : World) (a : Obj) : (w.alloc a).heap[w.heap.size]? = some a := heap_alloc_new w a
theorem size1 (w : World) (a : Obj) : (w.alloc a).heap.size = w.heap.size + 1 := by simp
theorem old1 {w : World} {b : Nat} {o : Obj} (h : w.heap[b]? = some o) (a : Obj) : (w.alloc a).heap[b]? = some o := (Below.heap_alloc _ _ _ (lt_of_block h)).trans h
theorem new2 (w : World) (a b : Obj) : ((w.alloc a).alloc b).heap[w.heap.size + 1]? = some b := by have := new1 (w.alloc a) b; rwa [size1] at this
theorem new3 (w : World) (a b c : Obj) : (((w.alloc a).alloc b).alloc c).heap[w.heap.size + 1 + 1]? = some c := by have := new2 (w.alloc a) b c; rwa [size1] at this
set_option maxHeartbeats 4000000 in
theorem rcopy_any {w : World} {c : Int} {sa ba : Option Addr} {sn sc bn bc : Nat} {vs : List (Int × Int)} {bs : List Int} (h : IsO w c sa sn sc ba bn bc vs bs) (hs : sn ≤ 8796093022208) (hb : bn ≤ 140737488355328) :
    Calls Try.prog 9 #[.agg #[.int .i64 c, .slice sa sn sc, .slice ba bn bc]] w fun e w' => ∃ vv bv, e = .returned (.agg #[.int .i64 c, vv, bv]) ∧ OwnV w' w.heap.size vv vs ∧ OwnB w' w.heap.size bv bs ∧ Below w.heap.size w w' := by
  go_enter Try.func9, Try.ntmps9
  go_wp2_with (at_builtin; refine app_vals _ rfl _ _ rfl (w.heap.size + 1 + 1 + 1) _ 0 [] rfl (World.ownsRow_nil _ _ _ _) _ _ _ _ rfl (((h.below box_below).below box_below).below box_below).v (by omega) (by simp) ?_)
  intro vv w3 O3 B3
  have E0 : w3.heap[w.heap.size]? = some (objB c (.slice sa sn sc) (.slice ba bn bc)) := (B3.block _ (by omega)).trans (old1 (old1 (new1 _ _) _) _)
  have E1 : w3.heap[w.heap.size + 1]? = some (objB 0 (.slice none 0 0) (.slice none 0 0)) := (B3.block _ (by omega)).trans (old1 (new2 _ _ _) _)
  have E2 : w3.heap[w.heap.size + 1 + 1]? = some (objB c (.slice none 0 0) (.slice none 0 0)) := (B3.block _ (by omega)).trans (new3 _ _ _ _)
  have B4 : Below w.heap.size w w3 := (below_size (below_size box_below box_below.size box_below) (by simp; omega) box_below).trans (B3.mono (by omega))
  have g3 : w.heap.size + 1 + 1 + 1 ≤ w3.heap.size := by have := B3.size; simpa using this
  clear B3
  have h01 : w.heap.size ≠ w.heap.size + 1 + 1 := by omega
  have h11 : w.heap.size + 1 ≠ w.heap.size + 1 + 1 := by omega
  have l0 : w.heap.size ≤ w.heap.size := Nat.le_refl _
  have l1 : w.heap.size ≤ w.heap.size + 1 := by omega
  have l2 : w.heap.size ≤ w.heap.size + 1 + 1 := by omega
  generalize w.heap.size + 1 + 1 = b2 at *
  generalize w.heap.size + 1 = b1 at *
  obtain ⟨b0, hb0⟩ : ∃ b, Hid (w.heap.size = b) := ⟨_, rfl⟩
  have O4 := own_setCell (i := 1) (x := vv) O3 E2 (by decide)
  have E2' := obj_set1 E2 vv
  have E0' := (heap_setCell_other w3 ⟨b2, 1, none⟩ w.heap.size vv h01).trans E0
  have E1' := (heap_setCell_other w3 ⟨b2, 1, none⟩ b1 vv h11).trans E1
  have B5 := below_setCell (i := 1) (x := vv) B4 l2
  have k5 := h.below B5
  obtain ⟨z0, z1, z2, zf⟩ := obj_cells E2
  obtain ⟨av, cv, hvv⟩ : ∃ a c, vv = .slice a sn c := by
    rcases O3.2 with ⟨rfl, h0⟩ | ⟨g, cap, cur, rfl, _⟩
    · exact ⟨none, 0, by rw [h0]⟩
    · exact ⟨_, _, rfl⟩
  subst hvv
  obtain ⟨y0, y1, y2, yf⟩ := obj_cells E0
  have sz4 : (w3.setCell ⟨b2, 1, none⟩ (.slice av sn cv)).heap.size = w3.heap.size := by simp
  go_wp2_with (at_builtin; refine app_bytes _ rfl _ _ rfl w3.heap.size _ 0 [] rfl (World.ownsRow_nil _ _ _ _) _ _ _ _ rfl k5.b (by omega) hb (by simp) ?_)
  intro bv w5 O5 B6
  have B6' : Below (w3.setCell ⟨b2, 1, none⟩ (.slice av sn cv)).heap.size (w3.setCell ⟨b2, 1, none⟩ (.slice av sn cv)) w5 := by rw [sz4]; exact B6
  have Q4 := own_below O4 B6'
  have E6 := (B6.block b2 (lt_of_block E2)).trans E2'
  have F6 := (B6.block b1 (lt_of_block E1)).trans E1'
  have B7 := B5.trans (B6.mono (by omega))
  clear z0 z1 z2 zf y0 y1 y2 yf B6 B6' E0 E1 E2 E0' E1' E2' O3 O4 B4 B5 k5 sz4
  obtain ⟨ab, cb, hbv⟩ : ∃ a c, bv = .slice a bn c := by
    rcases O5.2 with ⟨rfl, h0⟩ | ⟨g, cap, cur, rfl, _⟩
    · exact ⟨none, 0, by rw [h0]⟩
    · exact ⟨_, _, rfl⟩
  subst hbv
  have Q5 := own_setCell (i := 2) (x := .slice ab bn cb) O5 E6 (by decide)
  have Q6 := own_setCell (i := 2) (x := .slice ab bn cb) Q4 E6 (by decide)
  have E7 := obj_set2 E6 (.slice ab bn cb)
  have F7 := (heap_setCell_other w5 ⟨b2, 2, none⟩ b1 (.slice ab bn cb) h11).trans F6
  have B8 := below_setCell (i := 2) (x := .slice ab bn cb) B7 l2
  obtain ⟨z0, z1, z2, zf⟩ := obj_cells E6
  obtain ⟨y0, y1, y2, yf⟩ := obj_cells F6
  go_wp2
  clear z0 z1 z2 zf y0 y1 y2 yf
  have E9 := stO_blk F7 c (.slice av sn cv) (.slice ab bn cb)
  obtain ⟨z0, z1, z2, zf⟩ := obj_cells E9
  exact bodyPost_ret (v := .agg #[.int .i64 c, .slice av sn cv, .slice ab bn cb]) (results_cell Try.results9 rfl (load27 z0 z1 z2)) rfl ⟨_, _, rfl, ownV_of (own_mono (stO_own Q6 F7 (by decide) c _ _) (by omega)) h.v.wf, ownB_of (own_mono (stO_own Q5 F7 (by decide) c _ _) (by omega)) h.b.byte, stO_below B8 l1 c _ _⟩
end Go.Proofs.Ytjfaflmmanjjbaa
