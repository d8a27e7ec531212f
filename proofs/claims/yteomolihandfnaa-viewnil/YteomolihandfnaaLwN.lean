/- The law ViewNil. -/
import Derived.Test.YteomolihandfnaaNil
namespace Go.Proofs.Yteomolihandfnaa
open Go.RowKit
set_option maxRecDepth 100000
set_option maxHeartbeats 16000000 in
theorem viewNil_true {w : World} (k c : Int) {sa ba : Option Addr} {sn sc bn bc : Nat} :
    Calls Try.prog 6 #[.int .i64 k, .agg #[.int .i64 c, .slice sa sn sc, .slice ba bn bc]] w fun e w' => e = .returned (.bool true) ∧ Below w.heap.size w w' := by
  have E3 := new1 w (objB c (.slice sa sn sc) (.slice ba bn bc))
  have B1 : Below w.heap.size w (w.alloc (objB c (.slice sa sn sc) (.slice ba bn bc))) := box_below
  have hx : ∃ c' sa' sn' sc' ba' bn' bc', (Value.agg #[.int .i64 c, .slice sa sn sc, .slice ba bn bc]) = .agg #[.int .i64 c', .slice sa' sn' sc', .slice ba' bn' bc'] := ⟨_, _, _, _, _, _, _, rfl⟩
  replace hx : Hid _ := hx
  unfold objB at E3 B1
  go_enter Try.func6, Try.ntmps6
  go_wp2_with fail
  generalize w.alloc (.cells #[.int .i64 c, .slice sa sn sc, .slice ba bn bc] 27) = w1 at *
  obtain ⟨b3, hb3⟩ : ∃ q, q = w.heap.size := ⟨_, rfl⟩
  rw [← hb3] at E3 ⊢
  clear hb3
  replace E3 : w1.heap[b3]? = some (objB c (.slice sa sn sc) (.slice ba bn bc)) := E3
  refine (get_nil k w1).mono ?_
  rintro e w2 ⟨rfl, B2⟩
  have B3 := below_size B1 B1.size B2
  have B4 : Below w.heap.size w (w2.alloc (.cells #[.int .i64 0, .slice none 0 0, .slice none 0 0] 27)) := below_size B3 B3.size box_below
  have F3 := (B2.block b3 (lt_of_block E3)).trans E3
  have G3 := (Below.heap_alloc w2 (.cells #[.int .i64 0, .slice none 0 0, .slice none 0 0] 27) b3 (lt_of_block F3)).trans F3
  clear B2 B3 E3 F3 B1
  go_wp2_with fail
  generalize w2.alloc (.cells #[.int .i64 0, .slice none 0 0, .slice none 0 0] 27) = w3 at *
  refine (peek_nil k w3).mono ?_
  rintro e w4 ⟨rfl, B5⟩
  have B6 := below_size B4 B4.size B5
  have B7 : Below w.heap.size w (w4.alloc (.cells #[.int .i64 0, .slice none 0 0, .slice none 0 0] 27)) := below_size B6 B6.size box_below
  have H3 := (B5.block b3 (lt_of_block G3)).trans G3
  have I3 := (Below.heap_alloc w4 (.cells #[.int .i64 0, .slice none 0 0, .slice none 0 0] 27) b3 (lt_of_block H3)).trans H3
  clear B5 B6 G3 H3 B4
  obtain ⟨x0, x1, x2, _⟩ := obj_cells I3
  go_wp2_with fail
  generalize w4.alloc (.cells #[.int .i64 0, .slice none 0 0, .slice none 0 0] 27) = w5 at *
  refine (make_nil _ w5 hx.out).mono ?_
  rintro e w6 ⟨rfl, B8⟩
  have B9 := below_size B7 B7.size B8
  have J3 := (B8.block b3 (lt_of_block I3)).trans I3
  clear x0 x1 x2 B7 B8 I3
  go_wp2_with fail
  refine (read_nil k w6).mono ?_
  rintro e w7 ⟨rfl, rfl⟩
  obtain ⟨x0, x1, x2, _⟩ := obj_cells J3
  go_wp2_with fail
  refine (new_nil w6).mono ?_
  rintro e w7 ⟨rfl, rfl⟩
  go_wp2_with fail
  refine (put_nil k _ w6 hx.out).mono ?_
  rintro e w7 ⟨rfl, B10⟩
  have BA := below_size B9 B9.size B10
  clear x0 x1 x2 B9 B10 J3
  go_wp2_with fail
  refine (base_nil w7).mono ?_
  rintro e w8 ⟨rfl, rfl⟩
  go_wp2_with fail
  refine (reads_nil w7).mono ?_
  rintro e w8 ⟨rfl, rfl⟩
  go_wp2_with fail
  refine (writes_nil w7).mono ?_
  rintro e w8 ⟨rfl, B11⟩
  have BB := below_size BA BA.size B11
  go_wp2_with fail
  refine (news_nil w8).mono ?_
  rintro e w9 ⟨rfl, B12⟩
  have BC := below_size BB BB.size B12
  go_wp2_with fail
  refine (changed_nil w9).mono ?_
  rintro e w10 ⟨rfl, B13⟩
  have BD := below_size BC BC.size B13
  go_wp2_with fail
  refine (copy_nil w10).mono ?_
  rintro e w11 ⟨rfl, rfl⟩
  go_wp2_with fail
  refine (known_true _).mono ?_
  rintro e w12 ⟨rfl, B14⟩
  have BE := below_size BD BD.size B14
  go_wp2
  go_ret
  exact ⟨rfl, BE⟩
end Go.Proofs.Yteomolihandfnaa
