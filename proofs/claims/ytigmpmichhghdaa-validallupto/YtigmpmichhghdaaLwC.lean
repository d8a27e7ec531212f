/- ValidChecks: its walk. -/
import Derived.Test.YtigmpmichhghdaaTkn
namespace Go.Proofs.Ytigmpmichhghdaa
open Go.RowKit
set_option maxRecDepth 100000
/-- What Serial answers is three parts. -/
theorem serA_parts (ds : List Tx) : ∀ (l : List Tx) (k : Nat), ∃ (a n : Int) (b : Bool), serA ds k l = .tuple #[.int .i64 a, .int .i64 n, .bool b]
  | [], k => ⟨_, _, _, rfl⟩
  | t :: r, k => by
    unfold serA
    split
    · exact ⟨_, _, _, rfl⟩
    · exact serA_parts ds r (k + 1)
theorem short_of {w w' : World} {a a' : Option Addr} {n c n' c' : Nat} {gm ms : List Tm} (G1 : IsTs w a n c gm) (H : IsTs w' a' n' c' ms) (G2 : gm.map Tm.d = ms.map Tm.d) (hsh : Short ms) : Short gm := fun x hx => by
  have hlen : gm.length = ms.length := by have := congrArg List.length G2; simpa using this
  obtain ⟨i, hi, he⟩ := List.mem_iff_getElem.1 hx
  have hi' : i < ms.length := by omega
  have hd : x.d = (ms[i]).d := by
    have := congrArg (·[i]?) G2
    simp only [List.getElem?_map, List.getElem?_eq_getElem hi, List.getElem?_eq_getElem hi', Option.map_some, Option.some.injEq] at this
    rw [← he]
    exact this
  have h1 : x.rs = (ms[i]).rs := congrArg Tx.rs hd
  have h2 : x.ws = (ms[i]).ws := congrArg Tx.ws hd
  have hX := G1.each x hx
  have hY := H.each _ (List.getElem_mem hi')
  have hS := hsh _ (List.getElem_mem hi')
  rw [← hX.r.1.size, ← hX.w.1.size, h1, h2, hY.r.1.size, hY.w.1.size]
  exact hS
set_option maxHeartbeats 8000000 in
theorem checks_walk {w : World} {da : Option Addr} {dn dc : Nat} {ms : List Tm} {m : Tm} (h : IsTs w da dn dc ms) (hdn : dn ≤ 1048576) (hsh : Short ms) (hm : m.In w) (hmr : m.rn ≤ 1048576) (hmw : m.wn ≤ 1048576) :
    Calls Try.prog 3 #[.slice da dn dc, .agg #[.int .i64 m.base, .int .i64 m.com, .slice m.ra m.rn m.rc, .slice m.wa m.wn m.wc]] w fun e w' => e = .returned (.bool true) ∧ Below w.heap.size w w' := by
  have B1 : Below w.heap.size w (w.alloc (txB m 25)) := box_below
  have E1 : (w.alloc (txB m 25)).heap[w.heap.size]? = some (txB m 25) := new1 _ _
  have hin1 := hm.below B1
  have hI1 := h.below B1
  have hg := given_any hI1 hdn hsh
  obtain ⟨r0, hr0⟩ : ∃ r0, Hid (chkR (ms.map Tm.d) m.base m.rs m.ws = r0) := ⟨_, rfl⟩
  obtain ⟨sa, sn, sb, hser⟩ : ∃ (a n : Int) (b : Bool), Hid (serA (ms.map Tm.d) 0 (ms.map Tm.d) = .tuple #[.int .i64 a, .int .i64 n, .bool b]) := serA_parts _ _ 0
  have hsz : Hid (ms.length = dn) := h.size
  go_enter Try.func3, Try.ntmps3
  unfold txB at B1 E1 hin1 hI1 hg
  go_wp2_with fail
  refine hg.mono ?_
  rintro e w2 ⟨ga, gn, gc, gm, rfl, OG, hgd, B2⟩
  clear hg
  generalize w.alloc (.cells #[.int .i64 m.base, .int .i64 m.com, .slice m.ra m.rn m.rc, .slice m.wa m.wn m.wc] 25) = w1 at *
  have hwl := lt_of_block E1
  have B3 := below_size B1 B1.size B2
  have E2 := (B2.block _ hwl).trans E1
  have hin2 := hin1.below B2
  have hI2 := hI1.below B2
  have hone := one_any hin2 hmr hmw
  obtain ⟨y0, y1, y2, y3, _⟩ := tx_cells (m := m) (t := 25) E2
  replace hgd : Hid (gm.map Tm.d = ms.map Tm.d) := hgd
  clear h hm hin1 hI1 E1 B1 B2
  go_wp2_with fail
  refine hone.mono ?_
  rintro e w3 ⟨mm, rfl, hmd, _, _, SM, B4⟩
  clear hone y0 y1 y2 y3
  have hin0 := hI2.each
  have hck := check_as hI2.size hdn hsh (OG.isTs.below B4) hgd.out hin2 SM.inn hmd hmr hmw
  rw [hr0.out] at hck
  unfold chkV at hck
  clear hmd
  go_wp2_with fail
  refine hck.mono ?_
  rintro e w4 ⟨rfl, B5⟩
  have B6 := below_size B4 B4.size B5
  have E4 := (B6.block _ (lt_of_block E2)).trans E2
  have hin4 := hin2.below B6
  have hI4 := hI2.below B6
  have OG4 := OG.below B6
  have B7 := below_size B3 B3.size B6
  obtain ⟨y0, y1, y2, y3, _⟩ := tx_cells (m := m) (t := 25) E4
  have hrk := rcheck_any hI4 hdn hsh hin4 hmr hmw
  rw [hr0.out] at hrk
  unfold chkV at hrk
  clear hck SM B4 B5 B6 E2 hin2 hI2 OG hin0 hr0 B3
  obtain ⟨q0, hq0⟩ : ∃ q0, Hid (r0.getD 0 = q0) := ⟨_, rfl⟩
  obtain ⟨q1, hq1⟩ : ∃ q1, Hid (eN r0 = q1) := ⟨_, rfl⟩
  rw [hq0.out, hq1.out] at hrk ⊢
  go_wp2_with fail
  refine hrk.mono ?_
  rintro e w5 ⟨rfl, B8⟩
  have hI5 := hI4.below B8
  have OG5 := OG4.below B8
  have B9 := below_size B7 B7.size B8
  have hgs : Short gm := short_of OG5.isTs hI5 hgd.out hsh
  have hgn : gn ≤ 1048576 := by
    have h1 := OG5.isTs.size
    have h2 := congrArg List.length hgd.out
    rw [List.length_map, List.length_map, hsz.out] at h2
    omega
  have hs1 := serial_any OG5.isTs hgn hgs
  rw [hgd.out, hser.out] at hs1
  clear hrk y0 y1 y2 y3 E4 B7 B8 hin4 hI4 OG4
  go_wp2_with fail
  refine hs1.mono ?_
  rintro e w6 ⟨rfl, B10⟩
  have hI6 := hI5.below B10
  have OG6 := OG5.below B10
  have B11 := below_size B9 B9.size B10
  have hs2 := rserial_any hI6 hdn hsh
  rw [hser.out] at hs2
  clear hs1 B9 B10 hI5 OG5
  go_wp2_with fail
  refine hs2.mono ?_
  rintro e w7 ⟨rfl, B12⟩
  have hI7 := hI6.below B12
  have OG7 := OG6.below B12
  have B13 := below_size B11 B11.size B12
  have htk := taken_any OG7.isTs (fun x hx => OG7.2 x hx) hgn
  clear hs2 B11 B12 hI6 OG6 hser hq0 hq1
  go_wp2_with fail
  refine htk.mono ?_
  rintro e w8 ⟨ta, tn, tc, rfl, OT, B14⟩
  have hI8 := hI7.below B14
  have B15 := below_size B13 B13.size B14
  have htn : tn ≤ 1048576 := by
    have h1 := OT.isTs.size
    have h2 := congrArg List.length hgd.out
    rw [List.length_map, List.length_map, hsz.out] at h2
    omega
  have hsm := same_true OT.isTs hI8 hgd.out htn hgs
  clear htk B13 B14 hI7 OG7
  go_wp2_with fail
  refine hsm.mono ?_
  rintro e w9 ⟨rfl, B16⟩
  have B17 := below_size B15 B15.size B16
  have hkn := known_true w9
  clear hsm B15 B16 hI8 OT
  go_wp2_with fail
  refine hkn.mono ?_
  rintro e w10 ⟨rfl, B18⟩
  have B19 := below_size B17 B17.size B18
  clear hkn
  go_wp2
  go_ret
  exact ⟨rfl, B19⟩
end Go.Proofs.Ytigmpmichhghdaa
