/- All. -/
import Derived.Test.YtigmpmichhghdaaRal
namespace Go.Proofs.Ytigmpmichhghdaa
open Go.RowKit
set_option maxRecDepth 100000
theorem OwnI.low {w : World} {b b' : Nat} {v : Value} {xs : List Int} (h : OwnI w b v xs) (hb : b' ≤ b) : OwnI w b' v xs := ⟨own_mono h.1 hb, h.2⟩
theorem own_shapeT {w : World} {base t : Nat} {v : Value} {K : List Tm} (h : w.ownsRow base t 4 v K.length (flatT K)) : ∃ a n c, v = .slice a n c ∧ n = K.length := by
  rcases h.2 with ⟨rfl, h0⟩ | ⟨g, cap, cur, rfl, _⟩
  · exact ⟨none, 0, 0, rfl, h0.symm⟩
  · exact ⟨_, _, _, rfl, rfl⟩
set_option maxHeartbeats 1000000 in
theorem clone_any {w : World} {a : Option Addr} {n c : Nat} {xs : List Int} (h : IsI w a n c xs) (hn : n ≤ 1048576) :
    Calls Try.prog 33 #[.slice a n c] w fun e w' => ∃ a' n' c', e = .returned (.slice a' n' c') ∧ OwnI w' w.heap.size (.slice a' n' c') xs ∧ Below w.heap.size w w' := by
  have hq := fun (w : World) (a : Option Addr) (l c : Nat) => Lib.run_eql_slice_nil (P := Try.prog) w 23 2 a l c 0 0 Try.underlying23
  cases a with
  | none =>
    obtain ⟨rfl, rfl⟩ := h.nil' rfl
    obtain rfl : xs = [] := List.eq_nil_of_length_eq_zero h.size
    go_enter Try.func33, Try.ntmps33
    go_wp2
    go_ret
    exact ⟨none, 0, 0, rfl, ownI_nil _ _, Below.refl _ _⟩
  | some ad =>
    have hbel : Below w.heap.size w (w.alloc (.cells #[] 2)) := box_below
    have hown : OwnI (w.alloc (.cells #[] 2)) w.heap.size (.slice (some ⟨w.heap.size, 0, none⟩) 0 0) [] := ⟨World.ownsRow_lit w #[] 0 (Nat.le_refl _) (by decide) rfl, by simp⟩
    go_enter Try.func33, Try.ntmps33
    go_wp2_with (at_builtin; refine app_ints _ rfl _ _ rfl w.heap.size _ [] rfl hown _ _ _ _ rfl (h.below hbel) (by simp; omega) (by simp) ?_)
    intro a' n' c' w1 O1 B1 _
    clear hown
    go_wp2
    go_ret
    exact ⟨a', n', c', rfl, by simpa using O1, hbel.trans B1⟩
/-- append of one transaction to a row, within a region that draws its order. -/
theorem app_row_op {t e : Nat} (htu : Try.prog.underlying t = some (.slice e)) (hinfo : (Try.prog.info? e).map (fun i => (i.zero, i.size, i.bytes)) = some (some (.agg #[.int .i64 0, .int .i64 0, .slice none 0 0, .slice none 0 0]), 4, 64))
    {o : Oper} {a : Act} {K : Act → World → Prop} {Q : Exit → Act → World → Prop} (w : World) (s x : Operand)
    (ho : o.op = .call { callee := .builtin .append, args := #[s, x], argTypes := #[t, t] })
    (base : Nat) (v : Value) (ms : List Tm) (hs : a.eval s = v) (hown : w.ownsRow base e 4 v ms.length (flatT ms))
    (b : Nat) (m : Tm) (hx : a.eval x = .slice (some ⟨b, 0, none⟩) 1 1) (hc : ∀ j v, m.cells[j]? = some v → w.cell? ⟨b, j, none⟩ = some v)
    (h47 : ms.length ≤ 1954687338265) (hbase : base ≤ w.heap.size)
    (h : ∀ a' n' c' w', w'.ownsRow base e 4 (.slice a' n' c') (ms ++ [m]).length (flatT (ms ++ [m])) → w.grownBy w' v.ownBlock → K (a.put o.dst (.slice a' n' c')) w') : o.wp Try.prog a w K Q := by
  obtain ⟨i0, hi, hz0, hz1, hz2⟩ := info_parts hinfo
  refine wp_append_own w s x t ho base e i0 (.agg #[.int .i64 0, .int .i64 0, .slice none 0 0, .slice none 0 0]) 4 64 htu hi hz0 hz1 hz2 rfl (by decide) _ ms.length _ hs hown ⟨b, 0, none⟩ 1 1 (flatT [m]) hx rfl (tcell_at hc) (flatT_one _) (by unfold maxLen; omega) (by omega) hbase ?_
  intro v' w' hown' hgrow _
  have O : w'.ownsRow base e 4 v' (ms ++ [m]).length (flatT (ms ++ [m])) := by rw [flatT_app, List.length_append]; exact hown'
  obtain ⟨a', n', c', hv, _⟩ := own_shapeT O
  subst hv
  exact h a' n' c' w' O hgrow
/-- A transaction whose lists are somebody's own, and lie apart from some blocks. -/
structure EK (N : Nat) (S : Nat → Prop) (w : World) (m : Tm) : Prop where
  r : OwnI w N (.slice m.ra m.rn m.rc) m.rs
  w : OwnI w N (.slice m.wa m.wn m.wc) m.ws
  nr : ∀ g, (Value.slice m.ra m.rn m.rc).ownBlock = some g → ¬ S g
  nw : ∀ g, (Value.slice m.wa m.wn m.wc).ownBlock = some g → ¬ S g
  b64 : I64 m.base
  c64 : I64 m.com
theorem EK.st {N : Nat} {S : Nat → Prop} {w : World} {m : Tm} (h : EK N S w m) : St 0 w m := ⟨h.b64, h.c64, h.r.st, h.w.st⟩
/-- Where All stands: its places and its answer. -/
structure VaJ (N : Nat) (S : Nat → Prop) (bp : Nat) (f : Int → List Int) (K : List Tm) (w : World) (ov : Value) : Prop where
  pl : Pl w S bp f
  low : ∀ b, S b → N ≤ b ∧ b < w.heap.size
  no : ∀ b, S b → ∀ cs, w.heap[b]? ≠ some (.cells cs 31 (0, 0))
  row : w.ownsRow N 31 4 ov K.length (flatT K)
  each : ∀ m ∈ K, EK N S w m
theorem VaJ.below {N : Nat} {S : Nat → Prop} {bp : Nat} {f : Int → List Int} {K : List Tm} {w w' : World} {ov : Value} (h : VaJ N S bp f K w ov) (hb : Below w.heap.size w w') : VaJ N S bp f K w' ov :=
  ⟨h.pl.below hb, fun b hS => ⟨(h.low b hS).1, Nat.lt_of_lt_of_le (h.low b hS).2 hb.size⟩, fun b hS cs => by rw [hb.block b (h.low b hS).2]; exact h.no b hS cs, own_below h.row hb, fun m hm => ⟨(h.each m hm).r.below hb, (h.each m hm).w.below hb, (h.each m hm).nr, (h.each m hm).nw, (h.each m hm).b64, (h.each m hm).c64⟩⟩
theorem Pl.cut31 {w : World} {S : Nat → Prop} {bp : Nat} {f : Int → List Int} (h : Pl w S bp f) (hn : ∀ cs, w.heap[bp]? ≠ some (.cells cs 31 (0, 0))) : Pl w (fun b => S b ∧ b < w.heap.size ∧ ∀ cs, w.heap[b]? ≠ some (.cells cs 31 (0, 0))) bp f := by
  obtain ⟨⟨mv, hc, hv⟩, ho, ⟨cs, t, hb, ht⟩⟩ := h
  refine ⟨⟨mv, hc, ?_⟩, ⟨ho, lt_of_block hb, hn⟩, ⟨cs, t, hb, ht⟩⟩
  cases mv with
  | none => exact hv
  | some mb =>
    obtain ⟨F, h1⟩ := hv
    refine ⟨F, h1.map, ⟨h1.own, h1.map.lt, fun cs e => ?_⟩, h1.no, fun k v hk => ?_, h1.apart⟩
    · obtain ⟨L, c, hL, _⟩ := h1.map
      rw [hL] at e
      cases e
    · obtain ⟨q1, q2, q3⟩ := h1.yes k v hk
      refine ⟨q1, q2, fun g hg => ⟨q3 g hg, lt_of_block (own_block q1.1 hg).2.choose_spec, fun cs e => ?_⟩⟩
      obtain ⟨_, cur, hh⟩ := own_block q1.1 hg
      rw [hh] at e
      exact absurd (cells_ty e) (by decide)
theorem VaJ.put {N : Nat} {S : Nat → Prop} {bp : Nat} {f f' : Int → List Int} {K : List Tm} {w w' : World} {ov : Value} (h : VaJ N S bp f K w ov) (P : Pl w' (fun b => S b ∨ w.heap.size ≤ b) bp f') (F : Fp S w w') (hk : KeepC bp w w') (hN : N ≤ w.heap.size) : ∃ S', VaJ N S' bp f' K w' ov := by
  have hbp : ∀ cs, w'.heap[bp]? ≠ some (.cells cs 31 (0, 0)) := fun cs e => by
    obtain ⟨cs0, t, hb, _⟩ := h.pl.ty
    obtain ⟨v, hv⟩ := hk cs0 t hb
    rw [hv] at e
    have := cells_ty e
    subst this
    exact h.no bp h.pl.own cs0 hb
  refine ⟨_, P.cut31 hbp, fun b hb => ⟨hb.1.elim (fun e => (h.low b e).1) (fun e => Nat.le_trans hN e), hb.2.1⟩, fun b hb => hb.2.2, own_same h.row (fun g hg => ?_), fun m hm => ?_⟩
  · obtain ⟨_, cur, hh⟩ := own_block h.row hg
    exact F.block g (lt_of_block hh) (fun e => h.no g e cur hh)
  · obtain ⟨r, w1, nr, nw, b, c⟩ := h.each m hm
    have key : ∀ {v : Value} {xs : List Int}, OwnI w N v xs → (∀ g, v.ownBlock = some g → ¬ S g) → OwnI w' N v xs ∧ ∀ g, v.ownBlock = some g → ¬ ((S g ∨ w.heap.size ≤ g) ∧ g < w'.heap.size ∧ ∀ cs, w'.heap[g]? ≠ some (.cells cs 31 (0, 0))) := fun {v xs} o n => by
      have hl : ∀ g, v.ownBlock = some g → g < w.heap.size := fun g hg => lt_of_block (own_block o.1 hg).2.choose_spec
      refine ⟨⟨own_same o.1 (fun g hg => F.block g (hl g hg) (n g hg)), o.2⟩, fun g hg e => ?_⟩
      rcases e.1 with e1 | e1
      · exact n g hg e1
      · have := hl g hg
        omega
    exact ⟨(key r nr).1, (key w1 nw).1, (key r nr).2, (key w1 nw).2, b, c⟩
theorem VaJ.push {N : Nat} {S : Nat → Prop} {bp : Nat} {f : Int → List Int} {K : List Tm} {w w' : World} {ov ov' : Value} {y : Tm} {M : Nat} (h : VaJ N S bp f K w ov) (G : w.grownBy w' ov.ownBlock) (O : w'.ownsRow N 31 4 ov' (K ++ [y]).length (flatT (K ++ [y]))) (PR : OwnI w M (.slice y.ra y.rn y.rc) y.rs) (PW : OwnI w M (.slice y.wa y.wn y.wc) y.ws) (hM : N ≤ M) (hS : ∀ b, S b → b < M) (hb : I64 y.base) (hc : I64 y.com) : VaJ N S bp f (K ++ [y]) w' ov' := by
  have hkS : ∀ b, S b → w'.heap[b]? = w.heap[b]? := fun b hb => G.block b (h.low b hb).2 (fun e => by
    obtain ⟨_, cur, hh⟩ := own_block h.row e.symm
    exact h.no b hb cur hh)
  have key : ∀ {v : Value} {xs : List Int} {B : Nat}, OwnI w B v xs → OwnI w' B v xs := fun {v xs B} o => ⟨own_same o.1 (fun g hg => by
    obtain ⟨_, cur, hh⟩ := own_block o.1 hg
    exact G.block g (lt_of_block hh) (fun e => own_ne h.row hh (by decide) e.symm)), o.2⟩
  have far : ∀ {v : Value} {xs : List Int}, OwnI w M v xs → ∀ g, v.ownBlock = some g → ¬ S g := fun {v xs} o g hg e => by
    have h1 := (own_block o.1 hg).1
    have h2 := hS g e
    omega
  refine ⟨h.pl.same (fun _ h => h) (fun b _ hb => hkS b hb), fun b hb => ⟨(h.low b hb).1, Nat.lt_of_lt_of_le (h.low b hb).2 G.size⟩, fun b hb cs => by rw [hkS b hb]; exact h.no b hb cs, O, fun m hm => ?_⟩
  rcases List.mem_append.1 hm with hm | hm
  · obtain ⟨r, w1, nr, nw, b, c⟩ := h.each m hm
    exact ⟨key r, key w1, nr, nw, b, c⟩
  · rw [List.mem_singleton] at hm
    subst hm
    exact ⟨(key PR).low hM, (key PW).low hM, far PR, far PW, hb, hc⟩
theorem sortC_snocA {K : List Tm} {m : Tm} (h : SortC K) (hm : ∀ x ∈ K, x.com ≤ m.com) : SortC (K ++ [m]) := by
  intro i j x y hij hx hy
  rcases Nat.lt_or_ge j K.length with hj | hj
  · rw [List.getElem?_append_left hj] at hy
    rw [List.getElem?_append_left (by omega)] at hx
    exact h i j x y hij hx hy
  · have hj' : j = K.length := by
      have := (List.getElem?_eq_some_iff.1 hy).1
      rw [List.length_append] at this
      simp at this
      omega
    subst hj'
    rw [List.getElem?_append_right (Nat.le_refl _)] at hy
    simp at hy
    subst hy
    rw [List.getElem?_append_left hij] at hx
    exact hm x (List.mem_of_getElem? hx)
/-- What All leaves, and where its lists lie. -/
def VaP (w : World) (ms : List Tm) (e : Ending) (w' : World) : Prop := ∃ a n c K, e = .returned (.slice a n c) ∧ OwnT 0 w' w.heap.size 31 (.slice a n c) K ∧ K.map Tm.d = (allA (ms.map Tm.d)).1 ∧ (∀ m ∈ K, OwnI w' w.heap.size (.slice m.wa m.wn m.wc) m.ws) ∧ Short K ∧ Below w.heap.size w w'
set_option maxHeartbeats 8000000 in
theorem vall_any {w : World} {da : Option Addr} {dn dc : Nat} {ms : List Tm} (h : IsTs w da dn dc ms) (hdn : dn ≤ 1000) (hsh : Short ms) :
    Calls Try.prog 18 #[.slice da dn dc] w fun e w' => VaP w ms e w' := by
  have eg28 : ∀ args w, (callFunc 28 args).run Try.prog w = .ok (.enter 28 args) w := enters_of Try.func28 (by kernel_rfl) rfl
  have hsz : Hid (ms.length = dn) := h.size
  have hdnI : dn ≤ 9223372036854775807 := by omega
  have J0 : VaJ w.heap.size (fun b => b = w.heap.size) w.heap.size (wrF []) [] (w.alloc (.cells #[.map none] 63)) (.slice none 0 0) := ⟨⟨⟨none, by simp, fun o => rfl⟩, rfl, ⟨_, 63, new1 _ _, by decide⟩⟩, fun b hb => ⟨by rw [hb]; exact Nat.le_refl _, by rw [hb]; simp⟩, fun b hb cs e => (by rw [hb, new1] at e; cases e), World.ownsRow_nil _ _ _ _, fun m hm => (by cases hm)⟩
  go_enter Try.func18, Try.ntmps18
  go_wp2
  go_loopw [3, 4, 12] (fun ov lv iv wr => ∃ (k : Nat) (S : Nat → Prop) (K : List Tm) (last : Int), k ≤ dn ∧ iv = .int .i64 (k : Int) ∧ lv = .int .i64 last ∧ VaJ w.heap.size S w.heap.size (wrF K) K wr ov ∧ AllK ms k K last ∧ SortC K ∧ Short K ∧ Below w.heap.size w wr) (fun _ _ iv _ => dn - (intOf iv).toNat)
  case atStart => exact ⟨0, _, [], 0, by omega, rfl, rfl, J0, AllK.start, fun i j x y _ hx => (by cases hx), fun x hx => (by cases hx), box_below⟩
  case round =>
    clear J0
    obtain ⟨k, S, K, last, hkk, rfl, rfl, I, hal, hso, hsK, B⟩ := hrel
    have inv := hal.inv
    have hlast : 0 ≤ last ∧ last ≤ 1099511627776 + k := ⟨inv.lo, inv.hi⟩
    have hKl : K.length ≤ k := by have := inv.len; simpa using this
    have hKc : ∀ z ∈ K, z.com ≤ last := fun z hz => inv.com z.d (List.mem_map_of_mem hz)
    clear inv
    obtain ⟨oa, on, oc, rfl, hon⟩ := own_shapeT I.row
    replace hon : Hid (on = K.length) := hon
    by_cases hlt : k < dn
    · obtain ⟨b, off, x, rfl, _, d0, d1, d2, d3, hx, hxin⟩ := (h.below B).at_ k hlt
      have hkI : (k : Int) < (dn : Int) := by omega
      obtain ⟨hxr, hxw⟩ := hsh x (List.mem_of_getElem? hx.out)
      have hx0 := h.each x (List.mem_of_getElem? hx.out)
      have hwk : IntKind.i64.wrap ((k : Int) + 1) = (k : Int) + 1 := by rw [IntKind.wrap_i64]; omega
      have BA : Below wr.heap.size wr (wr.alloc (txB x 31)) := box_below
      have B1 := below_size B B.size BA
      have E1 : (wr.alloc (txB x 31)).heap[wr.heap.size]? = some (txB x 31) := new1 _ _
      have J1 := I.below BA
      have hxin1 := hxin.below BA
      obtain ⟨y0, y1, y2, y3, _⟩ := tx_cells E1
      go_upto_region 7 with fail
      unfold txB at B1 E1 J1 hxin1 y0 y1 y2 y3
      clear I BA hxin B d0 d1 d2 d3
      generalize wr.alloc (.cells #[.int .i64 x.base, .int .i64 x.com, .slice x.ra x.rn x.rc, .slice x.wa x.wn x.wc] 31) = w1 at *
      have htl := lt_of_block E1
      by_cases hb0 : x.base < 0
      · have hnx := hal.no hx.out (.inl hb0)
        clear hal hx
        go_wp2
        go_roundw
        case rel => exact ⟨k + 1, S, K, last, by omega, by go_num, rfl, J1, hnx, hso, hsK, B1⟩
        case measure => simp [intOf]; omega
      · by_cases hb1 : 1099511627776 < x.base
        · have hnx := hal.no hx.out (.inr (.inl hb1))
          clear hal hx
          go_wp2
          go_roundw
          case rel => exact ⟨k + 1, S, K, last, by omega, by go_num, rfl, J1, hnx, hso, hsK, B1⟩
          case measure => simp [intOf]; omega
        · have WK : Wr K (wrF K) := ⟨wrF_rise K hso, fun o => by have := wrF_len K o; omega, wrF_mem K⟩
          obtain ⟨r, hr⟩ : ∃ r, Hid (chkR (K.map Tm.d) x.base x.rs x.ws = r) := ⟨_, rfl⟩
          have hah := ahead_any (m := x) (g := 28) (lb := #[]) (cnt := fun _ => true) J1.pl WK.rise WK.len hxin1 hxr hxw eg28 (fun W x _ => (always_any x W).mono (fun e w' h => ⟨h.1, h.2 ▸ Below.refl _ _⟩))
          rw [chk_eq WK, hr.out] at hah
          clear WK
          go_wp2_with fail
          refine hah.mono ?_
          rintro e w2 ⟨rfl, B2⟩
          have B3 := below_size B1 B1.size B2
          have J2 := J1.below B2
          have E2 := (B2.block _ htl).trans E1
          clear hah J1 hxin1 E1 y0 y1 y2 y3 B1 B2 htl
          cases r with
          | some q =>
            have hnx := hal.no hx.out (.inr (.inr (by rw [hr.out]; simp)))
            clear hal hr hx
            unfold wayV
            have hm := meth72
            have ho := open90 q w2
            go_wp2_with fail
            refine ho.mono ?_
            rintro e w3 ⟨rfl, B4⟩
            have J3 := J2.below B4
            have B5 := below_size B3 B3.size B4
            clear ho hm J2
            go_wp2
            go_roundw
            case rel => exact ⟨k + 1, S, K, last, by omega, by go_num, rfl, J3, hnx, hso, hsK, B5⟩
            case measure => simp [intOf]; omega
          | none =>
            have hal2 := fun y h => hal.yes (y := y) hx.out (by omega) (by omega) hr.out h
            obtain ⟨C, hC⟩ : ∃ C, Hid (max last x.base + 1 = C) := ⟨_, rfl⟩
            rw [hC.out] at hal2
            have hC64 : I64 C := by rw [← hC.out]; unfold I64; omega
            have hw1 : IntKind.i64.wrap (max last x.base + 1) = C := by rw [← hC.out, IntKind.wrap_i64]; omega
            have hCl : ∀ z ∈ K, z.com ≤ C := fun z hz => by have := hKc z hz; rw [← hC.out]; omega
            clear hal hr hx hC
            unfold wayV
            have hm := meth77
            have ho := open92 w2
            go_wp2_with fail
            refine ho.mono ?_
            rintro e w3 ⟨rfl, B4⟩
            have J3 := J2.below B4
            have B5 := below_size B3 B3.size B4
            have E3 := (B4.block _ (lt_of_block E2)).trans E2
            have hxi3 := hx0.below B5
            obtain ⟨y0, y1, y2, y3, _⟩ := tx_cells (m := x) (t := 31) E3
            have hput := put_any C hC64 J3.pl hxi3.w.1 (fun b' off' ha h0 hS => by
              obtain ⟨b2, off2, ha2, hc2⟩ := hx0.w.1.cells h0
              rw [ha] at ha2
              cases ha2
              have h1 := lt_of_cell (hc2 0 h0)
              have h2 := (J3.low _ hS).1
              omega) hxw (fun o => by have := wrF_len K o; omega)
            clear ho hm J2 B3 B4 E2
            go_wp2_with fail
            refine hput.mono ?_
            rintro e w5 ⟨rfl, P5, F5, K5⟩
            obtain ⟨S5, J5⟩ := J3.put P5 F5 K5 B5.size
            have B6 := B5.trans (F5.below B5.size (fun b hb => (J3.low b hb).1))
            have E5 := (F5.block _ (lt_of_block E3) (fun hS => J3.no _ hS _ E3)).trans E3
            have hxi := hx0.below B6
            have hN5 := B6.size
            have hrow := J5.row
            have hlen : K.length ≤ 1954687338265 := by omega
            have htl5 := lt_of_block E5
            clear hput J3 P5 F5 K5 y0 y1 y2 y3 E3 hxi3 B5
            obtain ⟨y0, y1, y2, y3, _⟩ := tx_cells (m := x) (t := 31) E5
            go_upto_region 10 with fail
            refine wp_region_inv' (fun A D a w' => ∃ v41 v42 v43 v44 v45 v46 v47 v48 v49 v50 v51 v52 v53 v3 ra1 rn1 rc1 wa1 wn1 wc1 nb a8 n8 c8, a = ((((((((((((((A.put (some 41) v41).put (some 42) v42).put (some 43) v43).put (some 44) v44).put (some 45) v45).put (some 46) v46).put (some 47) v47).put (some 48) v48).put (some 49) v49).put (some 50) v50).put (some 51) v51).put (some 52) v52).put (some 53) v53).put (some 3) v3) ∧ (D 13 ∨ v3 = .slice oa on oc) ∧ (D 12 ∨ Below w5.heap.size w5 w') ∧ (D 0 → v41 = .slice oa on oc) ∧ (D 1 → v42 = .pointer (some ⟨wr.heap.size, 0, none⟩)) ∧ (D 2 → v43 = .int .i64 (Tm.base x)) ∧ (D 3 → v44 = .int .i64 C) ∧ (D 4 → v45 = .pointer (some ⟨wr.heap.size, 2, none⟩)) ∧ (D 5 → v46 = .slice (Tm.ra x) (Tm.rn x) (Tm.rc x)) ∧ (D 6 → v47 = .slice ra1 rn1 rc1) ∧ (D 7 → v48 = .pointer (some ⟨wr.heap.size, 3, none⟩)) ∧ (D 8 → v49 = .slice (Tm.wa x) (Tm.wn x) (Tm.wc x)) ∧ (D 9 → v50 = .slice wa1 wn1 wc1) ∧ (D 10 → v51 = .agg #[.int .i64 (Tm.base x), .int .i64 C, .slice ra1 rn1 rc1, .slice wa1 wn1 wc1]) ∧ (D 11 → v52 = .slice (some ⟨nb, 0, none⟩) 1 1) ∧ (D 12 → v53 = .slice a8 n8 c8) ∧ (D 13 → v3 = .slice a8 n8 c8) ∧ (D 12 → ∃ wp, Below w5.heap.size w5 wp ∧ wp.grownBy w' (Value.slice oa on oc).ownBlock ∧ w'.ownsRow w.heap.size 31 4 (.slice a8 n8 c8) (K ++ [(⟨x.base, C, ra1, rn1, rc1, wa1, wn1, wc1, x.rs, x.ws⟩ : Tm)]).length (flatT (K ++ [(⟨x.base, C, ra1, rn1, rc1, wa1, wn1, wc1, x.rs, x.ws⟩ : Tm)])) ∧ OwnI wp w5.heap.size (.slice ra1 rn1 rc1) x.rs ∧ OwnI wp w5.heap.size (.slice wa1 wn1 wc1) x.ws) ∧ (D 6 → ¬ D 12 → OwnI w' w5.heap.size (.slice ra1 rn1 rc1) x.rs) ∧ (D 9 → ¬ D 12 → OwnI w' w5.heap.size (.slice wa1 wn1 wc1) x.ws) ∧ (D 11 → ¬ D 12 → ∀ j v, (Tm.cells ⟨x.base, C, ra1, rn1, rc1, wa1, wn1, wc1, x.rs, x.ws⟩)[j]? = some v → w'.cell? ⟨nb, j, none⟩ = some v)) (by kernel_rfl) (by kernel_rfl) ?mono ?start ?step ?done
            case mono =>
              rintro D D' a w' hD ⟨v41, v42, v43, v44, v45, v46, v47, v48, v49, v50, v51, v52, v53, v3, ra1, rn1, rc1, wa1, wn1, wc1, nb, a8, n8, c8, ha, o3, hB, e0, e1, e2, e3, e4, e5, e6, e7, e8, e9, e10, e11, e12, e13, hA, hR, hW, hLit⟩
              exact ⟨v41, v42, v43, v44, v45, v46, v47, v48, v49, v50, v51, v52, v53, v3, ra1, rn1, rc1, wa1, wn1, wc1, nb, a8, n8, c8, ha, o3.imp_left (hD 13).1, hB.imp_left (hD 12).1, fun h => e0 ((hD 0).2 h), fun h => e1 ((hD 1).2 h), fun h => e2 ((hD 2).2 h), fun h => e3 ((hD 3).2 h), fun h => e4 ((hD 4).2 h), fun h => e5 ((hD 5).2 h), fun h => e6 ((hD 6).2 h), fun h => e7 ((hD 7).2 h), fun h => e8 ((hD 8).2 h), fun h => e9 ((hD 9).2 h), fun h => e10 ((hD 10).2 h), fun h => e11 ((hD 11).2 h), fun h => e12 ((hD 12).2 h), fun h => e13 ((hD 13).2 h), fun h => hA ((hD 12).2 h), fun h h' => hR ((hD 6).2 h) (fun k => h' ((hD 12).1 k)), fun h h' => hW ((hD 9).2 h) (fun k => h' ((hD 12).1 k)), fun h h' => hLit ((hD 11).2 h) (fun k => h' ((hD 12).1 k))⟩
            case start => exact ⟨u41, u42, u43, u44, u45, u46, u47, u48, u49, u50, u51, u52, u53, .slice oa on oc, none, 0, 0, none, 0, 0, 0, none, 0, 0, by kernel_rfl, .inr rfl, .inr ((Below.refl _ _).drew), fun h => h.elim, fun h => h.elim, fun h => h.elim, fun h => h.elim, fun h => h.elim, fun h => h.elim, fun h => h.elim, fun h => h.elim, fun h => h.elim, fun h => h.elim, fun h => h.elim, fun h => h.elim, fun h => h.elim, fun h => h.elim, fun h => h.elim, fun h _ => h.elim, fun h _ => h.elim, fun h _ => h.elim⟩
            case step =>
              intro i o ho D a w' hI hn hcl hd
              obtain ⟨v41, v42, v43, v44, v45, v46, v47, v48, v49, v50, v51, v52, v53, v3, ra1, rn1, rc1, wa1, wn1, wc1, nb, a8, n8, c8, ha, o3, hB, e0, e1, e2, e3, e4, e5, e6, e7, e8, e9, e10, e11, e12, e13, hA, hR, hW, hLit⟩ := hI
              match i, ho with
              | 0, ho =>
                cases Option.some.inj ho
                have ev : a.tmps[3]?.getD undef = .slice oa on oc := by rw [ha, o3.resolve_left (fun h => (fun h => hn (hcl 12 _ rfl h ⟨0, .data⟩ (by simp) rfl)) (hcl 13 _ rfl h ⟨12, .data⟩ (by simp) rfl))]; kernel_rfl
                refine wp_value (w' := w') (v := .slice oa on oc) (by simp [execOp, ev, go_sem]) ?_
                exact ⟨(.slice oa on oc), v42, v43, v44, v45, v46, v47, v48, v49, v50, v51, v52, v53, v3, ra1, rn1, rc1, wa1, wn1, wc1, nb, a8, n8, c8, by rw [ha]; kernel_rfl, o3.imp_left .inr, hB.imp_left .inr, fun _ => rfl, fun h => e1 (h.resolve_left (by decide)), fun h => e2 (h.resolve_left (by decide)), fun h => e3 (h.resolve_left (by decide)), fun h => e4 (h.resolve_left (by decide)), fun h => e5 (h.resolve_left (by decide)), fun h => e6 (h.resolve_left (by decide)), fun h => e7 (h.resolve_left (by decide)), fun h => e8 (h.resolve_left (by decide)), fun h => e9 (h.resolve_left (by decide)), fun h => e10 (h.resolve_left (by decide)), fun h => e11 (h.resolve_left (by decide)), fun h => e12 (h.resolve_left (by decide)), fun h => e13 (h.resolve_left (by decide)), fun h => hA (h.resolve_left (by decide)), fun h h' => hR (h.resolve_left (by decide)) (fun k => h' (.inr k)), fun h h' => hW (h.resolve_left (by decide)) (fun k => h' (.inr k)), fun h h' => hLit (h.resolve_left (by decide)) (fun k => h' (.inr k))⟩
              | 1, ho =>
                cases Option.some.inj ho
                have ev : a.tmps[7]?.getD undef = .pointer (some ⟨wr.heap.size, 0, none⟩) := by rw [ha]; kernel_rfl
                refine wp_value (w' := w') (v := .pointer (some ⟨wr.heap.size, 0, none⟩)) (by simp [execOp, ev, go_sem]) ?_
                exact ⟨v41, (.pointer (some ⟨wr.heap.size, 0, none⟩)), v43, v44, v45, v46, v47, v48, v49, v50, v51, v52, v53, v3, ra1, rn1, rc1, wa1, wn1, wc1, nb, a8, n8, c8, by rw [ha]; kernel_rfl, o3.imp_left .inr, hB.imp_left .inr, fun h => e0 (h.resolve_left (by decide)), fun _ => rfl, fun h => e2 (h.resolve_left (by decide)), fun h => e3 (h.resolve_left (by decide)), fun h => e4 (h.resolve_left (by decide)), fun h => e5 (h.resolve_left (by decide)), fun h => e6 (h.resolve_left (by decide)), fun h => e7 (h.resolve_left (by decide)), fun h => e8 (h.resolve_left (by decide)), fun h => e9 (h.resolve_left (by decide)), fun h => e10 (h.resolve_left (by decide)), fun h => e11 (h.resolve_left (by decide)), fun h => e12 (h.resolve_left (by decide)), fun h => e13 (h.resolve_left (by decide)), fun h => hA (h.resolve_left (by decide)), fun h h' => hR (h.resolve_left (by decide)) (fun k => h' (.inr k)), fun h h' => hW (h.resolve_left (by decide)) (fun k => h' (.inr k)), fun h h' => hLit (h.resolve_left (by decide)) (fun k => h' (.inr k))⟩
              | 2, ho =>
                cases Option.some.inj ho
                have ev : a.tmps[42]?.getD undef = .pointer (some ⟨wr.heap.size, 0, none⟩) := by rw [ha, e1 (hd ⟨1, .data⟩ (by simp) rfl)]; kernel_rfl
                have hb := hB.resolve_left (fun h => (fun h => (fun h => hn (hcl 10 _ rfl h ⟨2, .data⟩ (by simp) rfl)) (hcl 11 _ rfl h ⟨10, .data⟩ (by simp) rfl)) (hcl 12 _ rfl h ⟨11, .data⟩ (by simp) rfl))
                have z0 := (hb.cell (p := ⟨wr.heap.size, 0, none⟩) htl5).trans y0
                refine wp_value (w' := w') (v := .int .i64 (Tm.base x)) (by simp [execOp, ev, go_sem, z0]) ?_
                exact ⟨v41, v42, (.int .i64 (Tm.base x)), v44, v45, v46, v47, v48, v49, v50, v51, v52, v53, v3, ra1, rn1, rc1, wa1, wn1, wc1, nb, a8, n8, c8, by rw [ha]; kernel_rfl, o3.imp_left .inr, hB.imp_left .inr, fun h => e0 (h.resolve_left (by decide)), fun h => e1 (h.resolve_left (by decide)), fun _ => rfl, fun h => e3 (h.resolve_left (by decide)), fun h => e4 (h.resolve_left (by decide)), fun h => e5 (h.resolve_left (by decide)), fun h => e6 (h.resolve_left (by decide)), fun h => e7 (h.resolve_left (by decide)), fun h => e8 (h.resolve_left (by decide)), fun h => e9 (h.resolve_left (by decide)), fun h => e10 (h.resolve_left (by decide)), fun h => e11 (h.resolve_left (by decide)), fun h => e12 (h.resolve_left (by decide)), fun h => e13 (h.resolve_left (by decide)), fun h => hA (h.resolve_left (by decide)), fun h h' => hR (h.resolve_left (by decide)) (fun k => h' (.inr k)), fun h h' => hW (h.resolve_left (by decide)) (fun k => h' (.inr k)), fun h h' => hLit (h.resolve_left (by decide)) (fun k => h' (.inr k))⟩
              | 3, ho =>
                cases Option.some.inj ho
                have ev : a.tmps[4]?.getD undef = .int .i64 C := by rw [ha]; kernel_rfl
                refine wp_value (w' := w') (v := .int .i64 C) (by simp [execOp, ev, go_sem]) ?_
                exact ⟨v41, v42, v43, (.int .i64 C), v45, v46, v47, v48, v49, v50, v51, v52, v53, v3, ra1, rn1, rc1, wa1, wn1, wc1, nb, a8, n8, c8, by rw [ha]; kernel_rfl, o3.imp_left .inr, hB.imp_left .inr, fun h => e0 (h.resolve_left (by decide)), fun h => e1 (h.resolve_left (by decide)), fun h => e2 (h.resolve_left (by decide)), fun _ => rfl, fun h => e4 (h.resolve_left (by decide)), fun h => e5 (h.resolve_left (by decide)), fun h => e6 (h.resolve_left (by decide)), fun h => e7 (h.resolve_left (by decide)), fun h => e8 (h.resolve_left (by decide)), fun h => e9 (h.resolve_left (by decide)), fun h => e10 (h.resolve_left (by decide)), fun h => e11 (h.resolve_left (by decide)), fun h => e12 (h.resolve_left (by decide)), fun h => e13 (h.resolve_left (by decide)), fun h => hA (h.resolve_left (by decide)), fun h h' => hR (h.resolve_left (by decide)) (fun k => h' (.inr k)), fun h h' => hW (h.resolve_left (by decide)) (fun k => h' (.inr k)), fun h h' => hLit (h.resolve_left (by decide)) (fun k => h' (.inr k))⟩
              | 4, ho =>
                cases Option.some.inj ho
                have ev : a.tmps[7]?.getD undef = .pointer (some ⟨wr.heap.size, 0, none⟩) := by rw [ha]; kernel_rfl
                refine wp_value (w' := w') (v := .pointer (some ⟨wr.heap.size, 2, none⟩)) (by simp [execOp, ev, go_sem]) ?_
                exact ⟨v41, v42, v43, v44, (.pointer (some ⟨wr.heap.size, 2, none⟩)), v46, v47, v48, v49, v50, v51, v52, v53, v3, ra1, rn1, rc1, wa1, wn1, wc1, nb, a8, n8, c8, by rw [ha]; kernel_rfl, o3.imp_left .inr, hB.imp_left .inr, fun h => e0 (h.resolve_left (by decide)), fun h => e1 (h.resolve_left (by decide)), fun h => e2 (h.resolve_left (by decide)), fun h => e3 (h.resolve_left (by decide)), fun _ => rfl, fun h => e5 (h.resolve_left (by decide)), fun h => e6 (h.resolve_left (by decide)), fun h => e7 (h.resolve_left (by decide)), fun h => e8 (h.resolve_left (by decide)), fun h => e9 (h.resolve_left (by decide)), fun h => e10 (h.resolve_left (by decide)), fun h => e11 (h.resolve_left (by decide)), fun h => e12 (h.resolve_left (by decide)), fun h => e13 (h.resolve_left (by decide)), fun h => hA (h.resolve_left (by decide)), fun h h' => hR (h.resolve_left (by decide)) (fun k => h' (.inr k)), fun h h' => hW (h.resolve_left (by decide)) (fun k => h' (.inr k)), fun h h' => hLit (h.resolve_left (by decide)) (fun k => h' (.inr k))⟩
              | 5, ho =>
                cases Option.some.inj ho
                have ev : a.tmps[45]?.getD undef = .pointer (some ⟨wr.heap.size, 2, none⟩) := by rw [ha, e4 (hd ⟨4, .data⟩ (by simp) rfl)]; kernel_rfl
                have hb := hB.resolve_left (fun h => (fun h => (fun h => (fun h => hn (hcl 6 _ rfl h ⟨5, .data⟩ (by simp) rfl)) (hcl 10 _ rfl h ⟨6, .data⟩ (by simp) rfl)) (hcl 11 _ rfl h ⟨10, .data⟩ (by simp) rfl)) (hcl 12 _ rfl h ⟨11, .data⟩ (by simp) rfl))
                have z2 := (hb.cell (p := ⟨wr.heap.size, 2, none⟩) htl5).trans y2
                refine wp_value (w' := w') (v := .slice (Tm.ra x) (Tm.rn x) (Tm.rc x)) (by simp [execOp, ev, go_sem, z2]) ?_
                exact ⟨v41, v42, v43, v44, v45, (.slice (Tm.ra x) (Tm.rn x) (Tm.rc x)), v47, v48, v49, v50, v51, v52, v53, v3, ra1, rn1, rc1, wa1, wn1, wc1, nb, a8, n8, c8, by rw [ha]; kernel_rfl, o3.imp_left .inr, hB.imp_left .inr, fun h => e0 (h.resolve_left (by decide)), fun h => e1 (h.resolve_left (by decide)), fun h => e2 (h.resolve_left (by decide)), fun h => e3 (h.resolve_left (by decide)), fun h => e4 (h.resolve_left (by decide)), fun _ => rfl, fun h => e6 (h.resolve_left (by decide)), fun h => e7 (h.resolve_left (by decide)), fun h => e8 (h.resolve_left (by decide)), fun h => e9 (h.resolve_left (by decide)), fun h => e10 (h.resolve_left (by decide)), fun h => e11 (h.resolve_left (by decide)), fun h => e12 (h.resolve_left (by decide)), fun h => e13 (h.resolve_left (by decide)), fun h => hA (h.resolve_left (by decide)), fun h h' => hR (h.resolve_left (by decide)) (fun k => h' (.inr k)), fun h h' => hW (h.resolve_left (by decide)) (fun k => h' (.inr k)), fun h h' => hLit (h.resolve_left (by decide)) (fun k => h' (.inr k))⟩
              | 6, ho =>
                cases Option.some.inj ho
                have ev : a.tmps[46]?.getD undef = .slice (Tm.ra x) (Tm.rn x) (Tm.rc x) := by rw [ha, e5 (hd ⟨5, .data⟩ (by simp) rfl)]; kernel_rfl
                have hb := hB.resolve_left (fun h => (fun h => (fun h => hn (hcl 10 _ rfl h ⟨6, .data⟩ (by simp) rfl)) (hcl 11 _ rfl h ⟨10, .data⟩ (by simp) rfl)) (hcl 12 _ rfl h ⟨11, .data⟩ (by simp) rfl))
                refine wp_enter (f := 33) (args := #[.slice (Tm.ra x) (Tm.rn x) (Tm.rc x)]) (by simp [execOp, ev, go_sem]) ?_
                refine (clone_any (hxi.r.1.below hb) hxr).mono ?_
                rintro e w6 ⟨ra', rn', rc', rfl, O6, B6⟩
                refine ⟨_, rfl, ?_⟩
                exact ⟨v41, v42, v43, v44, v45, v46, (.slice ra' rn' rc'), v48, v49, v50, v51, v52, v53, v3, ra', rn', rc', wa1, wn1, wc1, nb, a8, n8, c8, by rw [ha]; kernel_rfl, o3.imp_left .inr, hB.imp .inr (fun h => below_size h h.size B6), fun h => e0 (h.resolve_left (by decide)), fun h => e1 (h.resolve_left (by decide)), fun h => e2 (h.resolve_left (by decide)), fun h => e3 (h.resolve_left (by decide)), fun h => e4 (h.resolve_left (by decide)), fun h => e5 (h.resolve_left (by decide)), fun _ => rfl, fun h => e7 (h.resolve_left (by decide)), fun h => e8 (h.resolve_left (by decide)), fun h => e9 (h.resolve_left (by decide)), fun h => absurd (h.resolve_left (by decide)) (fun h => hn (hcl 10 _ rfl h ⟨6, .data⟩ (by simp) rfl)), fun h => e11 (h.resolve_left (by decide)), fun h => e12 (h.resolve_left (by decide)), fun h => e13 (h.resolve_left (by decide)), fun h => absurd (h.resolve_left (by decide)) (fun h => (fun h => (fun h => hn (hcl 10 _ rfl h ⟨6, .data⟩ (by simp) rfl)) (hcl 11 _ rfl h ⟨10, .data⟩ (by simp) rfl)) (hcl 12 _ rfl h ⟨11, .data⟩ (by simp) rfl)), fun _ _ => O6.low hb.size, fun h h' => (hW (h.resolve_left (by decide)) (fun e => h' (.inr e))).below B6, fun h _ => absurd (h.resolve_left (by decide)) (fun h => (fun h => hn (hcl 10 _ rfl h ⟨6, .data⟩ (by simp) rfl)) (hcl 11 _ rfl h ⟨10, .data⟩ (by simp) rfl))⟩
              | 7, ho =>
                cases Option.some.inj ho
                have ev : a.tmps[7]?.getD undef = .pointer (some ⟨wr.heap.size, 0, none⟩) := by rw [ha]; kernel_rfl
                refine wp_value (w' := w') (v := .pointer (some ⟨wr.heap.size, 3, none⟩)) (by simp [execOp, ev, go_sem]) ?_
                exact ⟨v41, v42, v43, v44, v45, v46, v47, (.pointer (some ⟨wr.heap.size, 3, none⟩)), v49, v50, v51, v52, v53, v3, ra1, rn1, rc1, wa1, wn1, wc1, nb, a8, n8, c8, by rw [ha]; kernel_rfl, o3.imp_left .inr, hB.imp_left .inr, fun h => e0 (h.resolve_left (by decide)), fun h => e1 (h.resolve_left (by decide)), fun h => e2 (h.resolve_left (by decide)), fun h => e3 (h.resolve_left (by decide)), fun h => e4 (h.resolve_left (by decide)), fun h => e5 (h.resolve_left (by decide)), fun h => e6 (h.resolve_left (by decide)), fun _ => rfl, fun h => e8 (h.resolve_left (by decide)), fun h => e9 (h.resolve_left (by decide)), fun h => e10 (h.resolve_left (by decide)), fun h => e11 (h.resolve_left (by decide)), fun h => e12 (h.resolve_left (by decide)), fun h => e13 (h.resolve_left (by decide)), fun h => hA (h.resolve_left (by decide)), fun h h' => hR (h.resolve_left (by decide)) (fun k => h' (.inr k)), fun h h' => hW (h.resolve_left (by decide)) (fun k => h' (.inr k)), fun h h' => hLit (h.resolve_left (by decide)) (fun k => h' (.inr k))⟩
              | 8, ho =>
                cases Option.some.inj ho
                have ev : a.tmps[48]?.getD undef = .pointer (some ⟨wr.heap.size, 3, none⟩) := by rw [ha, e7 (hd ⟨7, .data⟩ (by simp) rfl)]; kernel_rfl
                have hb := hB.resolve_left (fun h => (fun h => (fun h => (fun h => hn (hcl 9 _ rfl h ⟨8, .data⟩ (by simp) rfl)) (hcl 10 _ rfl h ⟨9, .data⟩ (by simp) rfl)) (hcl 11 _ rfl h ⟨10, .data⟩ (by simp) rfl)) (hcl 12 _ rfl h ⟨11, .data⟩ (by simp) rfl))
                have z3 := (hb.cell (p := ⟨wr.heap.size, 3, none⟩) htl5).trans y3
                refine wp_value (w' := w') (v := .slice (Tm.wa x) (Tm.wn x) (Tm.wc x)) (by simp [execOp, ev, go_sem, z3]) ?_
                exact ⟨v41, v42, v43, v44, v45, v46, v47, v48, (.slice (Tm.wa x) (Tm.wn x) (Tm.wc x)), v50, v51, v52, v53, v3, ra1, rn1, rc1, wa1, wn1, wc1, nb, a8, n8, c8, by rw [ha]; kernel_rfl, o3.imp_left .inr, hB.imp_left .inr, fun h => e0 (h.resolve_left (by decide)), fun h => e1 (h.resolve_left (by decide)), fun h => e2 (h.resolve_left (by decide)), fun h => e3 (h.resolve_left (by decide)), fun h => e4 (h.resolve_left (by decide)), fun h => e5 (h.resolve_left (by decide)), fun h => e6 (h.resolve_left (by decide)), fun h => e7 (h.resolve_left (by decide)), fun _ => rfl, fun h => e9 (h.resolve_left (by decide)), fun h => e10 (h.resolve_left (by decide)), fun h => e11 (h.resolve_left (by decide)), fun h => e12 (h.resolve_left (by decide)), fun h => e13 (h.resolve_left (by decide)), fun h => hA (h.resolve_left (by decide)), fun h h' => hR (h.resolve_left (by decide)) (fun k => h' (.inr k)), fun h h' => hW (h.resolve_left (by decide)) (fun k => h' (.inr k)), fun h h' => hLit (h.resolve_left (by decide)) (fun k => h' (.inr k))⟩
              | 9, ho =>
                cases Option.some.inj ho
                have ev : a.tmps[49]?.getD undef = .slice (Tm.wa x) (Tm.wn x) (Tm.wc x) := by rw [ha, e8 (hd ⟨8, .data⟩ (by simp) rfl)]; kernel_rfl
                have hb := hB.resolve_left (fun h => (fun h => (fun h => hn (hcl 10 _ rfl h ⟨9, .data⟩ (by simp) rfl)) (hcl 11 _ rfl h ⟨10, .data⟩ (by simp) rfl)) (hcl 12 _ rfl h ⟨11, .data⟩ (by simp) rfl))
                refine wp_enter (f := 33) (args := #[.slice (Tm.wa x) (Tm.wn x) (Tm.wc x)]) (by simp [execOp, ev, go_sem]) ?_
                refine (clone_any (hxi.w.1.below hb) hxw).mono ?_
                rintro e w6 ⟨wa', wn', wc', rfl, O6, B6⟩
                refine ⟨_, rfl, ?_⟩
                exact ⟨v41, v42, v43, v44, v45, v46, v47, v48, v49, (.slice wa' wn' wc'), v51, v52, v53, v3, ra1, rn1, rc1, wa', wn', wc', nb, a8, n8, c8, by rw [ha]; kernel_rfl, o3.imp_left .inr, hB.imp .inr (fun h => below_size h h.size B6), fun h => e0 (h.resolve_left (by decide)), fun h => e1 (h.resolve_left (by decide)), fun h => e2 (h.resolve_left (by decide)), fun h => e3 (h.resolve_left (by decide)), fun h => e4 (h.resolve_left (by decide)), fun h => e5 (h.resolve_left (by decide)), fun h => e6 (h.resolve_left (by decide)), fun h => e7 (h.resolve_left (by decide)), fun h => e8 (h.resolve_left (by decide)), fun _ => rfl, fun h => absurd (h.resolve_left (by decide)) (fun h => hn (hcl 10 _ rfl h ⟨9, .data⟩ (by simp) rfl)), fun h => e11 (h.resolve_left (by decide)), fun h => e12 (h.resolve_left (by decide)), fun h => e13 (h.resolve_left (by decide)), fun h => absurd (h.resolve_left (by decide)) (fun h => (fun h => (fun h => hn (hcl 10 _ rfl h ⟨9, .data⟩ (by simp) rfl)) (hcl 11 _ rfl h ⟨10, .data⟩ (by simp) rfl)) (hcl 12 _ rfl h ⟨11, .data⟩ (by simp) rfl)), fun h h' => (hR (h.resolve_left (by decide)) (fun e => h' (.inr e))).below B6, fun _ _ => O6.low hb.size, fun h _ => absurd (h.resolve_left (by decide)) (fun h => (fun h => hn (hcl 10 _ rfl h ⟨9, .data⟩ (by simp) rfl)) (hcl 11 _ rfl h ⟨10, .data⟩ (by simp) rfl))⟩
              | 10, ho =>
                cases Option.some.inj ho
                have ev : a.tmps[43]?.getD undef = .int .i64 (Tm.base x) := by rw [ha, e2 (hd ⟨2, .data⟩ (by simp) rfl)]; kernel_rfl
                have ev' : a.tmps[44]?.getD undef = .int .i64 C := by rw [ha, e3 (hd ⟨3, .data⟩ (by simp) rfl)]; kernel_rfl
                have ev'' : a.tmps[47]?.getD undef = .slice ra1 rn1 rc1 := by rw [ha, e6 (hd ⟨6, .data⟩ (by simp) rfl)]; kernel_rfl
                have ev''' : a.tmps[50]?.getD undef = .slice wa1 wn1 wc1 := by rw [ha, e9 (hd ⟨9, .data⟩ (by simp) rfl)]; kernel_rfl
                refine wp_value (w' := w') (v := .agg #[.int .i64 (Tm.base x), .int .i64 C, .slice ra1 rn1 rc1, .slice wa1 wn1 wc1]) (by simp [execOp, ev, ev', ev'', ev''', go_sem]) ?_
                exact ⟨v41, v42, v43, v44, v45, v46, v47, v48, v49, v50, (.agg #[.int .i64 (Tm.base x), .int .i64 C, .slice ra1 rn1 rc1, .slice wa1 wn1 wc1]), v52, v53, v3, ra1, rn1, rc1, wa1, wn1, wc1, nb, a8, n8, c8, by rw [ha]; kernel_rfl, o3.imp_left .inr, hB.imp_left .inr, fun h => e0 (h.resolve_left (by decide)), fun h => e1 (h.resolve_left (by decide)), fun h => e2 (h.resolve_left (by decide)), fun h => e3 (h.resolve_left (by decide)), fun h => e4 (h.resolve_left (by decide)), fun h => e5 (h.resolve_left (by decide)), fun h => e6 (h.resolve_left (by decide)), fun h => e7 (h.resolve_left (by decide)), fun h => e8 (h.resolve_left (by decide)), fun h => e9 (h.resolve_left (by decide)), fun _ => rfl, fun h => e11 (h.resolve_left (by decide)), fun h => e12 (h.resolve_left (by decide)), fun h => e13 (h.resolve_left (by decide)), fun h => hA (h.resolve_left (by decide)), fun h h' => hR (h.resolve_left (by decide)) (fun k => h' (.inr k)), fun h h' => hW (h.resolve_left (by decide)) (fun k => h' (.inr k)), fun h h' => hLit (h.resolve_left (by decide)) (fun k => h' (.inr k))⟩
              | 11, ho =>
                cases Option.some.inj ho
                have ev : a.tmps[51]?.getD undef = .agg #[.int .i64 (Tm.base x), .int .i64 C, .slice ra1 rn1 rc1, .slice wa1 wn1 wc1] := by rw [ha, e10 (hd ⟨10, .data⟩ (by simp) rfl)]; kernel_rfl
                refine wp_value (w' := w'.alloc (.cells #[.int .i64 x.base, .int .i64 C, .slice ra1 rn1 rc1, .slice wa1 wn1 wc1] 31)) (v := .slice (some ⟨w'.heap.size, 0, none⟩) 1 1) (by simp [execOp, ev, go_sem]) ?_
                exact ⟨v41, v42, v43, v44, v45, v46, v47, v48, v49, v50, v51, (.slice (some ⟨w'.heap.size, 0, none⟩) 1 1), v53, v3, ra1, rn1, rc1, wa1, wn1, wc1, w'.heap.size, a8, n8, c8, by rw [ha]; kernel_rfl, o3.imp_left .inr, hB.imp .inr (fun h => below_size h h.size box_below), fun h => e0 (h.resolve_left (by decide)), fun h => e1 (h.resolve_left (by decide)), fun h => e2 (h.resolve_left (by decide)), fun h => e3 (h.resolve_left (by decide)), fun h => e4 (h.resolve_left (by decide)), fun h => e5 (h.resolve_left (by decide)), fun h => e6 (h.resolve_left (by decide)), fun h => e7 (h.resolve_left (by decide)), fun h => e8 (h.resolve_left (by decide)), fun h => e9 (h.resolve_left (by decide)), fun h => e10 (h.resolve_left (by decide)), fun _ => rfl, fun h => absurd (h.resolve_left (by decide)) (fun h => hn (hcl 12 _ rfl h ⟨11, .data⟩ (by simp) rfl)), fun h => absurd (h.resolve_left (by decide)) (fun h => (fun h => hn (hcl 12 _ rfl h ⟨11, .data⟩ (by simp) rfl)) (hcl 13 _ rfl h ⟨12, .data⟩ (by simp) rfl)), fun h => absurd (h.resolve_left (by decide)) (fun h => hn (hcl 12 _ rfl h ⟨11, .data⟩ (by simp) rfl)), fun h h' => (hR (h.resolve_left (by decide)) (fun e => h' (.inr e))).below box_below, fun h h' => (hW (h.resolve_left (by decide)) (fun e => h' (.inr e))).below box_below, fun _ _ => lit_cells (m := ⟨x.base, C, ra1, rn1, rc1, wa1, wn1, wc1, x.rs, x.ws⟩)⟩
              | 12, ho =>
                cases Option.some.inj ho
                have ev : a.tmps[41]?.getD undef = .slice oa on oc := by rw [ha, e0 (hd ⟨0, .data⟩ (by simp) rfl)]; kernel_rfl
                have ev' : a.tmps[52]?.getD undef = .slice (some ⟨nb, 0, none⟩) 1 1 := by rw [ha, e11 (hd ⟨11, .data⟩ (by simp) rfl)]; kernel_rfl
                have hb := hB.resolve_left hn
                have hL := hLit (hd ⟨11, .data⟩ (by simp) rfl) hn
                refine app_row_op Try.underlying26 Try.info31 w' (.tmp 41) (.tmp 52) rfl w.heap.size _ _ (by simpa [Act.eval] using ev) (own_below hrow hb) nb ⟨x.base, C, ra1, rn1, rc1, wa1, wn1, wc1, x.rs, x.ws⟩ (by simpa [Act.eval] using ev') hL hlen (Nat.le_trans hN5 hb.size) ?_
                intro a8' n8' c8' w6 O6 G6
                exact ⟨v41, v42, v43, v44, v45, v46, v47, v48, v49, v50, v51, v52, (.slice a8' n8' c8'), v3, ra1, rn1, rc1, wa1, wn1, wc1, nb, a8', n8', c8', by rw [ha]; kernel_rfl, o3.imp_left .inr, .inl (.inl rfl), fun h => e0 (h.resolve_left (by decide)), fun h => e1 (h.resolve_left (by decide)), fun h => e2 (h.resolve_left (by decide)), fun h => e3 (h.resolve_left (by decide)), fun h => e4 (h.resolve_left (by decide)), fun h => e5 (h.resolve_left (by decide)), fun h => e6 (h.resolve_left (by decide)), fun h => e7 (h.resolve_left (by decide)), fun h => e8 (h.resolve_left (by decide)), fun h => e9 (h.resolve_left (by decide)), fun h => e10 (h.resolve_left (by decide)), fun h => e11 (h.resolve_left (by decide)), fun _ => rfl, fun h => absurd (h.resolve_left (by decide)) (fun h => hn (hcl 13 _ rfl h ⟨12, .data⟩ (by simp) rfl)), fun _ => ⟨w', hb, G6, O6, hR (hcl 10 _ rfl (hcl 11 _ rfl (hd ⟨11, .data⟩ (by simp) rfl) ⟨10, .data⟩ (by simp) rfl) ⟨6, .data⟩ (by simp) rfl) hn, hW (hcl 10 _ rfl (hcl 11 _ rfl (hd ⟨11, .data⟩ (by simp) rfl) ⟨10, .data⟩ (by simp) rfl) ⟨9, .data⟩ (by simp) rfl) hn⟩, fun _ h' => absurd (.inl rfl) h', fun _ h' => absurd (.inl rfl) h', fun _ h' => absurd (.inl rfl) h'⟩
              | 13, ho =>
                cases Option.some.inj ho
                have ev : a.tmps[53]?.getD undef = .slice a8 n8 c8 := by rw [ha, e12 (hd ⟨12, .data⟩ (by simp) rfl)]; kernel_rfl
                refine wp_value (w' := w') (v := .slice a8 n8 c8) (by simp [execOp, ev, go_sem]) ?_
                exact ⟨v41, v42, v43, v44, v45, v46, v47, v48, v49, v50, v51, v52, v53, (.slice a8 n8 c8), ra1, rn1, rc1, wa1, wn1, wc1, nb, a8, n8, c8, by rw [ha]; kernel_rfl, .inl (.inl rfl), hB.imp_left .inr, fun h => e0 (h.resolve_left (by decide)), fun h => e1 (h.resolve_left (by decide)), fun h => e2 (h.resolve_left (by decide)), fun h => e3 (h.resolve_left (by decide)), fun h => e4 (h.resolve_left (by decide)), fun h => e5 (h.resolve_left (by decide)), fun h => e6 (h.resolve_left (by decide)), fun h => e7 (h.resolve_left (by decide)), fun h => e8 (h.resolve_left (by decide)), fun h => e9 (h.resolve_left (by decide)), fun h => e10 (h.resolve_left (by decide)), fun h => e11 (h.resolve_left (by decide)), fun h => e12 (h.resolve_left (by decide)), fun _ => rfl, fun h => hA (h.resolve_left (by decide)), fun h h' => hR (h.resolve_left (by decide)) (fun k => h' (.inr k)), fun h h' => hW (h.resolve_left (by decide)) (fun k => h' (.inr k)), fun h h' => hLit (h.resolve_left (by decide)) (fun k => h' (.inr k))⟩
              | i + 14, ho => simp at ho
            case done =>
              rintro D a w' ⟨v41, v42, v43, v44, v45, v46, v47, v48, v49, v50, v51, v52, v53, v3, ra1, rn1, rc1, wa1, wn1, wc1, nb, a8, n8, c8, ha, o3, hB, e0, e1, e2, e3, e4, e5, e6, e7, e8, e9, e10, e11, e12, e13, hA, hR, hW, hLit⟩ hall
              obtain rfl := e0 (hall 0 (by decide))
              obtain rfl := e1 (hall 1 (by decide))
              obtain rfl := e2 (hall 2 (by decide))
              obtain rfl := e3 (hall 3 (by decide))
              obtain rfl := e4 (hall 4 (by decide))
              obtain rfl := e5 (hall 5 (by decide))
              obtain rfl := e6 (hall 6 (by decide))
              obtain rfl := e7 (hall 7 (by decide))
              obtain rfl := e8 (hall 8 (by decide))
              obtain rfl := e9 (hall 9 (by decide))
              obtain rfl := e10 (hall 10 (by decide))
              obtain rfl := e11 (hall 11 (by decide))
              obtain rfl := e12 (hall 12 (by decide))
              obtain rfl := e13 (hall 13 (by decide))
              obtain ⟨wp, Bp, G9, O9, PR, PW⟩ := hA (hall 12 (by decide))
              clear hLit hA hR hW hB o3 hall e0 e1 e2 e3 e4 e5 e6 e7 e8 e9 e10 e11 e12 e13
              rw [ha]
              clear ha
              simp only [Act.put, List.setIfInBounds_toArray, List.set_cons_zero, List.set_cons_succ]
              have I6 := (J5.below Bp).push (y := ⟨x.base, C, ra1, rn1, rc1, wa1, wn1, wc1, x.rs, x.ws⟩) G9 O9 PR PW hN5 (fun b hb => (J5.low b hb).2) hx0.b64 hC64
              have hnx := hal2 ⟨x.base, C, ra1, rn1, rc1, wa1, wn1, wc1, x.rs, x.ws⟩ rfl
              have hso2 : SortC (K ++ [(⟨x.base, C, ra1, rn1, rc1, wa1, wn1, wc1, x.rs, x.ws⟩ : Tm)]) := sortC_snocA hso hCl
              have hs7 : Short (K ++ [(⟨x.base, C, ra1, rn1, rc1, wa1, wn1, wc1, x.rs, x.ws⟩ : Tm)]) := fun z hz => by
                rcases List.mem_append.1 hz with hz | hz
                · exact hsK z hz
                · rw [List.mem_singleton] at hz
                  subst hz
                  have q1 := PR.isI.size
                  have q2 := PW.isI.size
                  have q3 := hx0.r.1.size
                  have q4 := hx0.w.1.size
                  show rn1 ≤ 1048576 ∧ wn1 ≤ 1048576
                  omega
              have B9 : Below w.heap.size w w' := B6.trans ((Bp.mono hN5).trans ((Below.refl _ _).grown G9 (Nat.le_trans hN5 Bp.size) (fun j hj => ((own_below hrow Bp).lt j hj).1)))
              rw [← wrF_snoc K ⟨x.base, C, ra1, rn1, rc1, wa1, wn1, wc1, x.rs, x.ws⟩] at I6
              clear G9 O9 PR PW Bp J5 y0 y1 y2 y3 hrow
              go_wp2
              go_roundw
              case rel => exact ⟨k + 1, S5, _, C, by omega, by go_num, rfl, I6, hnx, hso2, hs7, B9⟩
              case measure => simp [intOf]; omega
    · have hge : ¬ (k : Int) < (dn : Int) := by omega
      have hfin := hal.fin (by rw [hsz.out]; omega)
      clear hal
      go_wp2
      go_ret
      exact ⟨oa, on, oc, K, rfl, ⟨I.row, fun z hz => (I.each z hz).st⟩, hfin, fun z hz => (I.each z hz).w, hsK, B⟩
end Go.Proofs.Ytigmpmichhghdaa
