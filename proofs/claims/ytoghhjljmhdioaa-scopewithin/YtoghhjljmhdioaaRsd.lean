/- A unit is gone through. -/
import Derived.Test.YtoghhjljmhdioaaPrc
namespace Go.Proofs.Ytoghhjljmhdioaa
open Go.RowKit
set_option maxRecDepth 100000
theorem bx63 {ops : Array Oper} {rest : List Oper} {o : Oper} {a : Act} {Q : Exit → Act → World → Prop} (w : World) (hgd : o.guard = none) (x : Operand) (ho : o.op = .box 63 x) (k : Int) (s : ByteArray) (p n : Int) (na : Option Addr) (nl nc : Nat) (ka : Option Addr) (kl kc : Nat) (q : Option Nat) (hx : a.eval x = .agg #[.int .i64 k, .string s, .int .i64 p, .int .i64 n, .slice na nl nc, .slice ka kl kc, ptrO q])
    (h : ∀ g w', w'.heap[g]? = some (.cells #[.int .i64 k, .string s, .int .i64 p, .int .i64 n, .slice na nl nc, .slice ka kl kc, ptrO q] 63) → w.heap.size ≤ g → g < w'.heap.size → Below w.heap.size w w' → wpList Try.prog ops Q rest (a.put o.dst (.pointer (some ⟨g, 0, none⟩))) w') : wpList Try.prog ops Q (o :: rest) a w :=
  wpList_plain hgd fun _ hK => by
    unfold Oper.wp execOp
    simp only [ho, hx]
    simp [go_sem]
    exact hK _ _ (h w.heap.size _ (newO w _) (Nat.le_refl _) (lt_of_block (newO w _)) boxO)
theorem bd63 {ops : Array Oper} {rest : List Oper} {o : Oper} {a : Act} {Q : Exit → Act → World → Prop} (w : World) (hgd : o.guard = none) (x y : Nat) (ho : o.op = .build 63 #[(0, .tmp x), (1, .tmp y)]) (k : Int) (s : ByteArray) (p n : Int) (na : Option Addr) (nl nc : Nat) (ka : Option Addr) (kl kc : Nat) (q : Option Nat) (hx : a.tmps[x]?.getD undef = .agg #[.int .i64 k, .string s, .int .i64 p, .int .i64 n, .slice na nl nc, .slice ka kl kc]) (hy : a.tmps[y]?.getD undef = ptrO q)
    (h : wpList Try.prog ops Q rest (a.put o.dst (.agg #[.int .i64 k, .string s, .int .i64 p, .int .i64 n, .slice na nl nc, .slice ka kl kc, ptrO q])) w) : wpList Try.prog ops Q (o :: rest) a w :=
  wpList_plain hgd fun _ hK => by
    unfold Oper.wp execOp
    cases q with
    | none =>
      have e : ptrO none = Value.pointer none := rfl
      rw [e] at hy h
      simp [ho, go_sem, hx, hy]
      exact hK _ _ h
    | some q =>
      have e : ptrO (some q) = Value.pointer (some ⟨q, 0, none⟩) := rfl
      rw [e] at hy h
      simp [ho, go_sem, hx, hy]
      exact hK _ _ h
set_option maxHeartbeats 8000000 in
theorem unit_any {x : Nd} (ih : PartsC x.kids) : UnitC x := by
  intro B Z p sa sc sl w us f h hs E q C hE hb hl hus v hv
  obtain ⟨na, nc, ka, kc, fl, rfl, s1, s2, hk, b1, b2, b3⟩ := hv.parts
  have hpl := h.plt
  go_enter Try.func14, Try.ntmps14
  go_wp2_with (refine bx25 _ rfl _ rfl _ _ _ _ _ _ _ _ _ _ rfl ?_)
  intro n w1 E1 hn B1
  obtain ⟨z0, z1, z2, z3, z4, z5, _⟩ := nd_cells E1
  go_wp2_with (first | refine bd63 _ rfl _ _ rfl _ _ _ _ _ _ _ _ _ _ q rfl rfl ?_ | refine bx63 _ rfl _ rfl _ _ _ _ _ _ _ _ _ _ q rfl ?_)
  intro g w2 Eg hg hg' B2
  have B02 : Below w.heap.size w w2 := B1.trans (B2.mono B1.size)
  have hgw : w.heap.size ≤ g := Nat.le_trans B1.size hg
  have h2 : Wk B (fun b => Z b ∨ b = g) p sa sc sl w2 us f := h.more B02 hgw hg'
  clear z0 z1 z2 z3 z4 z5 E1 B1 B2 hn hg
  have imp : ∀ b, b < w.heap.size → Z b → (Z b ∨ b = g) ∧ w2.heap[b]? = w.heap[b]? := fun b hb hA => ⟨.inl hA, B02.block b hb⟩
  have t1 := s1.imp imp
  have t2 := s2.imp imp
  have tk := KsF.imp imp _ _ hk
  have tC := C.imp imp
  have CC : Chn (fun b => Z b ∨ b = g) w2 ((x.names, x.n) :: E) (some g) := ⟨g, rfl, .inr rfl, _, _, _, _, na, nc, q, Eg, t1, tC⟩
  go_wp2_with fail
  refine (sound_any g x.names w2 Eg t1 hb.namesOf).mono ?_
  rintro e w3 ⟨rfl, B3⟩
  have h3 := h2.bel B3
  have Eg3 := (B3.block g hg').trans Eg
  have CC3 := CC.below B3
  have imp3 : ∀ b, b < w2.heap.size → (Z b ∨ b = g) → (Z b ∨ b = g) ∧ w3.heap[b]? = w2.heap[b]? := fun b hb hA => ⟨hA, B3.block b hb⟩
  have u2 := t2.imp imp3
  have uk := KsF.imp imp3 _ _ tk
  have B03 : Below w.heap.size w w3 := B02.trans (B3.mono B02.size)
  have hcn := cntN_kids x
  have hall : ∀ y ∈ (x.names, x.n) :: E, BytL y.1 := fun y hy => (List.mem_cons.1 hy).elim (fun e => e ▸ hb.namesOf) (hE y)
  clear Eg CC t1 t2 tk tC imp imp3 h2 B3 B02
  obtain ⟨z0, z1, z2, z3, z4, z5, z6, _⟩ := un_cells Eg3
  cases hsn : sndR x.names with
  | false =>
    have hv : untR sl E x = .error x.pos := by unfold untR; rw [hsn]; rfl
    clear hsn
    go_wp2_with fail
    refine (fail_any h3 x.pos).mono ?_
    rintro e w4 ⟨rfl, h4, K4⟩
    go_wp2
    go_ret
    have K4' : Kw Z w3 w4 := K4.mono fun b hb => .inl hb
    have K04 := (Kw.of_below B03).trans K4'
    exact ⟨K04, by first | exact ⟨rfl, us, h4.less (fun b hb => .inl hb) (h.slots.kw K04)⟩ | (rw [hv]; exact ⟨rfl, us, h4.less (fun b hb => .inl hb) (h.slots.kw K04)⟩)⟩
  | true =>
    have hv : untR sl E x = prsR sl ((x.names, x.n) :: E) false x.kids := by unfold untR; rw [hsn]; rfl
    clear hsn
    go_wp2_with fail
    refine (ih h3 hs ((x.names, x.n) :: E) (some g) CC3 hall hb.kidsOf (by rw [List.length_cons]; omega) (by omega) ka kc fl u2 uk b2 false).mono ?_
    rintro e w4 ⟨K4, hm⟩
    have K4' : Kw Z w3 w4 := K4.mono fun b hb => .inl hb
    have K04 := (Kw.of_below B03).trans K4'
    cases hr : prsR sl ((x.names, x.n) :: E) false x.kids with
    | error pp =>
      rw [hr] at hm hv
      obtain ⟨rfl, us', h4⟩ := hm
      have hv2 := hv
      clear hr hv
      go_wp2
      go_ret
      exact ⟨K04, by first | exact ⟨rfl, us', h4.less (fun b hb => .inl hb) (h.slots.kw K04)⟩ | (rw [hv2]; exact ⟨rfl, us', h4.less (fun b hb => .inl hb) (h.slots.kw K04)⟩)⟩
    | ok l =>
      rw [hr] at hm hv
      obtain ⟨rfl, h4⟩ := hm
      have hv2 := hv
      clear hr hv
      go_wp2
      go_ret
      exact ⟨K04, by first | exact ⟨rfl, h4.less (fun b hb => .inl hb) (h.slots.kw K04)⟩ | (rw [hv2]; exact ⟨rfl, h4.less (fun b hb => .inl hb) (h.slots.kw K04)⟩)⟩
end Go.Proofs.Ytoghhjljmhdioaa
namespace Go.Proofs.Ytoghhjljmhdioaa
open Go.RowKit
set_option maxRecDepth 100000
set_option maxHeartbeats 8000000 in
theorem parts_any {l : List Nd} (ih : ∀ x ∈ l, PartC x) : PartsC l := by
  intro B Z p sa sc sl w us f h hs E q C hE hb hl hus ka kc fl s hk b2 rc
  go_enter Try.func22, Try.ntmps22
  go_wp2_with fail
  go_loopw [13] (fun iv wr => ∃ (i : Nat) (u1 : List Us), i ≤ l.length ∧ iv = .int .i64 (i : Int) ∧ Wk B Z p sa sc sl wr (us ++ u1) f ∧ Kw Z w wr ∧ u1.length ≤ cntL (l.take i) ∧ Hid (prsR sl E rc l = (prsR sl E (rc && decide (i = 0)) (l.drop i)).bind fun b => .ok (u1 ++ b))) (fun iv _ => l.length - (intOf iv).toNat)
  case atStart => exact ⟨0, [], Nat.zero_le _, rfl, by rw [List.append_nil]; exact h, Kw.refl _ _, Nat.zero_le _, step_start⟩
  case round =>
    obtain ⟨i, u1, hi0, rfl, hW, KR, hu1, hq⟩ := hrel
    by_cases hi : i < l.length
    · obtain ⟨x, hget⟩ : ∃ x, l[i]? = some x := ⟨_, List.getElem?_eq_getElem hi⟩
      have hxm : x ∈ l := List.mem_of_getElem? hget
      have hdr : l.drop i = x :: l.drop (i + 1) := by
        rw [List.drop_eq_getElem_cons hi]
        rw [List.getElem?_eq_getElem hi] at hget
        cases hget
        rfl
      obtain ⟨v0, v1, v2, v3, v4, v5, hx, c0, c1, c2, c3, c4, c5⟩ := KsF.at_ i x (hk.kw KR) hget
      have hfl := (hk.kw KR).len
      obtain ⟨b1, o1, ena, hA1, hc1⟩ := (s.kw KR).cells (by omega)
      have d0 := hc1 _ _ c0
      have d1 := hc1 _ _ c1
      have d2 := hc1 _ _ c2
      have d3 := hc1 _ _ c3
      have d4 := hc1 _ _ c4
      have d5 := hc1 _ _ c5
      rw [← Nat.add_assoc] at d1 d2 d3 d4 d5
      obtain ⟨na, nc, ka', kc', gl, ev, _⟩ := hx.parts
      simp only [Value.agg.injEq, Array.mk.injEq, List.cons.injEq, and_true] at ev
      obtain ⟨rfl, rfl, rfl, rfl, rfl, rfl⟩ := ev
      subst ena
      have hii : (i : Int) < (l.length : Int) := by omega
      have hiz : (0 : Int) ≤ (i : Int) := by omega
      have hix : ((i : Int)).toNat = i := by omega
      have hbx : Byt x := hb x hxm
      have hcx := cntN_mem hxm
      have hct := cntL_drop l i
      have hcd : cntL (l.drop i) = cntN x + cntL (l.drop (i + 1)) := by rw [hdr]; rfl
      clear hc1 c0 c1 c2 c3 c4 c5 hfl
      go_wp2_with (refine al25 _ rfl rfl ?_)
      intro n w3 E3 hn B3
      go_wp2_with (refine st25 _ rfl _ _ rfl rfl _ _ _ _ _ _ _ _ _ _ _ rfl rfl E3 ?_)
      intro w4 E4 S4
      have B4 : Below wr.heap.size wr w4 := B3.trans (S4.below hn)
      have h4 := hW.bel B4
      have K4 := KR.trans (Kw.of_below B4)
      have C4 := C.kw K4
      have hx4 := hx.kw (Kw.of_below B4)
      obtain ⟨z0, z1, z2, z3, z4, z5, _⟩ := nd_cells E4
      clear d0 d1 d2 d3 d4 d5 E3 B3 S4 hx KR B4 hW
      have hlu : E.length + cntN x ≤ 1000000 := by omega
      have huu : (us ++ u1).length + cntN x ≤ 500000 := by rw [List.length_append]; omega
      cases rc with
      | false =>
        go_wp2_with fail
        refine (ih x hxm h4 hs E q C4 hE hbx hlu huu _ hx4 false).mono ?_
        rintro e w5 ⟨K5, hm⟩
        cases hr : prtR sl E false x with
        | error pp =>
          rw [hr] at hm
          obtain ⟨rfl, us', h5⟩ := hm
          have hv : prsR sl E false l = .error pp := step_er hdr hq (by rw [Bool.false_and]; exact hr)
          clear hr hq
          go_wp2
          go_ret
          exact ⟨K4.trans K5, by first | exact ⟨rfl, us', h5⟩ | (rw [hv]; exact ⟨rfl, us', h5⟩)⟩
        | ok a =>
          rw [hr] at hm
          obtain ⟨rfl, h5⟩ := hm
          have hq2 := step_ok (a := a) hdr hq (by rw [Bool.false_and]; exact hr)
          have hla := prtR_len x hr
          rw [List.append_assoc] at h5
          clear hr hq
          go_wp2
          go_roundw
          case rel => exact ⟨i + 1, u1 ++ a, hi, by go_num, h5, K4.trans K5, by rw [List.length_append]; have := cntL_drop l (i + 1); omega, hq2⟩
          case measure => simp [intOf]; omega
      | true =>
        cases i with
        | zero =>
          go_wp2_with fail
          refine (ih x hxm h4 hs E q C4 hE hbx hlu huu _ hx4 true).mono ?_
          rintro e w5 ⟨K5, hm⟩
          cases hr : prtR sl E true x with
          | error pp =>
            rw [hr] at hm
            obtain ⟨rfl, us', h5⟩ := hm
            have hv : prsR sl E true l = .error pp := step_er hdr hq (by rw [show (true && decide (0 = 0)) = true from rfl]; exact hr)
            clear hr hq
            go_wp2
            go_ret
            exact ⟨K4.trans K5, by first | exact ⟨rfl, us', h5⟩ | (rw [hv]; exact ⟨rfl, us', h5⟩)⟩
          | ok a =>
            rw [hr] at hm
            obtain ⟨rfl, h5⟩ := hm
            have hq2 := step_ok (a := a) hdr hq (by rw [show (true && decide (0 = 0)) = true from rfl]; exact hr)
            have hla := prtR_len x hr
            rw [List.append_assoc] at h5
            clear hr hq
            go_wp2
            go_roundw
            case rel => exact ⟨0 + 1, u1 ++ a, hi, by go_num, h5, K4.trans K5, by rw [List.length_append]; have := cntL_drop l (0 + 1); omega, hq2⟩
            case measure => simp [intOf]; omega
        | succ i =>
          have e0 : (((i + 1 : Nat) : Int) == 0) = false := by simp; omega
          go_wp2_with fail
          refine (ih x hxm h4 hs E q C4 hE hbx hlu huu _ hx4 false).mono ?_
          rintro e w5 ⟨K5, hm⟩
          cases hr : prtR sl E false x with
          | error pp =>
            rw [hr] at hm
            obtain ⟨rfl, us', h5⟩ := hm
            have hv : prsR sl E true l = .error pp := step_er hdr hq (by rw [show (true && decide (i + 1 = 0)) = false from rfl]; exact hr)
            clear hr hq
            go_wp2
            go_ret
            exact ⟨K4.trans K5, by first | exact ⟨rfl, us', h5⟩ | (rw [hv]; exact ⟨rfl, us', h5⟩)⟩
          | ok a =>
            rw [hr] at hm
            obtain ⟨rfl, h5⟩ := hm
            have hq2 := step_ok (a := a) hdr hq (by rw [show (true && decide (i + 1 = 0)) = false from rfl]; exact hr)
            have hla := prtR_len x hr
            rw [List.append_assoc] at h5
            clear hr hq
            go_wp2
            go_roundw
            case rel => exact ⟨i + 1 + 1, u1 ++ a, hi, by go_num, h5, K4.trans K5, by rw [List.length_append]; have := cntL_drop l (i + 1 + 1); omega, hq2⟩
            case measure => simp [intOf]; omega
    · have hii : ¬ (i : Int) < (l.length : Int) := by omega
      have hv : prsR sl E rc l = .ok u1 := step_end (by omega) hq
      go_wp2
      go_ret
      exact ⟨KR, by first | exact ⟨rfl, hW⟩ | (rw [hv]; exact ⟨rfl, hW⟩)⟩
end Go.Proofs.Ytoghhjljmhdioaa
namespace Go.Proofs.Ytoghhjljmhdioaa
open Go.RowKit
set_option maxRecDepth 100000
theorem prtR_5 {sl : List (List Int)} {E : Ev} {rc : Bool} {x : Nd} (h : x.kind = 5) : prtR sl E rc x = varR sl E rc x.text x.pos := by
  cases x
  exact (by unfold prtR; exact if_pos h)
theorem prtR_6 {sl : List (List Int)} {E : Ev} {rc : Bool} {x : Nd} (h : x.kind = 6) : prtR sl E rc x = (setR sl E x.text x.pos).bind fun a => (prsR sl E false x.kids).bind fun b => .ok (a ++ b) := by
  cases x with
  | mk k t p n l kids =>
    have h : k = 6 := h
    subst h
    unfold prtR
    rfl
theorem prtR_10 {sl : List (List Int)} {E : Ev} {rc : Bool} {x : Nd} (h : x.kind = 10) : prtR sl E rc x = untR sl E x := by
  cases x with
  | mk k t p n l kids =>
    have h : k = 10 := h
    subst h
    unfold prtR untR
    rfl
theorem prtR_else {sl : List (List Int)} {E : Ev} {rc : Bool} {x : Nd} (h5 : x.kind ≠ 5) (h6 : x.kind ≠ 6) (h10 : x.kind ≠ 10) : prtR sl E rc x = prsR sl E (decide (x.kind = 7) || decide (x.kind = 8)) x.kids := by
  cases x with
  | mk k t p n l kids =>
    have h5 : k ≠ 5 := h5
    have h6 : k ≠ 6 := h6
    have h10 : k ≠ 10 := h10
    unfold prtR
    rw [if_neg h5, if_neg h6, if_neg h10]
    rfl
set_option maxHeartbeats 8000000 in
theorem part_any {x : Nd} (ihk : PartsC x.kids) (ihu : UnitC x) : PartC x := by
  intro B Z p sa sc sl w us f h hs E q C hE hb hl hus v hv rc
  have hv0 := hv
  obtain ⟨na, nc, ka, kc, fl, rfl, s1, s2, hk, b1, b2, b3⟩ := hv.parts
  have hcn := cntN_kids x
  go_enter Try.func32, Try.ntmps32
  go_wp2_with (refine bx25 _ rfl _ rfl _ _ _ _ _ _ _ _ _ _ rfl ?_)
  intro n w1 E1 hn B1
  obtain ⟨z0, z1, z2, z3, z4, z5, _⟩ := nd_cells E1
  have h1 := h.bel B1
  have C1 := C.below B1
  have K1 : Kw Z w w1 := Kw.of_below B1
  have hv1 := hv0.kw K1
  have t2 := s2.kw K1
  have tk := hk.kw K1
  clear hv hv0
  by_cases k5 : x.kind = 5
  · have hr : prtR sl E rc x = varR sl E rc x.text x.pos := prtR_5 k5
    have e5 : (x.kind == 5) = true := by rw [k5]; rfl
    clear k5
    go_wp2_with fail
    refine (readU_any h1 hs E q C1 hE (by omega) (by omega) x.text x.pos x.kind x.n na x.names.length nc ka x.kids.length kc hb.textOf rc).mono ?_
    rintro e w2 ⟨K2, hm⟩
    cases hvr : varR sl E rc x.text x.pos with
    | error pp =>
      rw [hvr] at hm hr
      obtain ⟨rfl, us', h2⟩ := hm
      have hr2 : prtR sl E rc x = .error pp := hr
      clear hvr hr
      go_wp2
      go_ret
      exact ⟨K1.trans K2, by first | exact ⟨rfl, us', h2⟩ | (rw [hr2]; exact ⟨rfl, us', h2⟩)⟩
    | ok a =>
      rw [hvr] at hm hr
      obtain ⟨rfl, h2⟩ := hm
      have hr2 := hr
      clear hvr hr
      go_wp2
      go_ret
      exact ⟨K1.trans K2, by first | exact ⟨rfl, h2⟩ | (rw [hr2]; exact ⟨rfl, h2⟩)⟩
  have e5 : (x.kind == 5) = false := by simp [k5]
  by_cases k6 : x.kind = 6
  · have hr : prtR sl E rc x = (setR sl E x.text x.pos).bind fun a => (prsR sl E false x.kids).bind fun b => .ok (a ++ b) := prtR_6 k6
    have e6 : (x.kind == 6) = true := by rw [k6]; rfl
    clear k5 k6
    have hnl := lt_of_block E1
    have imp : ∀ b, b < w1.heap.size → Z b → (Z b ∨ b = n) ∧ w1.heap[b]? = w1.heap[b]? := fun b hb hA => ⟨.inl hA, rfl⟩
    have m1 : Wk B (fun b => Z b ∨ b = n) p sa sc sl w1 us f := h.more B1 hn hnl
    have C1' := C1.imp imp
    have t2' := t2.imp imp
    have tk' := KsF.imp imp _ _ tk
    clear imp h1 C1 t2 tk
    go_wp2_with fail
    refine (writeU_any m1 hs E q C1' hE (by omega) (by omega) x.text x.pos x.kind x.n na x.names.length nc ka x.kids.length kc hb.textOf).mono ?_
    rintro e w2 ⟨K2, hm⟩
    have K12 := K1.trans (K2.mono fun b hb => .inl hb)
    cases hvr : setR sl E x.text x.pos with
    | error pp =>
      rw [hvr] at hm hr
      obtain ⟨rfl, us', h2⟩ := hm
      have hr2 : prtR sl E rc x = .error pp := hr
      have h2' := h2.less (A := Z) (fun b hb => .inl hb) (h.slots.kw K12)
      clear hvr hr
      go_wp2
      go_ret
      exact ⟨K12, by first | exact ⟨rfl, us', h2'⟩ | (rw [hr2]; exact ⟨rfl, us', h2'⟩)⟩
    | ok a =>
      rw [hvr] at hm hr
      obtain ⟨rfl, h2⟩ := hm
      have hr1 : prtR sl E rc x = (prsR sl E false x.kids).bind fun b => .ok (a ++ b) := hr
      have hla := setR_len hvr
      have E2 := (K2.block n hnl (.inr rfl)).trans E1
      have C2 := C1'.kw K2
      have u2 := t2'.kw K2
      have uk := tk'.kw K2
      clear hvr hr z0 z1 z2 z3 z4 z5
      obtain ⟨z0, z1, z2, z3, z4, z5, _⟩ := nd_cells E2
      have hlen : (us ++ a).length + cntL x.kids ≤ 500000 := by rw [List.length_append]; omega
      go_wp2_with fail
      refine (ihk h2 hs E q C2 hE hb.kidsOf (by omega) hlen ka kc fl u2 uk b2 false).mono ?_
      rintro e w3 ⟨K3, hm⟩
      have K13 := K12.trans (K3.mono fun b hb => .inl hb)
      cases hpr : prsR sl E false x.kids with
      | error pp =>
        rw [hpr] at hm hr1
        obtain ⟨rfl, us', h3⟩ := hm
        have hr2 : prtR sl E rc x = .error pp := hr1
        have h3' := h3.less (A := Z) (fun b hb => .inl hb) (h.slots.kw K13)
        clear hpr hr1
        go_wp2
        go_ret
        exact ⟨K13, by first | exact ⟨rfl, us', h3'⟩ | (rw [hr2]; exact ⟨rfl, us', h3'⟩)⟩
      | ok b =>
        rw [hpr] at hm hr1
        obtain ⟨rfl, h3⟩ := hm
        have hr2 : prtR sl E rc x = .ok (a ++ b) := hr1
        have h3' := h3.less (A := Z) (fun b hb => .inl hb) (h.slots.kw K13)
        rw [List.append_assoc] at h3'
        clear hpr hr1
        go_wp2
        go_ret
        exact ⟨K13, by first | exact ⟨rfl, h3'⟩ | (rw [hr2]; exact ⟨rfl, h3'⟩)⟩
  have e6 : (x.kind == 6) = false := by simp [k6]
  by_cases k10 : x.kind = 10
  · have hr : prtR sl E rc x = untR sl E x := prtR_10 k10
    have e10 : (x.kind == 10) = true := by rw [k10]; rfl
    clear k5 k6 k10
    go_wp2_with fail
    refine (ihu h1 hs E q C1 hE hb hl hus _ hv1).mono ?_
    rintro e w2 ⟨K2, hm⟩
    cases hvr : untR sl E x with
    | error pp =>
      rw [hvr] at hm hr
      obtain ⟨rfl, us', h2⟩ := hm
      have hr2 : prtR sl E rc x = .error pp := hr
      clear hvr hr
      go_wp2
      go_ret
      exact ⟨K1.trans K2, by first | exact ⟨rfl, us', h2⟩ | (rw [hr2]; exact ⟨rfl, us', h2⟩)⟩
    | ok a =>
      rw [hvr] at hm hr
      obtain ⟨rfl, h2⟩ := hm
      have hr2 := hr
      clear hvr hr
      go_wp2
      go_ret
      exact ⟨K1.trans K2, by first | exact ⟨rfl, h2⟩ | (rw [hr2]; exact ⟨rfl, h2⟩)⟩
  have e10 : (x.kind == 10) = false := by simp [k10]
  have hr0 := prtR_else (sl := sl) (E := E) (rc := rc) k5 k6 k10
  clear k10
  by_cases k7 : x.kind = 7
  · have hr : prtR sl E rc x = prsR sl E true x.kids := by rw [hr0, decide_eq_true k7]; rfl
    have e7 : (x.kind == 7) = true := by rw [k7]; rfl
    clear k5 k6 k7 hr0
    go_wp2_with fail
    refine (ihk h1 hs E q C1 hE hb.kidsOf (by omega) (by omega) ka kc fl t2 tk b2 true).mono ?_
    rintro e w2 ⟨K2, hm⟩
    cases hvr : prsR sl E true x.kids with
    | error pp =>
      rw [hvr] at hm hr
      obtain ⟨rfl, us', h2⟩ := hm
      have hr2 : prtR sl E rc x = .error pp := hr
      clear hvr hr
      go_wp2
      go_ret
      exact ⟨K1.trans K2, by first | exact ⟨rfl, us', h2⟩ | (rw [hr2]; exact ⟨rfl, us', h2⟩)⟩
    | ok a =>
      rw [hvr] at hm hr
      obtain ⟨rfl, h2⟩ := hm
      have hr2 := hr
      clear hvr hr
      go_wp2
      go_ret
      exact ⟨K1.trans K2, by first | exact ⟨rfl, h2⟩ | (rw [hr2]; exact ⟨rfl, h2⟩)⟩
  have e7 : (x.kind == 7) = false := by simp [k7]
  by_cases k8 : x.kind = 8
  · have hr : prtR sl E rc x = prsR sl E true x.kids := by rw [hr0, decide_eq_true k8, Bool.or_true]
    have e8 : (x.kind == 8) = true := by rw [k8]; rfl
    clear k5 k6 k7 k8 hr0
    go_wp2_with fail
    refine (ihk h1 hs E q C1 hE hb.kidsOf (by omega) (by omega) ka kc fl t2 tk b2 true).mono ?_
    rintro e w2 ⟨K2, hm⟩
    cases hvr : prsR sl E true x.kids with
    | error pp =>
      rw [hvr] at hm hr
      obtain ⟨rfl, us', h2⟩ := hm
      have hr2 : prtR sl E rc x = .error pp := hr
      clear hvr hr
      go_wp2
      go_ret
      exact ⟨K1.trans K2, by first | exact ⟨rfl, us', h2⟩ | (rw [hr2]; exact ⟨rfl, us', h2⟩)⟩
    | ok a =>
      rw [hvr] at hm hr
      obtain ⟨rfl, h2⟩ := hm
      have hr2 := hr
      clear hvr hr
      go_wp2
      go_ret
      exact ⟨K1.trans K2, by first | exact ⟨rfl, h2⟩ | (rw [hr2]; exact ⟨rfl, h2⟩)⟩
  have hr : prtR sl E rc x = prsR sl E false x.kids := by rw [hr0, decide_eq_false k7, decide_eq_false k8]; rfl
  have e8 : (x.kind == 8) = false := by simp [k8]
  clear k5 k6 k7 k8 hr0
  go_wp2_with fail
  refine (ihk h1 hs E q C1 hE hb.kidsOf (by omega) (by omega) ka kc fl t2 tk b2 false).mono ?_
  rintro e w2 ⟨K2, hm⟩
  cases hvr : prsR sl E false x.kids with
  | error pp =>
    rw [hvr] at hm hr
    obtain ⟨rfl, us', h2⟩ := hm
    have hr2 : prtR sl E rc x = .error pp := hr
    clear hvr hr
    go_wp2
    go_ret
    exact ⟨K1.trans K2, by first | exact ⟨rfl, us', h2⟩ | (rw [hr2]; exact ⟨rfl, us', h2⟩)⟩
  | ok a =>
    rw [hvr] at hm hr
    obtain ⟨rfl, h2⟩ := hm
    have hr2 := hr
    clear hvr hr
    go_wp2
    go_ret
    exact ⟨K1.trans K2, by first | exact ⟨rfl, h2⟩ | (rw [hr2]; exact ⟨rfl, h2⟩)⟩
theorem all_parts : ∀ (N : Nat), (∀ x, cntN x ≤ N → PartC x) ∧ ∀ l, cntL l ≤ N → PartsC l
  | 0 => ⟨fun x h => by rw [cntN_kids] at h; omega, fun l h => @parts_any l fun x hx => by
      have := cntN_mem hx
      have := cntN_kids x
      omega⟩
  | N + 1 => by
    have ih := all_parts N
    have hp : ∀ x, cntN x ≤ N + 1 → PartC x := fun x h => by
      have hk : PartsC x.kids := ih.2 _ (by rw [cntN_kids] at h; omega)
      exact @part_any x (@hk) (@unit_any x (@hk))
    exact ⟨hp, fun l h => @parts_any l fun x hx => hp x (Nat.le_trans (cntN_mem hx) h)⟩
theorem unit_all (x : Nd) : UnitC x := by
  have hk : PartsC x.kids := (all_parts (cntL x.kids)).2 _ (Nat.le_refl _)
  exact @unit_any x (@hk)
end Go.Proofs.Ytoghhjljmhdioaa
namespace Go.Proofs.Ytoghhjljmhdioaa
open Go.RowKit
set_option maxRecDepth 100000
theorem bx47 {ops : Array Oper} {rest : List Oper} {o : Oper} {a : Act} {Q : Exit → Act → World → Prop} (w : World) (hgd : o.guard = none) (x : Operand) (ho : o.op = .box 47 x) (sa : Option Addr) (sn sc : Nat) (hx : a.eval x = .agg #[.slice sa sn sc, .slice none 0 0, .int .i64 0])
    (h : ∀ q w', w'.heap[q]? = some (.cells #[.slice sa sn sc, .slice none 0 0, .int .i64 0] 47) → w.heap.size ≤ q → Below w.heap.size w w' → wpList Try.prog ops Q rest (a.put o.dst (.pointer (some ⟨q, 0, none⟩))) w') : wpList Try.prog ops Q (o :: rest) a w :=
  wpList_plain hgd fun _ hK => by
    unfold Oper.wp execOp
    simp only [ho, hx]
    simp [go_sem]
    exact hK _ _ (h w.heap.size _ (newO w _) (Nat.le_refl _) boxO)
/-- What Resolve answers. -/
def RsvP (w : World) (r : Except Nat (List Us)) (e : Ending) (w' : World) : Prop := Below w.heap.size w w' ∧ match r with
  | .ok us => ∃ va vc, e = .returned (.tuple #[.slice va us.length vc, .int .i64 0, .int .i64 0]) ∧ w'.ownsRow w.heap.size 29 6 (.slice va us.length vc) us.length (usF us)
  | .error q => e = .returned (.tuple #[.slice none 0 0, .int .i64 (q : Int), .int .i64 21])
set_option maxHeartbeats 8000000 in
theorem resolve_any (x : Nd) (v : Value) (sl : List (List Int)) (w : World) {A : Nat → Prop} (hv : NdV A w x v) (hb : Byt x) (hc : cntN x ≤ 100000) {A' : Nat → Prop} {sa : Option Addr} {sc : Nat} (s : SlF A' w sa sl.length sc (sl.map strV)) (hs : BytL sl) :
    Calls Try.prog 12 #[v, .slice sa sl.length sc] w fun e w' => RsvP w (untR sl [] x) e w' := by
  have hv0 : NdV (fun b => b < w.heap.size) w x v := hv.imp (fun b hb _ => ⟨hb, rfl⟩) _ _
  have s0 : SlF (fun b => b < w.heap.size) w sa sl.length sc (sl.map strV) := s.imp fun b hb _ => ⟨hb, rfl⟩
  obtain ⟨na, nc, ka, kc, fl, rfl, s1, s2, hk, b1, b2, b3⟩ := hv.parts
  clear s1 s2 hk hv s
  go_enter Try.func12, Try.ntmps12
  go_wp2_with (refine bx25 _ rfl _ rfl _ _ _ _ _ _ _ _ _ _ rfl ?_)
  intro n w1 E1 hn B1
  go_wp2_with (refine bx47 _ rfl _ rfl _ _ _ rfl ?_)
  intro p w2 Ep hp B2
  have B02 : Below w.heap.size w w2 := B1.trans (B2.mono B1.size)
  have hpw : w.heap.size ≤ p := Nat.le_trans B1.size hp
  have En := (B2.block n (lt_of_block E1)).trans E1
  have K02 : Kw (fun b => b < w.heap.size) w w2 := Kw.of_below B02
  have h2 : Wk w.heap.size (fun b => b < w.heap.size) p sa sc sl w2 [] 0 := ⟨⟨none, 0, Ep, World.ownsRow_nil _ _ _ _, fun g hg => by simp [Value.ownBlock] at hg⟩, fun b hb => Nat.lt_of_lt_of_le hb B02.size, by omega, B02.size, s0.kw K02⟩
  have hv2 := hv0.kw K02
  have C2 : Chn (fun b => b < w.heap.size) w2 [] none := rfl
  obtain ⟨z0, z1, z2, z3, z4, z5, _⟩ := nd_cells En
  clear E1 B1 B2 hp hn Ep s0 hv0
  go_wp2_with fail
  refine ((unit_all x) h2 hs [] none C2 (fun y hy => absurd hy List.not_mem_nil) hb (by simp only [List.length_nil]; omega) (by simp only [List.length_nil]; omega) _ hv2).mono ?_
  rintro e w3 ⟨K3, hm⟩
  have B3 : Below w.heap.size w w3 := (K02.trans K3).below (Nat.le_refl _) (fun b hb => hb)
  cases hr : untR sl [] x with
  | error pp =>
    rw [hr] at hm
    obtain ⟨rfl, us', h3⟩ := hm
    obtain ⟨va, vc, e3, _, _⟩ := h3.blk
    obtain ⟨y0, y1, y2, _⟩ := wk3 e3
    clear z0 z1 z2 z3 z4 z5
    go_wp2_with fail
    go_region
    go_wp2
    exact bodyPost_ret (results_tmp3 rfl _ _ _) rfl ⟨B3.drew, by rw [hr]; rfl⟩
  | ok us =>
    rw [hr] at hm
    obtain ⟨rfl, h3⟩ := hm
    obtain ⟨va, vc, e3, o3, _⟩ := h3.blk
    rw [List.nil_append] at e3 o3
    obtain ⟨y0, y1, y2, _⟩ := wk3 e3
    clear z0 z1 z2 z3 z4 z5
    go_wp2
    exact bodyPost_ret (results_tmp3 rfl _ _ _) rfl ⟨B3, by rw [hr]; exact ⟨va, vc, rfl, o3⟩⟩
end Go.Proofs.Ytoghhjljmhdioaa
namespace Go.Proofs.Ytoghhjljmhdioaa
open Go.RowKit
set_option maxRecDepth 100000
theorem BodyR.det {W : List Tk} {j : Nat} {x n n' : Nd} {pl pl' : Nat} {e e' : Int} (h : BodyR W j x n pl e) (h' : BodyR W j x n' pl' e') : n = n' ∧ pl = pl' ∧ e = e' := by
  obtain ⟨r, hr, hm⟩ := h
  obtain ⟨r', hr', hm'⟩ := h'
  obtain rfl := hr.det hr'
  cases r with
  | er k c =>
    obtain ⟨rfl, rfl, rfl⟩ := hm
    obtain ⟨rfl, rfl, rfl⟩ := hm'
    exact ⟨rfl, rfl, rfl⟩
  | ok y k =>
    replace hm : if kdW W k = 0 then n = y ∧ pl = 0 ∧ e = 0 else n = zNd ∧ pl = psW W k ∧ e = 20 := hm
    replace hm' : if kdW W k = 0 then n' = y ∧ pl' = 0 ∧ e' = 0 else n' = zNd ∧ pl' = psW W k ∧ e' = 20 := hm'
    by_cases hk : kdW W k = 0
    · rw [if_pos hk] at hm hm'
      obtain ⟨rfl, rfl, rfl⟩ := hm
      obtain ⟨rfl, rfl, rfl⟩ := hm'
      exact ⟨rfl, rfl, rfl⟩
    · rw [if_neg hk] at hm hm'
      obtain ⟨rfl, rfl, rfl⟩ := hm
      obtain ⟨rfl, rfl, rfl⟩ := hm'
      exact ⟨rfl, rfl, rfl⟩
theorem UnitR.det {W : List Tk} {m : Bool} {n n' : Nd} {pl pl' : Nat} {e e' : Int} (h : UnitR W m n pl e) (h' : UnitR W m n' pl' e') : n = n' ∧ pl = pl' ∧ e = e' := by
  unfold UnitR at h h'
  cases m with
  | false =>
    rw [if_neg (by decide)] at h h'
    exact h.det h'
  | true =>
    rw [if_pos rfl] at h h'
    obtain ⟨r, hr, hm⟩ := h
    obtain ⟨r', hr', hm'⟩ := h'
    obtain rfl := hr.det hr'
    cases r with
    | er k c =>
      obtain ⟨rfl, rfl, rfl⟩ := hm
      obtain ⟨rfl, rfl, rfl⟩ := hm'
      exact ⟨rfl, rfl, rfl⟩
    | ok y k => exact BodyR.det hm hm'
/-- One source has one answer. -/
theorem TreP.det {ss : List Int} {m : Bool} {n n' : Nd} {pl pl' : Nat} {e e' : Int} (h : TreP ss m n pl e) (h' : TreP ss m n' pl' e') : n = n' ∧ pl = pl' ∧ e = e' := by
  have hne : ∀ {n n' : Nd} {pl pl' : Nat} {e e' : Int}, (LexE ss pl e ∧ n = zNd) → (∃ W, ss.length ≤ 4096 ∧ lexR rdB0 0 ss = .ok W ∧ UnitR W m n' pl' e') → False := by
    rintro n n' pl pl' e e' ⟨⟨h1, _⟩ | ⟨_, h1, _⟩, _⟩ ⟨W, h2, h3, _⟩
    · omega
    · rw [h1] at h3; cases h3
  rcases h with h | h <;> rcases h' with h' | h'
  · obtain ⟨⟨h1, rfl, rfl⟩ | ⟨h1, h2, rfl⟩, rfl⟩ := h <;> obtain ⟨⟨h3, rfl, rfl⟩ | ⟨h3, h4, rfl⟩, rfl⟩ := h'
    · exact ⟨rfl, rfl, rfl⟩
    · omega
    · omega
    · rw [h2] at h4
      cases h4
      exact ⟨rfl, rfl, rfl⟩
  · exact (hne h h').elim
  · exact (hne h' h).elim
  · obtain ⟨W, _, h1, h2⟩ := h
    obtain ⟨W', _, h3, h4⟩ := h'
    rw [h1] at h3
    cases h3
    exact h2.det h4
theorem results_tmp4 {fn : Func} {t u v x : Tmp} (h : fn.results = #[.tmp t, .tmp u, .tmp v, .tmp x]) (tmps : Array Value) (P : Program) (w : World) :
    (results fn tmps).run P w = .ok (.tuple #[tmps.getD t undef, tmps.getD u undef, tmps.getD v undef, tmps.getD x undef]) w := by
  simp [results, h]
theorem own_base {B B' : Nat} {w : World} {v : Value} {n : Nat} {fl : List Value} (h : w.ownsRow B 29 6 v n fl) (hB : B' ≤ B) : w.ownsRow B' 29 6 v n fl := by
  refine ⟨h.1, ?_⟩
  rcases h.2 with h | ⟨g, cap, cur, e, hb, rest⟩
  · exact .inl h
  · exact .inr ⟨g, cap, cur, e, Nat.le_trans hB hb, rest⟩
/-- What resolved answers. -/
def RsdP (ss : List Int) (m : Bool) (sl : List (List Int)) (w : World) (e : Ending) (w' : World) : Prop :=
  ∃ n pl er, TreP ss m n pl er ∧ Below w.heap.size w w' ∧ ((er ≠ 0 ∧ e = .returned (.tuple #[.slice none 0 0, .int .i64 0, .int .i64 er, .bool false])) ∨ (er = 0 ∧ match untR sl [] n with
    | .ok us => ∃ va vc, e = .returned (.tuple #[.slice va us.length vc, .int .i64 0, .int .i64 0, .bool true]) ∧ w'.ownsRow w.heap.size 29 6 (.slice va us.length vc) us.length (usF us)
    | .error q => e = .returned (.tuple #[.slice none 0 0, .int .i64 (q : Int), .int .i64 21, .bool true])))
set_option maxHeartbeats 4000000 in
theorem resolved_any (ss : List Int) (m : Bool) (sl : List (List Int)) (w : World) (hb : ∀ x ∈ ss, 0 ≤ x ∧ x < 256) (hm : ss.length ≤ 9223372036854775807) {A' : Nat → Prop} {sa : Option Addr} {sc : Nat} (s : SlF A' w sa sl.length sc (sl.map strV)) (hs : BytL sl) :
    Calls Try.prog 6 #[.string (strOfNums ss), .bool m, .slice sa sl.length sc] w fun e w' => RsdP ss m sl w e w' := by
  go_enter Try.func6, Try.ntmps6
  go_wp2_with fail
  refine (parse_any 10 false (.inl ⟨rfl, rfl⟩) ss w hb hm).mono ?_
  rintro e w1 ⟨n, pl, er, v, hT, rfl, hn, B1⟩
  obtain ⟨na, nc, ka, kc, _, rfl, _⟩ := NdV.parts hn
  go_wp2_with (refine al25 _ rfl rfl ?_)
  intro q w2 E2 hq B2
  go_wp2_with (refine st25 _ rfl _ _ rfl rfl _ _ _ _ _ _ _ _ _ _ _ rfl rfl E2 ?_)
  intro w3 E3 S3
  have hqw : w.heap.size ≤ q := Nat.le_trans B1.size hq
  have B3 : Below w.heap.size w w3 := (B1.trans (B2.mono B1.size)).trans (S3.below hqw)
  have B13 : Below w1.heap.size w1 w3 := B2.trans (S3.below hq)
  cases m with
  | false =>
    have hn3 := hn.bel B13
    clear hn E2 S3 B1 B2 B13
    obtain ⟨z0, z1, z2, z3, z4, z5, _⟩ := nd_cells E3
    by_cases h0 : er = 0
    · subst h0
      obtain ⟨hc, hby⟩ := hT.siz hb
      have s6 : SlF (fun _ => True) w3 sa sl.length sc (sl.map strV) := s.imp fun b hb _ => ⟨trivial, B3.block b hb⟩
      go_wp2_with fail
      refine (resolve_any n _ sl w3 hn3 hby hc s6 hs).mono ?_
      rintro e w7 ⟨B7, hR⟩
      have B07 := B3.trans (B7.mono B3.size)
      cases hr : untR sl [] n with
      | error pp =>
        rw [hr] at hR
        obtain rfl := hR
        go_wp2
        exact bodyPost_ret (results_tmp4 rfl _ _ _) rfl ⟨n, _, 0, hT, B07, .inr ⟨rfl, by rw [hr]; rfl⟩⟩
      | ok us =>
        rw [hr] at hR
        obtain ⟨va, vc, rfl, ho⟩ := hR
        go_wp2
        exact bodyPost_ret (results_tmp4 rfl _ _ _) rfl ⟨n, _, 0, hT, B07, .inr ⟨rfl, by rw [hr]; exact ⟨va, vc, rfl, own_base ho B3.size⟩⟩⟩
    · have hne : (er != 0) = true := by simp [h0]
      go_wp2
      exact bodyPost_ret (results_tmp4 rfl _ _ _) rfl ⟨n, _, er, hT, B3, .inl ⟨h0, rfl⟩⟩
  | true =>
    clear hT hn E2 S3 B1 B2 B13
    go_wp2_with fail
    refine (parse_any 11 true (.inr ⟨rfl, rfl⟩) ss w3 hb hm).mono ?_
    rintro e w4 ⟨n, pl', er', v, hT, rfl, hn, B4⟩
    obtain ⟨na, nc, ka, kc, _, rfl, _⟩ := NdV.parts hn
    have E4 := (B4.block q (lt_of_block E3)).trans E3
    go_wp2_with (refine st25 _ rfl _ _ rfl rfl _ _ _ _ _ _ _ _ _ _ _ rfl rfl E4 ?_)
    intro w5 E5 S5
    have hql := lt_of_block E3
    have hn3 := NdB.st hn S5 hql
    have B5 : Below w.heap.size w w5 := (B3.trans (B4.mono B3.size)).trans (S5.below hqw)
    clear hn E3 E4 B3 B4 S5
    obtain ⟨z0, z1, z2, z3, z4, z5, _⟩ := nd_cells E5
    by_cases h0 : er' = 0
    · subst h0
      obtain ⟨hc, hby⟩ := hT.siz hb
      have s6 : SlF (fun _ => True) w5 sa sl.length sc (sl.map strV) := s.imp fun b hb _ => ⟨trivial, B5.block b hb⟩
      go_wp2_with fail
      refine (resolve_any n _ sl w5 hn3 hby hc s6 hs).mono ?_
      rintro e w7 ⟨B7, hR⟩
      have B07 := B5.trans (B7.mono B5.size)
      cases hr : untR sl [] n with
      | error pp =>
        rw [hr] at hR
        obtain rfl := hR
        go_wp2
        exact bodyPost_ret (results_tmp4 rfl _ _ _) rfl ⟨n, _, 0, hT, B07, .inr ⟨rfl, by rw [hr]; rfl⟩⟩
      | ok us =>
        rw [hr] at hR
        obtain ⟨va, vc, rfl, ho⟩ := hR
        go_wp2
        exact bodyPost_ret (results_tmp4 rfl _ _ _) rfl ⟨n, _, 0, hT, B07, .inr ⟨rfl, by rw [hr]; exact ⟨va, vc, rfl, own_base ho B5.size⟩⟩⟩
    · have hne : (er' != 0) = true := by simp [h0]
      go_wp2
      exact bodyPost_ret (results_tmp4 rfl _ _ _) rfl ⟨n, _, er', hT, B5, .inl ⟨h0, rfl⟩⟩
end Go.Proofs.Ytoghhjljmhdioaa
