/- Uses as the document's: taken. -/
import Derived.Test.YtoghhjljmhdioaaRsd
namespace Go.Proofs.Ytoghhjljmhdioaa
open Go.RowKit
set_option maxRecDepth 100000
theorem putT_here (a : Act) (t : Nat) (u : Value) (h : t < a.tmps.size) : (a.put (some t) u).tmps[t]? = some u := by
  show (a.tmps.setIfInBounds t u)[t]? = _
  rw [Array.getElem?_setIfInBounds, if_pos rfl, if_pos h]
theorem own3_lt {e : TypeId} {B : Nat} {w : World} {v : Value} {n : Nat} {fl : List Value} (h : w.ownsRow B e 6 v n fl) {g : Nat} (hg : v.ownBlock = some g) : g < w.heap.size := by
  rcases h.2 with ⟨rfl, _⟩ | ⟨g', cap', cur', rfl, hb', hh, _⟩
  · simp [Value.ownBlock] at hg
  · simp [Value.ownBlock] at hg
    subst hg
    exact lt_of_block hh
theorem own3_base {e : TypeId} {B : Nat} {w : World} {v : Value} {n : Nat} {fl : List Value} (h : w.ownsRow B e 6 v n fl) {g : Nat} (hg : v.ownBlock = some g) : B ≤ g := by
  rcases h.2 with ⟨rfl, _⟩ | ⟨g', cap', cur', rfl, hb', hh, _⟩
  · simp [Value.ownBlock] at hg
  · simp [Value.ownBlock] at hg
    subst hg
    exact hb'
theorem own3_keep {e : TypeId} {B : Nat} {w w' : World} {v : Value} {n : Nat} {fl : List Value} (h : w.ownsRow B e 6 v n fl) (k : ∀ g, v.ownBlock = some g → w'.heap[g]? = w.heap[g]?) : w'.ownsRow B e 6 v n fl := by
  refine ⟨h.1, ?_⟩
  rcases h.2 with h | ⟨g, cap, cur, e, hB, hg, rest⟩
  · exact .inl h
  · exact .inr ⟨g, cap, cur, e, hB, (k g (by rw [e]; rfl)).trans hg, rest⟩
/-- A row of one's own is read. -/
theorem own3_sl {e : TypeId} {B : Nat} {w : World} {a : Option Addr} {n c m : Nat} {fl : List Value} (h : w.ownsRow B e 6 (.slice a n c) m fl) : n = m ∧ SlF (fun b => B ≤ b) w a n c fl := by
  have hs := h.1
  rcases h.2 with ⟨e0, h0⟩ | ⟨g, cap, cur, e0, hb, hg, hn, hm, hc, ht⟩
  · simp only [Value.slice.injEq] at e0
    obtain ⟨rfl, rfl, rfl⟩ := e0
    rw [h0] at hs
    have : fl = [] := List.eq_nil_of_length_eq_zero (by omega)
    subst this
    exact ⟨h0.symm, SlF.nil _ _⟩
  · simp only [Value.slice.injEq] at e0
    obtain ⟨rfl, rfl, rfl⟩ := e0
    refine ⟨rfl, hn, hm, by simp, fun _ => ⟨g, 0, rfl, hb, fun j u hj => ?_⟩⟩
    have := World.ownsRow.cells h (g := g) rfl j u hj
    rw [addrAdd] at this
    exact this
theorem info43 : (Try.prog.info? 43).map (fun i => (i.zero, i.size, i.bytes)) = some (some (.agg #[.int .i64 0, .string ⟨#[]⟩, .int .i64 0, .int .i64 0, .int .i64 0, .bool false]), 6, 56) := by kernel_rfl
theorem op31 (w : World) {o : Oper} {a : Act} {K : Act → World → Prop} {Q : Exit → Act → World → Prop} (s x : Operand) (ho : o.op = .call { callee := .builtin .append, args := #[s, x], argTypes := #[31, 31] }) {B : Nat} {v : Value} {us : List Us} {n g : Nat} {u : Us} (hn : n = us.length) (hs : a.eval s = v) (hx : a.eval x = .slice (some ⟨g, 0, none⟩) 1 1) (q1 : w.ownsRow B 43 6 v n (usF us)) (hg : w.heap[g]? = some (.cells (usC u).toArray 43)) (hus : n ≤ 500000) (hB : B ≤ w.heap.size)
    (h : ∀ (va : Option Addr) (vc : Nat) w', w'.ownsRow B 43 6 (.slice va (n + 1) vc) (n + 1) (usF (us ++ [u])) → Kp v w w' → (∀ q, (Value.slice va (n + 1) vc).ownBlock = some q → v.ownBlock = some q ∨ w.heap.size ≤ q) → K (a.put o.dst (.slice va (n + 1) vc)) w') : o.wp Try.prog a w K Q := by
  obtain ⟨i, hi, hz, hsize, hby⟩ := info_pts info43
  have hcell : ∀ j y, (usC u)[j]? = some y → w.cell? ((⟨g, 0, none⟩ : Addr).add j) = some y := fun j y hj => by
    rw [addrAdd, Nat.zero_add]
    simp only [World.cell?, hg]
    simpa using hj
  obtain ⟨v', w', hr, r1, r2, r3⟩ := app_gen w 31 o.type 43 Try.underlying31 hi hz hsize hby rfl (by decide) (by decide) q1 ⟨g, 0, none⟩ 1 1 (usC u) rfl hcell (us_one u) (by omega) hB
  have hsh : ∃ va vc, v' = .slice va (n + 1) vc := by
    rcases r1.2 with ⟨rfl, h0⟩ | ⟨g', cap, cur, rfl, _⟩
    · exact ⟨none, 0, by rw [h0]⟩
    · exact ⟨_, _, rfl⟩
  obtain ⟨va, vc, rfl⟩ := hsh
  refine Lib.wp_append_run w s x 31 31 ho _ _ hs hx _ w' hr (h va vc w' ?_ ⟨r2.os, r2.tape, r2.output, r2.size, fun b hb hne => r2.block b hb (fun e => hne e.symm)⟩ r3)
  rw [usF_app, usF_one]
  exact r1
theorem usF_at : ∀ (us : List Us) (k : Nat) (u : Us), us[k]? = some u → ∀ j x, (usC u)[j]? = some x → (usF us)[k * 6 + j]? = some x
  | [], k, u, h, j, x, hj => by simp at h
  | y :: r, 0, u, h, j, x, hj => by
    simp only [List.getElem?_cons_zero, Option.some.injEq] at h
    subst h
    have hl : j < (usC y).length := (List.getElem?_eq_some_iff.1 hj).1
    simp only [usF]
    rw [Nat.zero_mul, Nat.zero_add, List.getElem?_append_left hl]
    exact hj
  | y :: r, k + 1, u, h, j, x, hj => by
    simp only [List.getElem?_cons_succ] at h
    have := usF_at r k u h j x hj
    simp only [usF]
    rw [List.getElem?_append_right (by show 6 ≤ _; omega)]
    show (usF r)[(k + 1) * 6 + j - 6]? = _
    rw [show (k + 1) * 6 + j - 6 = k * 6 + j by omega]
    exact this
theorem take_snoc {α : Type} {l : List α} {k : Nat} {x : α} (h : l[k]? = some x) : l.take (k + 1) = l.take k ++ [x] := by
  rw [List.take_add_one, h]
  rfl
/-- What the operations yield. -/
def tkuV (b off n cap k : Nat) (ca xa : Option Addr) (cc nb xc : Nat) (u : Us) (j : Nat) : Value :=
  ([.slice ca k cc,
    .slice (some ⟨b, off, none⟩) n cap,
    .int .i64 (k : Int),
    .pointer (some ⟨b, off + k * 6, none⟩),
    .pointer (some ⟨b, off + k * 6, none⟩),
    .int .i64 (u.pos : Int),
    .slice (some ⟨b, off, none⟩) n cap,
    .int .i64 (k : Int),
    .pointer (some ⟨b, off + k * 6, none⟩),
    .pointer (some ⟨b, off + k * 6 + 1, none⟩),
    .string (strOfNums u.name),
    .slice (some ⟨b, off, none⟩) n cap,
    .int .i64 (k : Int),
    .pointer (some ⟨b, off + k * 6, none⟩),
    .pointer (some ⟨b, off + k * 6 + 2, none⟩),
    .int .i64 u.kind,
    .slice (some ⟨b, off, none⟩) n cap,
    .int .i64 (k : Int),
    .pointer (some ⟨b, off + k * 6, none⟩),
    .pointer (some ⟨b, off + k * 6 + 3, none⟩),
    .int .i64 (u.depth : Int),
    .slice (some ⟨b, off, none⟩) n cap,
    .int .i64 (k : Int),
    .pointer (some ⟨b, off + k * 6, none⟩),
    .pointer (some ⟨b, off + k * 6 + 4, none⟩),
    .int .i64 (u.index : Int),
    .slice (some ⟨b, off, none⟩) n cap,
    .int .i64 (k : Int),
    .pointer (some ⟨b, off + k * 6, none⟩),
    .pointer (some ⟨b, off + k * 6 + 5, none⟩),
    .bool u.write,
    .agg #[.int .i64 (u.pos : Int), .string (strOfNums u.name), .int .i64 u.kind, .int .i64 (u.depth : Int), .int .i64 (u.index : Int), .bool u.write],
    .slice (some ⟨nb, 0, none⟩) 1 1,
    .slice xa (k + 1) xc] : List Value).getD j undef
theorem tkuV_list {l : List Value} (hh : l.length = 34) : ∃ v0 v1 v2 v3 v4 v5 v6 v7 v8 v9 v10 v11 v12 v13 v14 v15 v16 v17 v18 v19 v20 v21 v22 v23 v24 v25 v26 v27 v28 v29 v30 v31 v32 v33, l = [v0, v1, v2, v3, v4, v5, v6, v7, v8, v9, v10, v11, v12, v13, v14, v15, v16, v17, v18, v19, v20, v21, v22, v23, v24, v25, v26, v27, v28, v29, v30, v31, v32, v33] := by
  obtain ⟨v0, t0, rfl, h0⟩ := cons_of hh
  obtain ⟨v1, t1, rfl, h1⟩ := cons_of h0
  obtain ⟨v2, t2, rfl, h2⟩ := cons_of h1
  obtain ⟨v3, t3, rfl, h3⟩ := cons_of h2
  obtain ⟨v4, t4, rfl, h4⟩ := cons_of h3
  obtain ⟨v5, t5, rfl, h5⟩ := cons_of h4
  obtain ⟨v6, t6, rfl, h6⟩ := cons_of h5
  obtain ⟨v7, t7, rfl, h7⟩ := cons_of h6
  obtain ⟨v8, t8, rfl, h8⟩ := cons_of h7
  obtain ⟨v9, t9, rfl, h9⟩ := cons_of h8
  obtain ⟨v10, t10, rfl, h10⟩ := cons_of h9
  obtain ⟨v11, t11, rfl, h11⟩ := cons_of h10
  obtain ⟨v12, t12, rfl, h12⟩ := cons_of h11
  obtain ⟨v13, t13, rfl, h13⟩ := cons_of h12
  obtain ⟨v14, t14, rfl, h14⟩ := cons_of h13
  obtain ⟨v15, t15, rfl, h15⟩ := cons_of h14
  obtain ⟨v16, t16, rfl, h16⟩ := cons_of h15
  obtain ⟨v17, t17, rfl, h17⟩ := cons_of h16
  obtain ⟨v18, t18, rfl, h18⟩ := cons_of h17
  obtain ⟨v19, t19, rfl, h19⟩ := cons_of h18
  obtain ⟨v20, t20, rfl, h20⟩ := cons_of h19
  obtain ⟨v21, t21, rfl, h21⟩ := cons_of h20
  obtain ⟨v22, t22, rfl, h22⟩ := cons_of h21
  obtain ⟨v23, t23, rfl, h23⟩ := cons_of h22
  obtain ⟨v24, t24, rfl, h24⟩ := cons_of h23
  obtain ⟨v25, t25, rfl, h25⟩ := cons_of h24
  obtain ⟨v26, t26, rfl, h26⟩ := cons_of h25
  obtain ⟨v27, t27, rfl, h27⟩ := cons_of h26
  obtain ⟨v28, t28, rfl, h28⟩ := cons_of h27
  obtain ⟨v29, t29, rfl, h29⟩ := cons_of h28
  obtain ⟨v30, t30, rfl, h30⟩ := cons_of h29
  obtain ⟨v31, t31, rfl, h31⟩ := cons_of h30
  obtain ⟨v32, t32, rfl, h32⟩ := cons_of h31
  obtain ⟨v33, t33, rfl, h33⟩ := cons_of h32
  obtain rfl := List.eq_nil_of_length_eq_zero h33
  exact ⟨_, _, _, _, _, _, _, _, _, _, _, _, _, _, _, _, _, _, _, _, _, _, _, _, _, _, _, _, _, _, _, _, _, _, rfl⟩
set_option maxHeartbeats 8000000 in
theorem taken_any {A : Nat → Prop} {w : World} {va : Option Addr} {cap : Nat} (us : List Us) (s : SlF A w va us.length cap (usF us)) (hus : us.length ≤ 400000) :
    Calls Try.prog 9 #[.slice va us.length cap] w fun e w' => ∃ ra rc, e = .returned (.slice ra us.length rc) ∧ w'.ownsRow w.heap.size 43 6 (.slice ra us.length rc) us.length (usF us) ∧ Below w.heap.size w w' := by
  obtain ⟨n, hn⟩ : ∃ n, n = us.length := ⟨_, rfl⟩
  obtain ⟨N, hN0⟩ : ∃ N, Hid (N = w.heap.size) := ⟨_, rfl⟩
  rw [← hn] at s ⊢
  go_enter Try.func9, Try.ntmps9
  go_wp2_with fail
  go_loopw [3, 4] (fun ov iv wr => ∃ (k : Nat) (ca : Option Addr) (cc : Nat), k ≤ n ∧ iv = .int .i64 (k : Int) ∧ ov = .slice ca k cc ∧ Hid (wr.ownsRow N 43 6 (.slice ca k cc) k (usF (us.take k))) ∧ Below N w wr) (fun _ iv _ => n - (intOf iv).toNat)
  case atStart => exact ⟨0, none, 0, Nat.zero_le _, rfl, rfl, World.ownsRow_nil _ _ _ _, Below.refl _ _⟩
  case round =>
    obtain ⟨k, ca, cc, hk, rfl, rfl, OC, Bw⟩ := hrel
    replace OC := OC.out
    have hNw : N ≤ wr.heap.size := Nat.le_trans (Nat.le_of_eq hN0.out) Bw.size
    by_cases hlt : k < n
    · obtain ⟨u, hu⟩ : ∃ u, us[k]? = some u := ⟨_, List.getElem?_eq_getElem (by omega)⟩
      have hsnoc : Hid (us.take (k + 1) = us.take k ++ [u]) := take_snoc hu
      obtain ⟨b, off, rfl, _, hc⟩ := s.cells (by rw [usF_len]; omega)
      have hB0 : ∀ j x, (usC u)[j]? = some x → wr.cell? ⟨b, off + k * 6 + j, none⟩ = some x := fun j x hj => by
        have h1 := hc _ _ (usF_at us k u hu j x hj)
        rw [← Nat.add_assoc] at h1
        have hbl : b < w.heap.size := block_lt_of_cell h1
        exact (World.cell?_of_block (a := ⟨b, off + k * 6 + j, none⟩) (Bw.block b (by have := hN0.out; omega))).trans h1
      have d0 := hB0 0 _ rfl
      have d1 := hB0 1 _ rfl
      have d2 := hB0 2 _ rfl
      have d3 := hB0 3 _ rfl
      have d4 := hB0 4 _ rfl
      have d5 := hB0 5 _ rfl
      rw [Nat.add_zero] at d0
      clear hc hB0
      have hki : (k : Int) < (n : Int) := by omega
      have hN := hNw
      go_upto_region 5 with fail
      refine abstract_act fun A hA => ?_
      have hsz : A.tmps.size = 46 := by rw [hA]; rfl
      have st : A.tmps[3]? = some (.slice ca k cc) := by rw [hA]; rfl
      have s0 : A.tmps[0]? = some (.slice (some ⟨b, off, none⟩) n cap) := by rw [hA]; rfl
      have s4 : A.tmps[4]? = some (.int .i64 (k : Int)) := by rw [hA]; rfl
      refine wp_region_inv' (fun A D a w' => ∃ (l : List Value) (vt : Value) (xa : Option Addr) (nb : Nat) (xc : Nat), a = (putAll A 11 l).put (some 3) vt ∧ l.length = 34 ∧ (∀ j, j < 34 → D j → l[j]? = some (tkuV b off n cap k ca xa cc nb xc u j)) ∧ (D 34 → vt = .slice xa (k + 1) xc) ∧ (D 33 ∨ Below wr.heap.size wr w') ∧ (D 34 ∨ vt = .slice ca k cc) ∧ (D 33 → w'.ownsRow N 43 6 (.slice xa (k + 1) xc) (k + 1) (usF (us.take k ++ [u])) ∧ Below N wr w') ∧ (D 32 → ¬ D 33 → w'.heap[nb]? = some (.cells #[.int .i64 (u.pos : Int), .string (strOfNums u.name), .int .i64 u.kind, .int .i64 (u.depth : Int), .int .i64 (u.index : Int), .bool u.write] 43) ∧ wr.heap.size ≤ nb)) (by kernel_rfl) (by kernel_rfl) ?mono ?start ?step ?done
      case mono =>
        rintro D D' a w' hD ⟨l, vt, xa, nb, xc, ha, hlen, hl, hvt, hB, hv0, hP, hG⟩
        exact ⟨l, vt, xa, nb, xc, ha, hlen, fun j hj h => hl j hj ((hD j).2 h), fun h => hvt ((hD 34).2 h), hB.imp_left (hD 33).1, hv0.imp_left (hD 34).1, fun h => hP ((hD 33).2 h), fun h h' => hG ((hD 32).2 h) (fun k => h' ((hD 33).1 k))⟩
      case start => exact ⟨_, _, none, 0, 0, putT_start A 11 34 3 _ (by omega) (by decide) st, (putAll_start A 11 34 (by omega)).2, fun _ _ h => h.elim, fun h => h.elim, .inr ((Below.refl _ _).drew), .inr (rfl), fun h => h.elim, fun h _ => h.elim⟩
      case step =>
        clear hA
        intro i o ho D a w' hI hn hcl hd
        obtain ⟨l, vt, xa, nb, xc, ha, hlen, hl, hvt, hB, hv0, hP, hG⟩ := hI
        match i, ho with
        | 0, ho =>
          cases Option.some.inj ho
          have hvt0 := hv0.resolve_left (fun h => (fun h => hn (hcl 33 _ rfl h ⟨0, .data⟩ (by simp) rfl)) (hcl 34 _ rfl h ⟨33, .data⟩ (by simp) rfl))
          have ev : a.tmps[3]? = some (.slice ca k cc) := by rw [ha, hvt0]; exact putT_here _ _ _ (by rw [putAll_size A 11 l (by omega)]; omega)
          refine wp_value (w' := w') (v := .slice ca k cc) (by simp [execOp, ev, go_sem]) ?_
          exact ⟨_, vt, xa, nb, xc, by rw [ha]; exact putT_put A 11 0 3 l _ _ (by omega) (by omega) (by decide), by rw [List.length_set]; exact hlen, set_known hlen (by decide) hl, fun h => hvt (h.resolve_left (by decide)), hB.imp_left .inr, hv0.imp_left .inr, fun h => hP (h.resolve_left (by decide)), fun h h' => hG (h.resolve_left (by decide)) (fun k => h' (.inr k))⟩
        | 1, ho =>
          cases Option.some.inj ho
          have ev : a.tmps[0]? = some (.slice (some ⟨b, off, none⟩) n cap) := by rw [ha, putT_other _ _ _ _ (by decide), putAll_low A 11 0 l (by omega) (by decide)]; exact s0
          refine wp_value (w' := w') (v := .slice (some ⟨b, off, none⟩) n cap) (by simp [execOp, ev, go_sem]) ?_
          exact ⟨_, vt, xa, nb, xc, by rw [ha]; exact putT_put A 11 1 3 l _ _ (by omega) (by omega) (by decide), by rw [List.length_set]; exact hlen, set_known hlen (by decide) hl, fun h => hvt (h.resolve_left (by decide)), hB.imp_left .inr, hv0.imp_left .inr, fun h => hP (h.resolve_left (by decide)), fun h h' => hG (h.resolve_left (by decide)) (fun k => h' (.inr k))⟩
        | 2, ho =>
          cases Option.some.inj ho
          have ev : a.tmps[4]? = some (.int .i64 (k : Int)) := by rw [ha, putT_other _ _ _ _ (by decide), putAll_low A 11 4 l (by omega) (by decide)]; exact s4
          refine wp_value (w' := w') (v := .int .i64 (k : Int)) (by simp [execOp, ev, go_sem]) ?_
          exact ⟨_, vt, xa, nb, xc, by rw [ha]; exact putT_put A 11 2 3 l _ _ (by omega) (by omega) (by decide), by rw [List.length_set]; exact hlen, set_known hlen (by decide) hl, fun h => hvt (h.resolve_left (by decide)), hB.imp_left .inr, hv0.imp_left .inr, fun h => hP (h.resolve_left (by decide)), fun h h' => hG (h.resolve_left (by decide)) (fun k => h' (.inr k))⟩
        | 3, ho =>
          cases Option.some.inj ho
          have ev : a.tmps[12]? = some (.slice (some ⟨b, off, none⟩) n cap) := known_atT ha hsz hlen hl 1 (by decide) (hd ⟨1, .data⟩ (by simp) rfl)
          have ev' : a.tmps[13]? = some (.int .i64 (k : Int)) := known_atT ha hsz hlen hl 2 (by decide) (hd ⟨2, .data⟩ (by simp) rfl)
          refine wp_value (w' := w') (v := .pointer (some ⟨b, off + k * 6, none⟩)) (by simp [execOp, ev, ev', go_sem, hki]) ?_
          exact ⟨_, vt, xa, nb, xc, by rw [ha]; exact putT_put A 11 3 3 l _ _ (by omega) (by omega) (by decide), by rw [List.length_set]; exact hlen, set_known hlen (by decide) hl, fun h => hvt (h.resolve_left (by decide)), hB.imp_left .inr, hv0.imp_left .inr, fun h => hP (h.resolve_left (by decide)), fun h h' => hG (h.resolve_left (by decide)) (fun k => h' (.inr k))⟩
        | 4, ho =>
          cases Option.some.inj ho
          have ev : a.tmps[14]? = some (.pointer (some ⟨b, off + k * 6, none⟩)) := known_atT ha hsz hlen hl 3 (by decide) (hd ⟨3, .data⟩ (by simp) rfl)
          refine wp_value (w' := w') (v := .pointer (some ⟨b, off + k * 6, none⟩)) (by simp [execOp, ev, go_sem]) ?_
          exact ⟨_, vt, xa, nb, xc, by rw [ha]; exact putT_put A 11 4 3 l _ _ (by omega) (by omega) (by decide), by rw [List.length_set]; exact hlen, set_known hlen (by decide) hl, fun h => hvt (h.resolve_left (by decide)), hB.imp_left .inr, hv0.imp_left .inr, fun h => hP (h.resolve_left (by decide)), fun h h' => hG (h.resolve_left (by decide)) (fun k => h' (.inr k))⟩
        | 5, ho =>
          cases Option.some.inj ho
          have ev : a.tmps[15]? = some (.pointer (some ⟨b, off + k * 6, none⟩)) := known_atT ha hsz hlen hl 4 (by decide) (hd ⟨4, .data⟩ (by simp) rfl)
          have hb := hB.resolve_left (fun h => (fun h => (fun h => hn (hcl 31 _ rfl h ⟨5, .data⟩ (by simp) rfl)) (hcl 32 _ rfl h ⟨31, .data⟩ (by simp) rfl)) (hcl 33 _ rfl h ⟨32, .data⟩ (by simp) rfl))
          have z := (hb.cell (block_lt_of_cell d0)).trans d0
          refine wp_value (w' := w') (v := .int .i64 (u.pos : Int)) (by simp [execOp, ev, go_sem, z]) ?_
          exact ⟨_, vt, xa, nb, xc, by rw [ha]; exact putT_put A 11 5 3 l _ _ (by omega) (by omega) (by decide), by rw [List.length_set]; exact hlen, set_known hlen (by decide) hl, fun h => hvt (h.resolve_left (by decide)), hB.imp_left .inr, hv0.imp_left .inr, fun h => hP (h.resolve_left (by decide)), fun h h' => hG (h.resolve_left (by decide)) (fun k => h' (.inr k))⟩
        | 6, ho =>
          cases Option.some.inj ho
          have ev : a.tmps[0]? = some (.slice (some ⟨b, off, none⟩) n cap) := by rw [ha, putT_other _ _ _ _ (by decide), putAll_low A 11 0 l (by omega) (by decide)]; exact s0
          refine wp_value (w' := w') (v := .slice (some ⟨b, off, none⟩) n cap) (by simp [execOp, ev, go_sem]) ?_
          exact ⟨_, vt, xa, nb, xc, by rw [ha]; exact putT_put A 11 6 3 l _ _ (by omega) (by omega) (by decide), by rw [List.length_set]; exact hlen, set_known hlen (by decide) hl, fun h => hvt (h.resolve_left (by decide)), hB.imp_left .inr, hv0.imp_left .inr, fun h => hP (h.resolve_left (by decide)), fun h h' => hG (h.resolve_left (by decide)) (fun k => h' (.inr k))⟩
        | 7, ho =>
          cases Option.some.inj ho
          have ev : a.tmps[4]? = some (.int .i64 (k : Int)) := by rw [ha, putT_other _ _ _ _ (by decide), putAll_low A 11 4 l (by omega) (by decide)]; exact s4
          refine wp_value (w' := w') (v := .int .i64 (k : Int)) (by simp [execOp, ev, go_sem]) ?_
          exact ⟨_, vt, xa, nb, xc, by rw [ha]; exact putT_put A 11 7 3 l _ _ (by omega) (by omega) (by decide), by rw [List.length_set]; exact hlen, set_known hlen (by decide) hl, fun h => hvt (h.resolve_left (by decide)), hB.imp_left .inr, hv0.imp_left .inr, fun h => hP (h.resolve_left (by decide)), fun h h' => hG (h.resolve_left (by decide)) (fun k => h' (.inr k))⟩
        | 8, ho =>
          cases Option.some.inj ho
          have ev : a.tmps[17]? = some (.slice (some ⟨b, off, none⟩) n cap) := known_atT ha hsz hlen hl 6 (by decide) (hd ⟨6, .data⟩ (by simp) rfl)
          have ev' : a.tmps[18]? = some (.int .i64 (k : Int)) := known_atT ha hsz hlen hl 7 (by decide) (hd ⟨7, .data⟩ (by simp) rfl)
          refine wp_value (w' := w') (v := .pointer (some ⟨b, off + k * 6, none⟩)) (by simp [execOp, ev, ev', go_sem, hki]) ?_
          exact ⟨_, vt, xa, nb, xc, by rw [ha]; exact putT_put A 11 8 3 l _ _ (by omega) (by omega) (by decide), by rw [List.length_set]; exact hlen, set_known hlen (by decide) hl, fun h => hvt (h.resolve_left (by decide)), hB.imp_left .inr, hv0.imp_left .inr, fun h => hP (h.resolve_left (by decide)), fun h h' => hG (h.resolve_left (by decide)) (fun k => h' (.inr k))⟩
        | 9, ho =>
          cases Option.some.inj ho
          have ev : a.tmps[19]? = some (.pointer (some ⟨b, off + k * 6, none⟩)) := known_atT ha hsz hlen hl 8 (by decide) (hd ⟨8, .data⟩ (by simp) rfl)
          refine wp_value (w' := w') (v := .pointer (some ⟨b, off + k * 6 + 1, none⟩)) (by simp [execOp, ev, go_sem]) ?_
          exact ⟨_, vt, xa, nb, xc, by rw [ha]; exact putT_put A 11 9 3 l _ _ (by omega) (by omega) (by decide), by rw [List.length_set]; exact hlen, set_known hlen (by decide) hl, fun h => hvt (h.resolve_left (by decide)), hB.imp_left .inr, hv0.imp_left .inr, fun h => hP (h.resolve_left (by decide)), fun h h' => hG (h.resolve_left (by decide)) (fun k => h' (.inr k))⟩
        | 10, ho =>
          cases Option.some.inj ho
          have ev : a.tmps[20]? = some (.pointer (some ⟨b, off + k * 6 + 1, none⟩)) := known_atT ha hsz hlen hl 9 (by decide) (hd ⟨9, .data⟩ (by simp) rfl)
          have hb := hB.resolve_left (fun h => (fun h => (fun h => hn (hcl 31 _ rfl h ⟨10, .data⟩ (by simp) rfl)) (hcl 32 _ rfl h ⟨31, .data⟩ (by simp) rfl)) (hcl 33 _ rfl h ⟨32, .data⟩ (by simp) rfl))
          have z := (hb.cell (block_lt_of_cell d1)).trans d1
          refine wp_value (w' := w') (v := .string (strOfNums u.name)) (by simp [execOp, ev, go_sem, z]) ?_
          exact ⟨_, vt, xa, nb, xc, by rw [ha]; exact putT_put A 11 10 3 l _ _ (by omega) (by omega) (by decide), by rw [List.length_set]; exact hlen, set_known hlen (by decide) hl, fun h => hvt (h.resolve_left (by decide)), hB.imp_left .inr, hv0.imp_left .inr, fun h => hP (h.resolve_left (by decide)), fun h h' => hG (h.resolve_left (by decide)) (fun k => h' (.inr k))⟩
        | 11, ho =>
          cases Option.some.inj ho
          have ev : a.tmps[0]? = some (.slice (some ⟨b, off, none⟩) n cap) := by rw [ha, putT_other _ _ _ _ (by decide), putAll_low A 11 0 l (by omega) (by decide)]; exact s0
          refine wp_value (w' := w') (v := .slice (some ⟨b, off, none⟩) n cap) (by simp [execOp, ev, go_sem]) ?_
          exact ⟨_, vt, xa, nb, xc, by rw [ha]; exact putT_put A 11 11 3 l _ _ (by omega) (by omega) (by decide), by rw [List.length_set]; exact hlen, set_known hlen (by decide) hl, fun h => hvt (h.resolve_left (by decide)), hB.imp_left .inr, hv0.imp_left .inr, fun h => hP (h.resolve_left (by decide)), fun h h' => hG (h.resolve_left (by decide)) (fun k => h' (.inr k))⟩
        | 12, ho =>
          cases Option.some.inj ho
          have ev : a.tmps[4]? = some (.int .i64 (k : Int)) := by rw [ha, putT_other _ _ _ _ (by decide), putAll_low A 11 4 l (by omega) (by decide)]; exact s4
          refine wp_value (w' := w') (v := .int .i64 (k : Int)) (by simp [execOp, ev, go_sem]) ?_
          exact ⟨_, vt, xa, nb, xc, by rw [ha]; exact putT_put A 11 12 3 l _ _ (by omega) (by omega) (by decide), by rw [List.length_set]; exact hlen, set_known hlen (by decide) hl, fun h => hvt (h.resolve_left (by decide)), hB.imp_left .inr, hv0.imp_left .inr, fun h => hP (h.resolve_left (by decide)), fun h h' => hG (h.resolve_left (by decide)) (fun k => h' (.inr k))⟩
        | 13, ho =>
          cases Option.some.inj ho
          have ev : a.tmps[22]? = some (.slice (some ⟨b, off, none⟩) n cap) := known_atT ha hsz hlen hl 11 (by decide) (hd ⟨11, .data⟩ (by simp) rfl)
          have ev' : a.tmps[23]? = some (.int .i64 (k : Int)) := known_atT ha hsz hlen hl 12 (by decide) (hd ⟨12, .data⟩ (by simp) rfl)
          refine wp_value (w' := w') (v := .pointer (some ⟨b, off + k * 6, none⟩)) (by simp [execOp, ev, ev', go_sem, hki]) ?_
          exact ⟨_, vt, xa, nb, xc, by rw [ha]; exact putT_put A 11 13 3 l _ _ (by omega) (by omega) (by decide), by rw [List.length_set]; exact hlen, set_known hlen (by decide) hl, fun h => hvt (h.resolve_left (by decide)), hB.imp_left .inr, hv0.imp_left .inr, fun h => hP (h.resolve_left (by decide)), fun h h' => hG (h.resolve_left (by decide)) (fun k => h' (.inr k))⟩
        | 14, ho =>
          cases Option.some.inj ho
          have ev : a.tmps[24]? = some (.pointer (some ⟨b, off + k * 6, none⟩)) := known_atT ha hsz hlen hl 13 (by decide) (hd ⟨13, .data⟩ (by simp) rfl)
          refine wp_value (w' := w') (v := .pointer (some ⟨b, off + k * 6 + 2, none⟩)) (by simp [execOp, ev, go_sem]) ?_
          exact ⟨_, vt, xa, nb, xc, by rw [ha]; exact putT_put A 11 14 3 l _ _ (by omega) (by omega) (by decide), by rw [List.length_set]; exact hlen, set_known hlen (by decide) hl, fun h => hvt (h.resolve_left (by decide)), hB.imp_left .inr, hv0.imp_left .inr, fun h => hP (h.resolve_left (by decide)), fun h h' => hG (h.resolve_left (by decide)) (fun k => h' (.inr k))⟩
        | 15, ho =>
          cases Option.some.inj ho
          have ev : a.tmps[25]? = some (.pointer (some ⟨b, off + k * 6 + 2, none⟩)) := known_atT ha hsz hlen hl 14 (by decide) (hd ⟨14, .data⟩ (by simp) rfl)
          have hb := hB.resolve_left (fun h => (fun h => (fun h => hn (hcl 31 _ rfl h ⟨15, .data⟩ (by simp) rfl)) (hcl 32 _ rfl h ⟨31, .data⟩ (by simp) rfl)) (hcl 33 _ rfl h ⟨32, .data⟩ (by simp) rfl))
          have z := (hb.cell (block_lt_of_cell d2)).trans d2
          refine wp_value (w' := w') (v := .int .i64 u.kind) (by simp [execOp, ev, go_sem, z]) ?_
          exact ⟨_, vt, xa, nb, xc, by rw [ha]; exact putT_put A 11 15 3 l _ _ (by omega) (by omega) (by decide), by rw [List.length_set]; exact hlen, set_known hlen (by decide) hl, fun h => hvt (h.resolve_left (by decide)), hB.imp_left .inr, hv0.imp_left .inr, fun h => hP (h.resolve_left (by decide)), fun h h' => hG (h.resolve_left (by decide)) (fun k => h' (.inr k))⟩
        | 16, ho =>
          cases Option.some.inj ho
          have ev : a.tmps[0]? = some (.slice (some ⟨b, off, none⟩) n cap) := by rw [ha, putT_other _ _ _ _ (by decide), putAll_low A 11 0 l (by omega) (by decide)]; exact s0
          refine wp_value (w' := w') (v := .slice (some ⟨b, off, none⟩) n cap) (by simp [execOp, ev, go_sem]) ?_
          exact ⟨_, vt, xa, nb, xc, by rw [ha]; exact putT_put A 11 16 3 l _ _ (by omega) (by omega) (by decide), by rw [List.length_set]; exact hlen, set_known hlen (by decide) hl, fun h => hvt (h.resolve_left (by decide)), hB.imp_left .inr, hv0.imp_left .inr, fun h => hP (h.resolve_left (by decide)), fun h h' => hG (h.resolve_left (by decide)) (fun k => h' (.inr k))⟩
        | 17, ho =>
          cases Option.some.inj ho
          have ev : a.tmps[4]? = some (.int .i64 (k : Int)) := by rw [ha, putT_other _ _ _ _ (by decide), putAll_low A 11 4 l (by omega) (by decide)]; exact s4
          refine wp_value (w' := w') (v := .int .i64 (k : Int)) (by simp [execOp, ev, go_sem]) ?_
          exact ⟨_, vt, xa, nb, xc, by rw [ha]; exact putT_put A 11 17 3 l _ _ (by omega) (by omega) (by decide), by rw [List.length_set]; exact hlen, set_known hlen (by decide) hl, fun h => hvt (h.resolve_left (by decide)), hB.imp_left .inr, hv0.imp_left .inr, fun h => hP (h.resolve_left (by decide)), fun h h' => hG (h.resolve_left (by decide)) (fun k => h' (.inr k))⟩
        | 18, ho =>
          cases Option.some.inj ho
          have ev : a.tmps[27]? = some (.slice (some ⟨b, off, none⟩) n cap) := known_atT ha hsz hlen hl 16 (by decide) (hd ⟨16, .data⟩ (by simp) rfl)
          have ev' : a.tmps[28]? = some (.int .i64 (k : Int)) := known_atT ha hsz hlen hl 17 (by decide) (hd ⟨17, .data⟩ (by simp) rfl)
          refine wp_value (w' := w') (v := .pointer (some ⟨b, off + k * 6, none⟩)) (by simp [execOp, ev, ev', go_sem, hki]) ?_
          exact ⟨_, vt, xa, nb, xc, by rw [ha]; exact putT_put A 11 18 3 l _ _ (by omega) (by omega) (by decide), by rw [List.length_set]; exact hlen, set_known hlen (by decide) hl, fun h => hvt (h.resolve_left (by decide)), hB.imp_left .inr, hv0.imp_left .inr, fun h => hP (h.resolve_left (by decide)), fun h h' => hG (h.resolve_left (by decide)) (fun k => h' (.inr k))⟩
        | 19, ho =>
          cases Option.some.inj ho
          have ev : a.tmps[29]? = some (.pointer (some ⟨b, off + k * 6, none⟩)) := known_atT ha hsz hlen hl 18 (by decide) (hd ⟨18, .data⟩ (by simp) rfl)
          refine wp_value (w' := w') (v := .pointer (some ⟨b, off + k * 6 + 3, none⟩)) (by simp [execOp, ev, go_sem]) ?_
          exact ⟨_, vt, xa, nb, xc, by rw [ha]; exact putT_put A 11 19 3 l _ _ (by omega) (by omega) (by decide), by rw [List.length_set]; exact hlen, set_known hlen (by decide) hl, fun h => hvt (h.resolve_left (by decide)), hB.imp_left .inr, hv0.imp_left .inr, fun h => hP (h.resolve_left (by decide)), fun h h' => hG (h.resolve_left (by decide)) (fun k => h' (.inr k))⟩
        | 20, ho =>
          cases Option.some.inj ho
          have ev : a.tmps[30]? = some (.pointer (some ⟨b, off + k * 6 + 3, none⟩)) := known_atT ha hsz hlen hl 19 (by decide) (hd ⟨19, .data⟩ (by simp) rfl)
          have hb := hB.resolve_left (fun h => (fun h => (fun h => hn (hcl 31 _ rfl h ⟨20, .data⟩ (by simp) rfl)) (hcl 32 _ rfl h ⟨31, .data⟩ (by simp) rfl)) (hcl 33 _ rfl h ⟨32, .data⟩ (by simp) rfl))
          have z := (hb.cell (block_lt_of_cell d3)).trans d3
          refine wp_value (w' := w') (v := .int .i64 (u.depth : Int)) (by simp [execOp, ev, go_sem, z]) ?_
          exact ⟨_, vt, xa, nb, xc, by rw [ha]; exact putT_put A 11 20 3 l _ _ (by omega) (by omega) (by decide), by rw [List.length_set]; exact hlen, set_known hlen (by decide) hl, fun h => hvt (h.resolve_left (by decide)), hB.imp_left .inr, hv0.imp_left .inr, fun h => hP (h.resolve_left (by decide)), fun h h' => hG (h.resolve_left (by decide)) (fun k => h' (.inr k))⟩
        | 21, ho =>
          cases Option.some.inj ho
          have ev : a.tmps[0]? = some (.slice (some ⟨b, off, none⟩) n cap) := by rw [ha, putT_other _ _ _ _ (by decide), putAll_low A 11 0 l (by omega) (by decide)]; exact s0
          refine wp_value (w' := w') (v := .slice (some ⟨b, off, none⟩) n cap) (by simp [execOp, ev, go_sem]) ?_
          exact ⟨_, vt, xa, nb, xc, by rw [ha]; exact putT_put A 11 21 3 l _ _ (by omega) (by omega) (by decide), by rw [List.length_set]; exact hlen, set_known hlen (by decide) hl, fun h => hvt (h.resolve_left (by decide)), hB.imp_left .inr, hv0.imp_left .inr, fun h => hP (h.resolve_left (by decide)), fun h h' => hG (h.resolve_left (by decide)) (fun k => h' (.inr k))⟩
        | 22, ho =>
          cases Option.some.inj ho
          have ev : a.tmps[4]? = some (.int .i64 (k : Int)) := by rw [ha, putT_other _ _ _ _ (by decide), putAll_low A 11 4 l (by omega) (by decide)]; exact s4
          refine wp_value (w' := w') (v := .int .i64 (k : Int)) (by simp [execOp, ev, go_sem]) ?_
          exact ⟨_, vt, xa, nb, xc, by rw [ha]; exact putT_put A 11 22 3 l _ _ (by omega) (by omega) (by decide), by rw [List.length_set]; exact hlen, set_known hlen (by decide) hl, fun h => hvt (h.resolve_left (by decide)), hB.imp_left .inr, hv0.imp_left .inr, fun h => hP (h.resolve_left (by decide)), fun h h' => hG (h.resolve_left (by decide)) (fun k => h' (.inr k))⟩
        | 23, ho =>
          cases Option.some.inj ho
          have ev : a.tmps[32]? = some (.slice (some ⟨b, off, none⟩) n cap) := known_atT ha hsz hlen hl 21 (by decide) (hd ⟨21, .data⟩ (by simp) rfl)
          have ev' : a.tmps[33]? = some (.int .i64 (k : Int)) := known_atT ha hsz hlen hl 22 (by decide) (hd ⟨22, .data⟩ (by simp) rfl)
          refine wp_value (w' := w') (v := .pointer (some ⟨b, off + k * 6, none⟩)) (by simp [execOp, ev, ev', go_sem, hki]) ?_
          exact ⟨_, vt, xa, nb, xc, by rw [ha]; exact putT_put A 11 23 3 l _ _ (by omega) (by omega) (by decide), by rw [List.length_set]; exact hlen, set_known hlen (by decide) hl, fun h => hvt (h.resolve_left (by decide)), hB.imp_left .inr, hv0.imp_left .inr, fun h => hP (h.resolve_left (by decide)), fun h h' => hG (h.resolve_left (by decide)) (fun k => h' (.inr k))⟩
        | 24, ho =>
          cases Option.some.inj ho
          have ev : a.tmps[34]? = some (.pointer (some ⟨b, off + k * 6, none⟩)) := known_atT ha hsz hlen hl 23 (by decide) (hd ⟨23, .data⟩ (by simp) rfl)
          refine wp_value (w' := w') (v := .pointer (some ⟨b, off + k * 6 + 4, none⟩)) (by simp [execOp, ev, go_sem]) ?_
          exact ⟨_, vt, xa, nb, xc, by rw [ha]; exact putT_put A 11 24 3 l _ _ (by omega) (by omega) (by decide), by rw [List.length_set]; exact hlen, set_known hlen (by decide) hl, fun h => hvt (h.resolve_left (by decide)), hB.imp_left .inr, hv0.imp_left .inr, fun h => hP (h.resolve_left (by decide)), fun h h' => hG (h.resolve_left (by decide)) (fun k => h' (.inr k))⟩
        | 25, ho =>
          cases Option.some.inj ho
          have ev : a.tmps[35]? = some (.pointer (some ⟨b, off + k * 6 + 4, none⟩)) := known_atT ha hsz hlen hl 24 (by decide) (hd ⟨24, .data⟩ (by simp) rfl)
          have hb := hB.resolve_left (fun h => (fun h => (fun h => hn (hcl 31 _ rfl h ⟨25, .data⟩ (by simp) rfl)) (hcl 32 _ rfl h ⟨31, .data⟩ (by simp) rfl)) (hcl 33 _ rfl h ⟨32, .data⟩ (by simp) rfl))
          have z := (hb.cell (block_lt_of_cell d4)).trans d4
          refine wp_value (w' := w') (v := .int .i64 (u.index : Int)) (by simp [execOp, ev, go_sem, z]) ?_
          exact ⟨_, vt, xa, nb, xc, by rw [ha]; exact putT_put A 11 25 3 l _ _ (by omega) (by omega) (by decide), by rw [List.length_set]; exact hlen, set_known hlen (by decide) hl, fun h => hvt (h.resolve_left (by decide)), hB.imp_left .inr, hv0.imp_left .inr, fun h => hP (h.resolve_left (by decide)), fun h h' => hG (h.resolve_left (by decide)) (fun k => h' (.inr k))⟩
        | 26, ho =>
          cases Option.some.inj ho
          have ev : a.tmps[0]? = some (.slice (some ⟨b, off, none⟩) n cap) := by rw [ha, putT_other _ _ _ _ (by decide), putAll_low A 11 0 l (by omega) (by decide)]; exact s0
          refine wp_value (w' := w') (v := .slice (some ⟨b, off, none⟩) n cap) (by simp [execOp, ev, go_sem]) ?_
          exact ⟨_, vt, xa, nb, xc, by rw [ha]; exact putT_put A 11 26 3 l _ _ (by omega) (by omega) (by decide), by rw [List.length_set]; exact hlen, set_known hlen (by decide) hl, fun h => hvt (h.resolve_left (by decide)), hB.imp_left .inr, hv0.imp_left .inr, fun h => hP (h.resolve_left (by decide)), fun h h' => hG (h.resolve_left (by decide)) (fun k => h' (.inr k))⟩
        | 27, ho =>
          cases Option.some.inj ho
          have ev : a.tmps[4]? = some (.int .i64 (k : Int)) := by rw [ha, putT_other _ _ _ _ (by decide), putAll_low A 11 4 l (by omega) (by decide)]; exact s4
          refine wp_value (w' := w') (v := .int .i64 (k : Int)) (by simp [execOp, ev, go_sem]) ?_
          exact ⟨_, vt, xa, nb, xc, by rw [ha]; exact putT_put A 11 27 3 l _ _ (by omega) (by omega) (by decide), by rw [List.length_set]; exact hlen, set_known hlen (by decide) hl, fun h => hvt (h.resolve_left (by decide)), hB.imp_left .inr, hv0.imp_left .inr, fun h => hP (h.resolve_left (by decide)), fun h h' => hG (h.resolve_left (by decide)) (fun k => h' (.inr k))⟩
        | 28, ho =>
          cases Option.some.inj ho
          have ev : a.tmps[37]? = some (.slice (some ⟨b, off, none⟩) n cap) := known_atT ha hsz hlen hl 26 (by decide) (hd ⟨26, .data⟩ (by simp) rfl)
          have ev' : a.tmps[38]? = some (.int .i64 (k : Int)) := known_atT ha hsz hlen hl 27 (by decide) (hd ⟨27, .data⟩ (by simp) rfl)
          refine wp_value (w' := w') (v := .pointer (some ⟨b, off + k * 6, none⟩)) (by simp [execOp, ev, ev', go_sem, hki]) ?_
          exact ⟨_, vt, xa, nb, xc, by rw [ha]; exact putT_put A 11 28 3 l _ _ (by omega) (by omega) (by decide), by rw [List.length_set]; exact hlen, set_known hlen (by decide) hl, fun h => hvt (h.resolve_left (by decide)), hB.imp_left .inr, hv0.imp_left .inr, fun h => hP (h.resolve_left (by decide)), fun h h' => hG (h.resolve_left (by decide)) (fun k => h' (.inr k))⟩
        | 29, ho =>
          cases Option.some.inj ho
          have ev : a.tmps[39]? = some (.pointer (some ⟨b, off + k * 6, none⟩)) := known_atT ha hsz hlen hl 28 (by decide) (hd ⟨28, .data⟩ (by simp) rfl)
          refine wp_value (w' := w') (v := .pointer (some ⟨b, off + k * 6 + 5, none⟩)) (by simp [execOp, ev, go_sem]) ?_
          exact ⟨_, vt, xa, nb, xc, by rw [ha]; exact putT_put A 11 29 3 l _ _ (by omega) (by omega) (by decide), by rw [List.length_set]; exact hlen, set_known hlen (by decide) hl, fun h => hvt (h.resolve_left (by decide)), hB.imp_left .inr, hv0.imp_left .inr, fun h => hP (h.resolve_left (by decide)), fun h h' => hG (h.resolve_left (by decide)) (fun k => h' (.inr k))⟩
        | 30, ho =>
          cases Option.some.inj ho
          have ev : a.tmps[40]? = some (.pointer (some ⟨b, off + k * 6 + 5, none⟩)) := known_atT ha hsz hlen hl 29 (by decide) (hd ⟨29, .data⟩ (by simp) rfl)
          have hb := hB.resolve_left (fun h => (fun h => (fun h => hn (hcl 31 _ rfl h ⟨30, .data⟩ (by simp) rfl)) (hcl 32 _ rfl h ⟨31, .data⟩ (by simp) rfl)) (hcl 33 _ rfl h ⟨32, .data⟩ (by simp) rfl))
          have z := (hb.cell (block_lt_of_cell d5)).trans d5
          refine wp_value (w' := w') (v := .bool u.write) (by simp [execOp, ev, go_sem, z]) ?_
          exact ⟨_, vt, xa, nb, xc, by rw [ha]; exact putT_put A 11 30 3 l _ _ (by omega) (by omega) (by decide), by rw [List.length_set]; exact hlen, set_known hlen (by decide) hl, fun h => hvt (h.resolve_left (by decide)), hB.imp_left .inr, hv0.imp_left .inr, fun h => hP (h.resolve_left (by decide)), fun h h' => hG (h.resolve_left (by decide)) (fun k => h' (.inr k))⟩
        | 31, ho =>
          cases Option.some.inj ho
          have ev : a.tmps[16]? = some (.int .i64 (u.pos : Int)) := known_atT ha hsz hlen hl 5 (by decide) (hd ⟨5, .data⟩ (by simp) rfl)
          have ev' : a.tmps[21]? = some (.string (strOfNums u.name)) := known_atT ha hsz hlen hl 10 (by decide) (hd ⟨10, .data⟩ (by simp) rfl)
          have ev'' : a.tmps[26]? = some (.int .i64 u.kind) := known_atT ha hsz hlen hl 15 (by decide) (hd ⟨15, .data⟩ (by simp) rfl)
          have ev''' : a.tmps[31]? = some (.int .i64 (u.depth : Int)) := known_atT ha hsz hlen hl 20 (by decide) (hd ⟨20, .data⟩ (by simp) rfl)
          have ev'''' : a.tmps[36]? = some (.int .i64 (u.index : Int)) := known_atT ha hsz hlen hl 25 (by decide) (hd ⟨25, .data⟩ (by simp) rfl)
          have ev''''' : a.tmps[41]? = some (.bool u.write) := known_atT ha hsz hlen hl 30 (by decide) (hd ⟨30, .data⟩ (by simp) rfl)
          refine wp_value (w' := w') (v := .agg #[.int .i64 (u.pos : Int), .string (strOfNums u.name), .int .i64 u.kind, .int .i64 (u.depth : Int), .int .i64 (u.index : Int), .bool u.write]) (by simp [execOp, ev, ev', ev'', ev''', ev'''', ev''''', go_sem]) ?_
          exact ⟨_, vt, xa, nb, xc, by rw [ha]; exact putT_put A 11 31 3 l _ _ (by omega) (by omega) (by decide), by rw [List.length_set]; exact hlen, set_known hlen (by decide) hl, fun h => hvt (h.resolve_left (by decide)), hB.imp_left .inr, hv0.imp_left .inr, fun h => hP (h.resolve_left (by decide)), fun h h' => hG (h.resolve_left (by decide)) (fun k => h' (.inr k))⟩
        | 32, ho =>
          cases Option.some.inj ho
          have ev : a.tmps[42]? = some (.agg #[.int .i64 (u.pos : Int), .string (strOfNums u.name), .int .i64 u.kind, .int .i64 (u.depth : Int), .int .i64 (u.index : Int), .bool u.write]) := known_atT ha hsz hlen hl 31 (by decide) (hd ⟨31, .data⟩ (by simp) rfl)
          have hb := hB.resolve_left (fun h => hn (hcl 33 _ rfl h ⟨32, .data⟩ (by simp) rfl))
          refine wp_value (w' := w'.alloc (.cells #[.int .i64 (u.pos : Int), .string (strOfNums u.name), .int .i64 u.kind, .int .i64 (u.depth : Int), .int .i64 (u.index : Int), .bool u.write] 43)) (v := .slice (some ⟨w'.heap.size, 0, none⟩) 1 1) (by simp [execOp, ev, go_sem]) ?_
          exact ⟨_, vt, xa, w'.heap.size, xc, by rw [ha]; exact putT_put A 11 32 3 l _ _ (by omega) (by omega) (by decide), by rw [List.length_set]; exact hlen, set_known' (val' := tkuV b off n cap k ca xa cc w'.heap.size xc u) hlen (by decide) hl (fun j hj hne => match j, hj, hne with | 0, _, _ => rfl | 1, _, _ => rfl | 2, _, _ => rfl | 3, _, _ => rfl | 4, _, _ => rfl | 5, _, _ => rfl | 6, _, _ => rfl | 7, _, _ => rfl | 8, _, _ => rfl | 9, _, _ => rfl | 10, _, _ => rfl | 11, _, _ => rfl | 12, _, _ => rfl | 13, _, _ => rfl | 14, _, _ => rfl | 15, _, _ => rfl | 16, _, _ => rfl | 17, _, _ => rfl | 18, _, _ => rfl | 19, _, _ => rfl | 20, _, _ => rfl | 21, _, _ => rfl | 22, _, _ => rfl | 23, _, _ => rfl | 24, _, _ => rfl | 25, _, _ => rfl | 26, _, _ => rfl | 27, _, _ => rfl | 28, _, _ => rfl | 29, _, _ => rfl | 30, _, _ => rfl | 31, _, _ => rfl | 32, _, hne => absurd rfl hne | 33, _, _ => rfl | j + 34, _, _ => rfl), fun h => hvt (h.resolve_left (by decide)), hB.imp .inr (fun h => below_size h (Nat.le_refl _) boxO), hv0.imp_left .inr, fun h => absurd (h.resolve_left (by decide)) (fun h => hn (hcl 33 _ rfl h ⟨32, .data⟩ (by simp) rfl)), fun _ _ => ⟨newO w' _, hb.size⟩⟩
        | 33, ho =>
          cases Option.some.inj ho
          have ev : a.tmps[11]? = some (.slice ca k cc) := known_atT ha hsz hlen hl 0 (by decide) (hd ⟨0, .data⟩ (by simp) rfl)
          have ev' : a.tmps[43]? = some (.slice (some ⟨nb, 0, none⟩) 1 1) := known_atT ha hsz hlen hl 32 (by decide) (hd ⟨32, .data⟩ (by simp) rfl)
          have hb := hB.resolve_left hn
          obtain ⟨G1, G2⟩ := hG (hd ⟨32, .data⟩ (by simp) rfl) hn
          refine op31 w' (.tmp 11) (.tmp 43) rfl (u := u) (us := us.take k) (n := k) (by rw [List.length_take]; omega) (by simpa [Act.eval] using evalS ev) (by simpa [Act.eval] using evalS ev') (own3_keep OC fun g hg => hb.block g (own3_lt OC hg)) G1 (by omega) (Nat.le_trans hN hb.size) ?_
          intro xa' xc' w6 O6 K6 P6
          exact ⟨_, vt, xa', nb, xc', by rw [ha]; exact putT_put A 11 33 3 l _ _ (by omega) (by omega) (by decide), by rw [List.length_set]; exact hlen, set_known' (val' := tkuV b off n cap k ca xa' cc nb xc' u) hlen (by decide) hl (fun j hj hne => match j, hj, hne with | 0, _, _ => rfl | 1, _, _ => rfl | 2, _, _ => rfl | 3, _, _ => rfl | 4, _, _ => rfl | 5, _, _ => rfl | 6, _, _ => rfl | 7, _, _ => rfl | 8, _, _ => rfl | 9, _, _ => rfl | 10, _, _ => rfl | 11, _, _ => rfl | 12, _, _ => rfl | 13, _, _ => rfl | 14, _, _ => rfl | 15, _, _ => rfl | 16, _, _ => rfl | 17, _, _ => rfl | 18, _, _ => rfl | 19, _, _ => rfl | 20, _, _ => rfl | 21, _, _ => rfl | 22, _, _ => rfl | 23, _, _ => rfl | 24, _, _ => rfl | 25, _, _ => rfl | 26, _, _ => rfl | 27, _, _ => rfl | 28, _, _ => rfl | 29, _, _ => rfl | 30, _, _ => rfl | 31, _, _ => rfl | 32, _, _ => rfl | 33, _, hne => absurd rfl hne | j + 34, _, _ => rfl), fun h => absurd (h.resolve_left (by decide)) (fun h => hn (hcl 34 _ rfl h ⟨33, .data⟩ (by simp) rfl)), .inl (.inl rfl), hv0.imp_left .inr, fun _ => ⟨O6, (hb.mono hN).trans (K6.below (Nat.le_trans hN hb.size) (fun g hg => own3_base OC hg))⟩, fun _ h' => absurd (.inl rfl) h'⟩
        | 34, ho =>
          cases Option.some.inj ho
          have ev : a.tmps[44]? = some (.slice xa (k + 1) xc) := known_atT ha hsz hlen hl 33 (by decide) (hd ⟨33, .data⟩ (by simp) rfl)
          refine wp_value (w' := w') (v := .slice xa (k + 1) xc) (by simp [execOp, ev, go_sem]) ?_
          exact ⟨l, (.slice xa (k + 1) xc), xa, nb, xc, by rw [ha]; exact putT_again _ _ _ _, hlen, fun j hj h => hl j hj (h.resolve_left (by omega)), fun _ => rfl, hB.imp_left .inr, .inl (.inl rfl), fun h => hP (h.resolve_left (by decide)), fun h h' => hG (h.resolve_left (by decide)) (fun k => h' (.inr k))⟩
        | i + 35, ho => simp at ho
      case done =>
        rintro D a w' ⟨l, vt, xa, nb, xc, ha, hlen, hl, hvt, hB, hv0, hP, hG⟩ hall
        obtain rfl := hvt (hall 34 (by decide))
        obtain ⟨v0, v1, v2, v3, v4, v5, v6, v7, v8, v9, v10, v11, v12, v13, v14, v15, v16, v17, v18, v19, v20, v21, v22, v23, v24, v25, v26, v27, v28, v29, v30, v31, v32, v33, rfl⟩ := tkuV_list hlen
        obtain ⟨O9, B9⟩ := hP (hall 33 (by decide))
        subst hA
        have hfr : a = _ := ha
        rw [hfr]
        clear hfr ha
        simp only [putAll, List.take_succ_cons, List.take_zero, List.drop_succ_cons, List.drop_zero, List.cons_append, List.nil_append, List.length_cons, List.length_nil]
        clear hl hB hv0 hP hG hall
        rw [← hsnoc.out] at O9
        have B99 := Bw.trans B9
        clear d0 d1 d2 d3 d4 d5 OC Bw B9
        go_wp2_with fail
        go_roundw
        case rel => exact ⟨k + 1, by omega, by go_num, _, _, ⟨rfl, rfl, rfl⟩, O9⟩
        case measure => simp [intOf]; omega
    · have hki : ¬ (k : Int) < (n : Int) := by omega
      have hkn : k = n := by omega
      rw [List.take_of_length_le (by omega)] at OC
      rw [hkn, hn] at OC
      rw [hN0.out] at OC Bw
      go_wp2
      go_ret
      exact ⟨ca, cc, rfl, OC, Bw⟩
end Go.Proofs.Ytoghhjljmhdioaa
