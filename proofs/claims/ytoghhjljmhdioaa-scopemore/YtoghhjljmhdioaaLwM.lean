/- append of texts onto a row of one's own. -/
import Derived.Test.YtoghhjljmhdioaaKnu
import Derived.BigQuiet
namespace Go.Proofs.Ytoghhjljmhdioaa
open Go.RowKit
set_option maxRecDepth 100000
theorem own1_lt {e : TypeId} {B z : Nat} {w : World} {v : Value} {n : Nat} {fl : List Value} (h : w.ownsRow B e z v n fl) {g : Nat} (hg : v.ownBlock = some g) : g < w.heap.size := by
  rcases h.2 with ⟨rfl, _⟩ | ⟨g', cap', cur', rfl, hb', hh, _⟩
  · simp [Value.ownBlock] at hg
  · simp [Value.ownBlock] at hg
    subst hg
    exact lt_of_block hh
theorem own1_base {e : TypeId} {B z : Nat} {w : World} {v : Value} {n : Nat} {fl : List Value} (h : w.ownsRow B e z v n fl) {g : Nat} (hg : v.ownBlock = some g) : B ≤ g := by
  rcases h.2 with ⟨rfl, _⟩ | ⟨g', cap', cur', rfl, hb', hh, _⟩
  · simp [Value.ownBlock] at hg
  · simp [Value.ownBlock] at hg
    subst hg
    exact hb'
theorem own1_keep {e : TypeId} {B z : Nat} {w w' : World} {v : Value} {n : Nat} {fl : List Value} (h : w.ownsRow B e z v n fl) (k : ∀ g, v.ownBlock = some g → w'.heap[g]? = w.heap[g]?) : w'.ownsRow B e z v n fl := by
  refine ⟨h.1, ?_⟩
  rcases h.2 with h | ⟨g, cap, cur, e, hB, hg, rest⟩
  · exact .inl h
  · exact .inr ⟨g, cap, cur, e, hB, (k g (by rw [e]; rfl)).trans hg, rest⟩
theorem own1_shape {e : TypeId} {B z : Nat} {w : World} {v : Value} {n : Nat} {fl : List Value} (h : w.ownsRow B e z v n fl) : ∃ va vc, v = .slice va n vc := by
  rcases h.2 with ⟨rfl, h0⟩ | ⟨g', cap, cur, rfl, _⟩
  · exact ⟨none, 0, by rw [h0]⟩
  · exact ⟨_, _, rfl⟩
theorem own1_sl {e : TypeId} {B : Nat} {w : World} {a : Option Addr} {n c m : Nat} {fl : List Value} (h : w.ownsRow B e 1 (.slice a n c) m fl) : n = m ∧ SlF (fun b => B ≤ b) w a n c fl := by
  have hs := h.1
  rcases h.2 with ⟨e0, h0⟩ | ⟨g, cap, cur, e0, hb, hg, hn, hm, hc, ht⟩
  · simp only [Value.slice.injEq] at e0
    obtain ⟨rfl, rfl, rfl⟩ := e0
    rw [h0] at hs
    have : fl = [] := List.eq_nil_of_length_eq_zero (by omega)
    subst this
    exact ⟨h0.symm, SlF.nil _ _⟩
  · simp only [Value.slice.injEq] at e0
    obtain ⟨rfl, rfl, rfl⟩ := e0
    refine ⟨rfl, hn, hm, by simp, fun _ => ⟨g, 0, rfl, hb, fun j u hj => ?_⟩⟩
    have := World.ownsRow.cells h (g := g) rfl j u hj
    rw [addrAdd] at this
    exact this
theorem apS {ops : Array Oper} {rest : List Oper} {o : Oper} {a : Act} {Q : Exit → Act → World → Prop} (w : World) (hgd : o.guard = none) (s x : Operand) (ho : o.op = .call { callee := .builtin .append, args := #[s, x], argTypes := #[22, 22] }) {B n : Nat} {v : Value} {xs ys : List Value} {A : Nat → Prop} (hs : a.eval s = v) (q1 : w.ownsRow B 9 1 v n xs) {xa : Option Addr} {m c : Nat} (hx : a.eval x = .slice xa m c) (sl : SlF A w xa m c ys) (hm : ys.length = m) (h1c : ∀ u ∈ ys, u.oneCell' = true) (hmx : n + m ≤ maxLen) (hbb : (n + m) * 16 ≤ 140737488355328) (hB : B ≤ w.heap.size)
    (h : ∀ (va : Option Addr) (vc : Nat) w', w'.ownsRow B 9 1 (.slice va (n + m) vc) (n + m) (xs ++ ys) → Below B w w' → wpList Try.prog ops Q rest (a.put o.dst (.slice va (n + m) vc)) w') : wpList Try.prog ops Q (o :: rest) a w := by
  obtain ⟨i, hi, hz, hsize, hby⟩ := info_pts info9
  cases xa with
  | none =>
    have hc := sl.nil0 rfl
    have hr := sl.room
    have hm0 : m = 0 := by omega
    subst hm0
    have hy : ys = [] := List.eq_nil_of_length_eq_zero hm
    subst hy
    obtain rfl : c = 0 := hc
    obtain ⟨va, vc, rfl⟩ := own1_shape q1
    have hrun := run_append_owned_none (P := Try.prog) (w := w) B 22 o.type 9 i 1 Try.underlying22 hi (.slice va n vc) n xs q1
    refine Lib.wpList_append_run w hgd s x 22 22 ho _ _ hs hx _ w hrun ?_
    have := h va vc w (by rw [List.append_nil]; exact q1) (Below.refl _ _)
    exact this
  | some ad =>
    have hnews : ∀ j u, ys[j]? = some u → w.cell? (ad.add j) = some u := by
      intro j u hj
      have h0 : 0 < ys.length := by
        have := (List.getElem?_eq_some_iff.1 hj).1
        omega
      obtain ⟨b, off, e, _, hc⟩ := sl.cells h0
      simp only [Option.some.injEq] at e
      subst e
      rw [addrAdd]
      exact hc j u hj
    obtain ⟨v', w', hr, o1, o2, _⟩ := run_append_own (P := Try.prog) w B 22 o.type 9 i _ 1 16 Try.underlying22 hi hz hsize hby rfl (by decide) v n _ q1 ad m c ys (by omega) hnews h1c (by first | exact hmx | (unfold maxLen at hmx ⊢; omega)) hbb hB
    obtain ⟨va, vc, rfl⟩ := own1_shape o1
    refine Lib.wpList_append_run w hgd s x 22 22 ho _ _ hs hx _ w' hr (h va vc w' o1 ?_)
    exact ⟨o2.os, o2.tape, o2.output, o2.size, fun b hb => o2.block b (Nat.lt_of_lt_of_le hb hB) (fun e => by have := own1_base q1 e.symm; omega)⟩
theorem bsS {ops : Array Oper} {rest : List Oper} {o : Oper} {a : Act} {Q : Exit → Act → World → Prop} (w : World) (hgd : o.guard = none) (x : Operand) (ho : o.op = .buildSlice 22 1 #[(0, x)]) (s : ByteArray) (hx : a.eval x = .string s)
    (h : ∀ g w', w'.heap[g]? = some (.cells #[.string s] 9) → w.heap.size ≤ g → Below w.heap.size w w' → wpList Try.prog ops Q rest (a.put o.dst (.slice (some ⟨g, 0, none⟩) 1 1)) w') : wpList Try.prog ops Q (o :: rest) a w :=
  by
  obtain ⟨i, hi, hz, hsize, hby⟩ := info_pts info9
  refine wpList_buildSlice hgd 22 9 1 _ ho #[.string s] i _ Try.underlying22 hi hz (by rw [hsize]; decide) (by rw [hsize]; decide) ?_ (h w.heap.size _ (newO w _) (Nat.le_refl _) boxO)
  rw [Array.toList_map]
  show Instr.fill _ _ [(0, a.eval x)] = _
  rw [hx, hsize]
  first | kernel_rfl | simp [Instr.fill, Value.cells] | decide
end Go.Proofs.Ytoghhjljmhdioaa
namespace Go.Proofs.Ytoghhjljmhdioaa
open Go.RowKit
set_option maxRecDepth 100000
theorem untM_len {sl : List (List Int)} {E : Ev} {x : Nd} {us : List Us} (h : untR sl E x = .ok us) : us.length ≤ cntN x := by
  unfold untR at h
  split at h
  · have := prsR_len _ h
    rw [cntN_kids]
    omega
  · cases h
mutual
theorem prtR_byt {sl : List (List Int)} : ∀ (x : Nd) {E : Ev} {rc : Bool} {us : List Us}, Byt x → prtR sl E rc x = .ok us → ∀ u ∈ us, ∀ c ∈ u.name, 0 ≤ c ∧ c < 256
  | .mk k t p n l kids, E, rc, us, hx, h => by
    unfold prtR at h
    by_cases h5 : k = 5
    · rw [if_pos h5] at h
      unfold varR at h
      split at h
      · split at h
        · cases h
        · cases h
          intro u hu
          rw [List.mem_singleton.1 hu]
          exact hx.textOf
      · cases h
    rw [if_neg h5] at h
    by_cases h6 : k = 6
    · rw [if_pos h6] at h
      obtain ⟨a, ha, h⟩ := bind_ok h
      obtain ⟨b, hb, h⟩ := bind_ok h
      cases h
      intro u hu
      rcases List.mem_append.1 hu with hu | hu
      · unfold setR at ha
        split at ha
        · split at ha
          · cases ha
            rw [List.mem_singleton.1 hu]
            exact hx.textOf
          · cases ha
        · cases ha
      · exact prsR_byt kids hx.kidsOf hb u hu
    rw [if_neg h6] at h
    by_cases h10 : k = 10
    · rw [if_pos h10] at h
      by_cases hs : sndR l = true
      · rw [if_pos hs] at h
        exact prsR_byt kids hx.kidsOf h
      · rw [if_neg hs] at h
        cases h
    rw [if_neg h10] at h
    exact prsR_byt kids hx.kidsOf h
theorem prsR_byt {sl : List (List Int)} : ∀ (l : List Nd) {E : Ev} {rc : Bool} {us : List Us}, (∀ x ∈ l, Byt x) → prsR sl E rc l = .ok us → ∀ u ∈ us, ∀ c ∈ u.name, 0 ≤ c ∧ c < 256
  | [], E, rc, us, _, h => by
    unfold prsR at h
    cases h
    exact fun u hu => absurd hu List.not_mem_nil
  | x :: r, E, rc, us, hl, h => by
    unfold prsR at h
    obtain ⟨a, ha, h⟩ := bind_ok h
    obtain ⟨b, hb, h⟩ := bind_ok h
    cases h
    intro u hu
    rcases List.mem_append.1 hu with hu | hu
    · exact prtR_byt x (hl x (List.mem_cons_self ..)) ha u hu
    · exact prsR_byt r (fun y hy => hl y (List.mem_cons_of_mem _ hy)) hb u hu
end
theorem untR_byt {sl : List (List Int)} {E : Ev} {x : Nd} {us : List Us} (hx : Byt x) (h : untR sl E x = .ok us) : ∀ u ∈ us, ∀ c ∈ u.name, 0 ≤ c ∧ c < 256 := by
  unfold untR at h
  by_cases hs : sndR x.names = true
  · rw [if_pos hs] at h
    exact prsR_byt _ hx.kidsOf h
  · rw [if_neg hs] at h
    cases h
theorem strV_one (l : List (List Int)) : ∀ u ∈ l.map strV, u.oneCell' = true := by
  intro u hu
  obtain ⟨x, _, rfl⟩ := List.mem_map.1 hu
  rfl
set_option maxHeartbeats 8000000 in
theorem more_true (ss : List Int) (sl : List (List Int)) (mt : List Int) (w : World) (hb : ∀ x ∈ ss, 0 ≤ x ∧ x < 256) (hm : ss.length ≤ 9223372036854775807) {A' : Nat → Prop} {sa : Option Addr} {sc : Nat} (s : SlF A' w sa sl.length sc (sl.map strV)) (hs : BytL sl) (hcap : sc * 16 ≤ 140737488351232) (hmt : ∀ x ∈ mt, 0 ≤ x ∧ x < 256) :
    Calls Try.prog 3 #[.string (strOfNums ss), .slice sa sl.length sc, .string (strOfNums mt)] w fun e w' => e = .returned (.bool true) ∧ Below w.heap.size w w' := by
  have hroom := s.room
  have hsn : (sl.length + 1) * 16 ≤ 140737488355328 := by omega
  have hsx : sl.length + 1 ≤ maxLen := by unfold maxLen; omega
  go_enter Try.func3, Try.ntmps3
  go_wp2_with fail
  refine (resolved_any ss false sl w hb hm s hs).mono ?_
  rintro e w1 ⟨n, pl, er, hT, B1, h⟩
  rcases h with ⟨h0, rfl⟩ | ⟨rfl, h⟩
  · go_wp2_with fail
    refine (known_true w1).mono ?_
    rintro e w2 ⟨rfl, B2⟩
    go_wp2
    go_ret
    exact ⟨rfl, B1.trans (B2.mono B1.size)⟩
  cases hr : untR sl [] n with
  | error pp =>
    rw [hr] at h
    obtain rfl := h
    go_wp2_with fail
    refine (known_true w1).mono ?_
    rintro e w2 ⟨rfl, B2⟩
    go_wp2
    go_ret
    exact ⟨rfl, B1.trans (B2.mono B1.size)⟩
  | ok us =>
    rw [hr] at h
    obtain ⟨va, vc, rfl, o⟩ := h
    have hlen := untM_len hr
    obtain ⟨hc, hby⟩ := hT.siz hb
    have hub := untR_byt hby hr
    have s1 := (own3_sl o).2
    have hus : us.length ≤ 100000 := by omega
    clear hlen hc hby
    go_wp2_with fail
    go_loopw [11] (fun iv wr => ∃ k : Nat, k ≤ us.length ∧ iv = .int .i64 (k : Int) ∧ (∀ j u, j < k → us[j]? = some u → u.name ≠ mt) ∧ Below w.heap.size w wr ∧ Below w1.heap.size w1 wr) (fun iv _ => us.length - (intOf iv).toNat)
    case atStart => exact ⟨0, Nat.zero_le _, rfl, fun j u hj => by omega, B1, Below.refl _ _⟩
    case round =>
      obtain ⟨k, hk, rfl, hall, BR, B1R⟩ := hrel
      by_cases hlt : k < us.length
      · obtain ⟨u, hu⟩ : ∃ u, us[k]? = some u := ⟨_, List.getElem?_eq_getElem hlt⟩
        have hun := hub u (List.mem_of_getElem? hu)
        obtain ⟨g, off, rfl, _, hcc⟩ := s1.cells (by rw [usF_len]; omega)
        have hB0 : ∀ j x, (usC u)[j]? = some x → wr.cell? ⟨g, off + k * 6 + j, none⟩ = some x := fun j x hj => by
          have h1 := hcc _ _ (usF_at us k u hu j x hj)
          rw [← Nat.add_assoc] at h1
          exact (World.cell?_of_block (a := ⟨g, off + k * 6 + j, none⟩) (B1R.block g (block_lt_of_cell h1))).trans h1
        have d1 := hB0 1 _ rfl
        clear hcc hB0
        have hki : (k : Int) < (us.length : Int) := by omega
        by_cases hxt : u.name = mt
        · have e1 : ((strOfNums u.name).toList == (strOfNums mt).toList) = true := by rw [hxt]; simp
          clear hxt
          go_wp2_with fail
          refine (known_true wr).mono ?_
          rintro e w2 ⟨rfl, B2⟩
          go_wp2
          go_ret
          exact ⟨rfl, BR.trans (B2.mono BR.size)⟩
        · have e1 : ((strOfNums u.name).toList == (strOfNums mt).toList) = false := by rw [str_same u.name mt hun hmt]; exact decide_eq_false hxt
          have hall2 : ∀ j u, j < k + 1 → us[j]? = some u → u.name ≠ mt := fun j v hj hv => by
            by_cases hjk : j = k
            · rw [hjk, hu] at hv
              cases hv
              exact hxt
            · exact hall j v (by omega) hv
          clear hall hu hxt
          go_wp2
          go_roundw
          case rel => exact ⟨k + 1, hlt, by go_num, hall2, BR, B1R⟩
          case measure => simp [intOf]; omega
      · have hki : ¬ (k : Int) < (us.length : Int) := by omega
        have hne : ∀ u ∈ us, u.name ≠ mt := fun u hu => by
          obtain ⟨j, hj⟩ := List.getElem?_of_mem hu
          exact hall j u (by have := (List.getElem?_eq_some_iff.1 hj).1; omega) hj
        have sR : SlF (fun _ => True) wr sa sl.length sc (sl.map strV) := s.imp fun b hb _ => ⟨trivial, BR.block b hb⟩
        have q0 : wr.ownsRow wr.heap.size 9 1 (.slice none 0 0) 0 [] := World.ownsRow_nil _ _ _ _
        clear hall
        go_wp2_with (at_builtin; refine apS _ rfl _ _ rfl rfl q0 rfl sR (by simp) (strV_one sl) (by omega) (by omega) (Nat.le_refl _) ?_)
        intro ya yc w2 q2 B2
        clear q0 sR
        go_wp2_with (refine bsS _ rfl _ rfl _ rfl ?_)
        intro g w3 E3 hg B3
        have q3 := own1_keep q2 fun g hg => B3.block g (own1_lt q2 hg)
        have s3 : SlF (fun _ => True) w3 (some ⟨g, 0, none⟩) 1 1 [strV mt] := SlF.lit E3 rfl (by decide) (by decide)
        have B03 : Below wr.heap.size wr w3 := B2.trans (B3.mono B2.size)
        clear q2 B2 E3 B3
        go_wp2_with (at_builtin; refine apS _ rfl _ _ rfl rfl q3 rfl s3 rfl (fun u hu => by rw [List.mem_singleton.1 hu]; rfl) hsx hsn B03.size ?_)
        intro za zc w4 q4 B4
        have B04 : Below wr.heap.size wr w4 := B03.trans B4
        have BA : Below w.heap.size w w4 := BR.trans (B04.mono BR.size)
        have BU : Below w1.heap.size w1 w4 := B1R.trans (B04.mono B1R.size)
        have hl' : (sl ++ [mt]).length = sl.length + 1 := by simp
        have sA : SlF (fun b => wr.heap.size ≤ b) w4 za (sl ++ [mt]).length zc ((sl ++ [mt]).map strV) := by rw [hl', List.map_append]; exact (own1_sl q4).2
        have hsA : BytL (sl ++ [mt]) := fun x hx => (List.mem_append.1 hx).elim (hs x) (fun h => by rw [List.mem_singleton.1 h]; exact hmt)
        have hcall := resolved_any ss false (sl ++ [mt]) w4 hb hm sA hsA
        rw [hl'] at hcall
        clear q3 s3 B03 B04 BR B1R q4 B4 sA hsA
        go_wp2_with fail
        refine hcall.mono ?_
        rintro e w5 ⟨n', pl', er', hT', B5, h'⟩
        obtain ⟨rfl, rfl, he0⟩ := hT.det hT'
        subst he0
        have h' := (h'.resolve_left fun h => h.1 rfl).2
        rw [untR_more hr hne] at h'
        obtain ⟨vb, vd, rfl, o5⟩ := h'
        have BA5 := BA.trans (B5.mono BA.size)
        have BU5 := BU.trans (B5.mono BU.size)
        have s5 : SlF (fun _ => True) w5 va us.length vc (usF us) := s1.imp fun b hb _ => ⟨trivial, BU5.block b hb⟩
        clear hcall hT hT' BA BU B5 hr
        go_wp2_with fail
        refine (taken_any us s5 (by omega)).mono ?_
        rintro e w6 ⟨ra, rc, rfl, o6, B6⟩
        have BA6 := BA5.trans (B6.mono BA5.size)
        have s6 : SlF (fun _ => True) w6 vb us.length vd (usF us) := (own3_sl o5).2.imp fun b hb _ => ⟨trivial, B6.block b hb⟩
        clear BA5 BU5 s5 B6 o5
        go_wp2_with fail
        refine (taken_any us s6 (by omega)).mono ?_
        rintro e w7 ⟨rb, rd, rfl, o7, B7⟩
        have BA7 := BA6.trans (B7.mono BA6.size)
        have s7 : SlF (fun _ => True) w7 ra us.length rc (usF us) := (own3_sl o6).2.imp fun b hb _ => ⟨trivial, B7.block b hb⟩
        clear BA6 s6 B7 o6
        go_wp2_with fail
        refine (same_yes us s7 (own3_sl o7).2 (by omega)).mono ?_
        rintro e w8 ⟨rfl, B8⟩
        have BA8 := BA7.trans (B8.mono BA7.size)
        clear BA7 s7 B8 o7
        go_wp2_with fail
        refine (known_true w8).mono ?_
        rintro e w9 ⟨rfl, B9⟩
        go_wp2
        go_ret
        exact ⟨rfl, BA8.trans (B9.mono BA8.size)⟩
end Go.Proofs.Ytoghhjljmhdioaa
