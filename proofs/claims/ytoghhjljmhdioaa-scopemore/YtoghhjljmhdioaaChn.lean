/- Uses in memory; what nobody else can be called. -/
import Derived.Test.YtoghhjljmhdioaaIdx
namespace Go.Proofs.Ytoghhjljmhdioaa
open Go.RowKit
set_option maxRecDepth 100000
theorem results_ct {P : Program} {fn : Func} {tmps : Array Value} {a t c : Nat} {ad : Addr} {w : World} {v u : Value} (hf : fn.results = #[.cell a t, .tmp c]) (ha : tmps[a]?.getD undef = .pointer (some ad)) (hl : (loadVar t ad).run P w = .ok v w) (hu : tmps[c]?.getD undef = u) : (results fn tmps).run P w = .ok (.tuple #[v, u]) w := by
  unfold results
  rw [hf]
  simp [ha, asAddr, hl, hu]
theorem Try.results30 : Try.f30.results = #[.cell 2 29, .tmp 3] := by kernel_rfl
theorem info29 : (Try.prog.info? 29).map (fun i => (i.zero, i.size, i.bytes)) = some (some (.agg #[.int .i64 0, .string ⟨#[]⟩, .int .i64 0, .int .i64 0, .int .i64 0, .bool false]), 6, 56) := by kernel_rfl
def usB (p : Int) (s : ByteArray) (k d i : Int) (b : Bool) : Obj := .cells #[.int .i64 p, .string s, .int .i64 k, .int .i64 d, .int .i64 i, .bool b] 29
section
variable {ops : Array Oper} {rest : List Oper} {o : Oper} {a : Act} {Q : Exit → Act → World → Prop}
theorem al29 (w : World) (hgd : o.guard = none) (ho : o.op = .alloc 29) (h : ∀ q w', w'.heap[q]? = some (usB 0 ⟨#[]⟩ 0 0 0 false) → w.heap.size ≤ q → Below w.heap.size w w' → wpList Try.prog ops Q rest (a.put o.dst (.pointer (some ⟨q, 0, none⟩))) w') : wpList Try.prog ops Q (o :: rest) a w :=
  wpList_plain hgd fun _ hK => by
    unfold Oper.wp execOp
    simp [ho, go_sem]
    exact hK _ _ (h w.heap.size _ (newO w _) (Nat.le_refl _) boxO)
theorem st29 (w : World) (hgd : o.guard = none) (x y : Operand) (ho : o.op = .store 29 x y) (hd : o.dst = none) (g : Nat) (p : Int) (s : ByteArray) (k d i : Int) (b : Bool) (hx : a.eval x = .pointer (some ⟨g, 0, none⟩)) (hy : a.eval y = .agg #[.int .i64 p, .string s, .int .i64 k, .int .i64 d, .int .i64 i, .bool b]) {p' k' d' i' : Int} {s' : ByteArray} {b' : Bool} (hg : w.heap[g]? = some (usB p' s' k' d' i' b'))
    (h : ∀ w', w'.heap[g]? = some (usB p s k d i b) → St g w w' → wpList Try.prog ops Q rest a w') : wpList Try.prog ops Q (o :: rest) a w := by
  refine wpList_store_row hgd 29 x y ho g _ hx hy 29 _ hg (by kernel_rfl) rfl (by simp [Value.oneCell']) ?_
  rw [hd]
  exact h _ (setRow_heap w g _ _ _ _ hg) (St.row w g _)
end
theorem us_cells {w : World} {g : Nat} {p k d i : Int} {s : ByteArray} {b : Bool} (h : w.heap[g]? = some (usB p s k d i b)) : w.cell? ⟨g, 0, none⟩ = some (.int .i64 p) ∧ w.cell? ⟨g, 1, none⟩ = some (.string s) ∧ w.cell? ⟨g, 2, none⟩ = some (.int .i64 k) ∧ w.cell? ⟨g, 3, none⟩ = some (.int .i64 d) ∧ w.cell? ⟨g, 4, none⟩ = some (.int .i64 i) ∧ w.cell? ⟨g, 5, none⟩ = some (.bool b) ∧ ∀ j, w.frozen? ⟨g, j, none⟩ = false := by
  unfold usB at h
  refine ⟨?_, ?_, ?_, ?_, ?_, ?_, fun j => ?_⟩ <;> simp [World.cell?, World.frozen?, h]
theorem load29 {w : World} {g : Nat} {p k d i : Int} {s : ByteArray} {b : Bool} (h : w.heap[g]? = some (usB p s k d i b)) : (loadVar 29 ⟨g, 0, none⟩).run Try.prog w = .ok (.agg #[.int .i64 p, .string s, .int .i64 k, .int .i64 d, .int .i64 i, .bool b]) w := by
  obtain ⟨z0, z1, z2, z3, z4, z5, _⟩ := us_cells h
  simp [go_sem, z0, z1, z2, z3, z4, z5]
set_option maxHeartbeats 2000000 in
theorem fixed_any (t : List Int) (w : World) (hb : ∀ x ∈ t, 0 ≤ x ∧ x < 256) : Calls Try.prog 30 #[.string (strOfNums t)] w fun e w' => e = .returned (ansV ((fixR t).map fun x => (x.1, 0, x.2))) ∧ Below w.heap.size w w' := by
  have s1 : ((strOfNums t).toList == [115, 101, 108, 102]) = decide (t = selfT) := str_lit _ selfT hb (by decide) (by rw [Lib.strOfNums_toList]; rfl)
  have s2 : ((strOfNums t).toList == [115, 117, 112, 101, 114]) = decide (t = superT) := str_lit _ superT hb (by decide) (by rw [Lib.strOfNums_toList]; rfl)
  have s3 : ((strOfNums t).toList == [110, 105, 108]) = decide (t = nilT) := str_lit _ nilT hb (by decide) (by rw [Lib.strOfNums_toList]; rfl)
  have s4 : ((strOfNums t).toList == [102, 97, 108, 115, 101]) = decide (t = falseT) := str_lit _ falseT hb (by decide) (by rw [Lib.strOfNums_toList]; rfl)
  have s5 : ((strOfNums t).toList == [116, 114, 117, 101]) = decide (t = trueT) := str_lit _ trueT hb (by decide) (by rw [Lib.strOfNums_toList]; rfl)
  by_cases h1 : t = selfT
  · have e1 : ((strOfNums t).toList == [115, 101, 108, 102]) = true := by rw [s1]; exact decide_eq_true h1
    have hf : fixR t = some (0, 0) := by unfold fixR; rw [if_pos h1]
    rw [hf]
    clear s1 s2 s3 s4 s5 hf h1
    go_enter Try.func30, Try.ntmps30
    go_wp2_with (refine al29 _ rfl rfl ?_)
    intro q w1 E1 hq B1
    go_wp2_with (refine st29 _ rfl _ _ rfl rfl _ _ _ _ _ _ _ rfl rfl E1 ?_)
    intro w2 E2 S2
    go_wp2_with fail
    exact bodyPost_ret (results_ct Try.results30 rfl (load29 E2) rfl) rfl ⟨rfl, B1.trans (S2.below hq)⟩
  by_cases h2 : t = superT
  · have e1 : ((strOfNums t).toList == [115, 101, 108, 102]) = false := by rw [s1]; exact decide_eq_false h1
    have e2 : ((strOfNums t).toList == [115, 117, 112, 101, 114]) = true := by rw [s2]; exact decide_eq_true h2
    have hf : fixR t = some (1, 0) := by unfold fixR; rw [if_neg h1, if_pos h2]
    rw [hf]
    clear s1 s2 s3 s4 s5 hf h1 h2
    go_enter Try.func30, Try.ntmps30
    go_wp2_with (refine al29 _ rfl rfl ?_)
    intro q w1 E1 hq B1
    go_wp2_with (refine st29 _ rfl _ _ rfl rfl _ _ _ _ _ _ _ rfl rfl E1 ?_)
    intro w2 E2 S2
    go_wp2_with fail
    exact bodyPost_ret (results_ct Try.results30 rfl (load29 E2) rfl) rfl ⟨rfl, B1.trans (S2.below hq)⟩
  by_cases h3 : t = nilT
  · have e1 : ((strOfNums t).toList == [115, 101, 108, 102]) = false := by rw [s1]; exact decide_eq_false h1
    have e2 : ((strOfNums t).toList == [115, 117, 112, 101, 114]) = false := by rw [s2]; exact decide_eq_false h2
    have e3 : ((strOfNums t).toList == [110, 105, 108]) = true := by rw [s3]; exact decide_eq_true h3
    have hf : fixR t = some (2, 0) := by unfold fixR; rw [if_neg h1, if_neg h2, if_pos h3]
    rw [hf]
    clear s1 s2 s3 s4 s5 hf h1 h2 h3
    go_enter Try.func30, Try.ntmps30
    go_wp2_with (refine al29 _ rfl rfl ?_)
    intro q w1 E1 hq B1
    go_wp2_with (refine st29 _ rfl _ _ rfl rfl _ _ _ _ _ _ _ rfl rfl E1 ?_)
    intro w2 E2 S2
    go_wp2_with fail
    exact bodyPost_ret (results_ct Try.results30 rfl (load29 E2) rfl) rfl ⟨rfl, B1.trans (S2.below hq)⟩
  by_cases h4 : t = falseT
  · have e1 : ((strOfNums t).toList == [115, 101, 108, 102]) = false := by rw [s1]; exact decide_eq_false h1
    have e2 : ((strOfNums t).toList == [115, 117, 112, 101, 114]) = false := by rw [s2]; exact decide_eq_false h2
    have e3 : ((strOfNums t).toList == [110, 105, 108]) = false := by rw [s3]; exact decide_eq_false h3
    have e4 : ((strOfNums t).toList == [102, 97, 108, 115, 101]) = true := by rw [s4]; exact decide_eq_true h4
    have hf : fixR t = some (2, 1) := by unfold fixR; rw [if_neg h1, if_neg h2, if_neg h3, if_pos h4]
    rw [hf]
    clear s1 s2 s3 s4 s5 hf h1 h2 h3 h4
    go_enter Try.func30, Try.ntmps30
    go_wp2_with (refine al29 _ rfl rfl ?_)
    intro q w1 E1 hq B1
    go_wp2_with (refine st29 _ rfl _ _ rfl rfl _ _ _ _ _ _ _ rfl rfl E1 ?_)
    intro w2 E2 S2
    go_wp2_with fail
    exact bodyPost_ret (results_ct Try.results30 rfl (load29 E2) rfl) rfl ⟨rfl, B1.trans (S2.below hq)⟩
  by_cases h5 : t = trueT
  · have e1 : ((strOfNums t).toList == [115, 101, 108, 102]) = false := by rw [s1]; exact decide_eq_false h1
    have e2 : ((strOfNums t).toList == [115, 117, 112, 101, 114]) = false := by rw [s2]; exact decide_eq_false h2
    have e3 : ((strOfNums t).toList == [110, 105, 108]) = false := by rw [s3]; exact decide_eq_false h3
    have e4 : ((strOfNums t).toList == [102, 97, 108, 115, 101]) = false := by rw [s4]; exact decide_eq_false h4
    have e5 : ((strOfNums t).toList == [116, 114, 117, 101]) = true := by rw [s5]; exact decide_eq_true h5
    have hf : fixR t = some (2, 2) := by unfold fixR; rw [if_neg h1, if_neg h2, if_neg h3, if_neg h4, if_pos h5]
    rw [hf]
    clear s1 s2 s3 s4 s5 hf h1 h2 h3 h4 h5
    go_enter Try.func30, Try.ntmps30
    go_wp2_with (refine al29 _ rfl rfl ?_)
    intro q w1 E1 hq B1
    go_wp2_with (refine st29 _ rfl _ _ rfl rfl _ _ _ _ _ _ _ rfl rfl E1 ?_)
    intro w2 E2 S2
    go_wp2_with fail
    exact bodyPost_ret (results_ct Try.results30 rfl (load29 E2) rfl) rfl ⟨rfl, B1.trans (S2.below hq)⟩
  have e1 : ((strOfNums t).toList == [115, 101, 108, 102]) = false := by rw [s1]; exact decide_eq_false h1
  have e2 : ((strOfNums t).toList == [115, 117, 112, 101, 114]) = false := by rw [s2]; exact decide_eq_false h2
  have e3 : ((strOfNums t).toList == [110, 105, 108]) = false := by rw [s3]; exact decide_eq_false h3
  have e4 : ((strOfNums t).toList == [102, 97, 108, 115, 101]) = false := by rw [s4]; exact decide_eq_false h4
  have e5 : ((strOfNums t).toList == [116, 114, 117, 101]) = false := by rw [s5]; exact decide_eq_false h5
  have hf : fixR t = none := by unfold fixR; rw [if_neg h1, if_neg h2, if_neg h3, if_neg h4, if_neg h5]
  rw [hf]
  clear s1 s2 s3 s4 s5 hf h1 h2 h3 h4 h5
  go_enter Try.func30, Try.ntmps30
  go_wp2_with (refine al29 _ rfl rfl ?_)
  intro q w1 E1 hq B1
  go_wp2_with (refine st29 _ rfl _ _ rfl rfl _ _ _ _ _ _ _ rfl rfl E1 ?_)
  intro w2 E2 S2
  go_wp2_with fail
  exact bodyPost_ret (results_ct Try.results30 rfl (load29 E2) rfl) rfl ⟨rfl, B1.trans (S2.below hq)⟩
end Go.Proofs.Ytoghhjljmhdioaa
namespace Go.Proofs.Ytoghhjljmhdioaa
open Go.RowKit
set_option maxRecDepth 100000
def ptrO : Option Nat → Value
  | none => .pointer none
  | some b => .pointer (some ⟨b, 0, none⟩)
/-- Units, the innermost first, their blocks in a set. -/
def Chn (A : Nat → Prop) (w : World) : Ev → Option Nat → Prop
  | [], q => q = none
  | (l, n) :: E, q => ∃ b, q = some b ∧ A b ∧ ∃ (k t p ks : Value) (na : Option Addr) (nc : Nat) (o : Option Nat), w.heap[b]? = some (.cells #[k, t, p, .int .i64 (n : Int), .slice na l.length nc, ks, ptrO o] 63) ∧ SlF A w na l.length nc (l.map strV) ∧ Chn A w E o
theorem Chn.imp {A A' : Nat → Prop} {w w' : World} (h : ∀ b, b < w.heap.size → A b → A' b ∧ w'.heap[b]? = w.heap[b]?) : ∀ {E : Ev} {q : Option Nat}, Chn A w E q → Chn A' w' E q
  | [], q, hq => hq
  | (l, n) :: E, q, hq => by
    obtain ⟨b, rfl, hA, k, t, p, ks, na, nc, o, e, s, c⟩ := hq
    have hb := h b (lt_of_block e) hA
    exact ⟨b, rfl, hb.1, k, t, p, ks, na, nc, o, hb.2.trans e, s.imp h, c.imp h⟩
theorem Chn.below {A : Nat → Prop} {w w' : World} {E : Ev} {q : Option Nat} (h : Chn A w E q) (B : Below w.heap.size w w') : Chn A w' E q := h.imp fun b hb hA => ⟨hA, B.block b hb⟩
theorem un_cells {w : World} {b : Nat} {u0 u1 u2 u3 u4 u5 u6 : Value} (h : w.heap[b]? = some (.cells #[u0, u1, u2, u3, u4, u5, u6] 63)) : w.cell? ⟨b, 0, none⟩ = some u0 ∧ w.cell? ⟨b, 1, none⟩ = some u1 ∧ w.cell? ⟨b, 2, none⟩ = some u2 ∧ w.cell? ⟨b, 3, none⟩ = some u3 ∧ w.cell? ⟨b, 4, none⟩ = some u4 ∧ w.cell? ⟨b, 5, none⟩ = some u5 ∧ w.cell? ⟨b, 6, none⟩ = some u6 ∧ ∀ j, w.frozen? ⟨b, j, none⟩ = false := by
  refine ⟨?_, ?_, ?_, ?_, ?_, ?_, ?_, fun j => ?_⟩ <;> simp [World.cell?, World.frozen?, h]
theorem Try.results67 : Try.f67.results = #[.cell 4 29, .tmp 5] := by kernel_rfl
set_option maxHeartbeats 4000000 in
theorem temp_any {A : Nat → Prop} (E : Ev) (q : Option Nat) (t : List Int) (w : World) (C : Chn A w E q) (hE : ∀ x ∈ E, BytL x.1) (hl : E.length ≤ 1000000) (hb : ∀ x ∈ t, 0 ≤ x ∧ x < 256) :
    Calls Try.prog 67 #[ptrO q, .string (strOfNums t)] w fun e w' => e = .returned (ansV ((tmpR E t 0).map fun x => (3, x.1, x.2))) ∧ Below w.heap.size w w' := by
  go_enter Try.func67, Try.ntmps67
  go_wp2_with (refine al29 _ rfl rfl ?_)
  intro g w1 E1 hg B1
  go_wp2_with fail
  go_loopw [6, 7] (fun d v wr => ∃ (k : Nat) (R : Ev) (o : Option Nat), d = .int .i64 (k : Int) ∧ v = ptrO o ∧ k + R.length = E.length ∧ (∀ x ∈ R, x ∈ E) ∧ Chn A wr R o ∧ tmpR E t 0 = tmpR R t k ∧ wr.heap[g]? = some (usB 0 ⟨#[]⟩ 0 0 0 false) ∧ Below w.heap.size w wr) (fun d _ _ => E.length - (intOf d).toNat)
  case atStart => exact ⟨0, E, q, rfl, rfl, by omega, fun _ h => h, C.below B1, rfl, E1, B1⟩
  case round =>
    obtain ⟨k, R, o, rfl, rfl, hk, hR, CR, ht, Eg, BR⟩ := hrel
    cases R with
    | nil =>
      obtain rfl : o = none := CR
      rw [show ptrO none = Value.pointer none from rfl]
      go_wp2_with (refine st29 _ rfl _ _ rfl rfl _ _ _ _ _ _ _ rfl rfl Eg ?_)
      intro w2 E2 S2
      go_wp2_with fail
      exact bodyPost_ret (results_ct Try.results67 rfl (load29 E2) rfl) rfl ⟨by rw [ht]; rfl, BR.trans (S2.below hg)⟩
    | cons x R =>
      obtain ⟨l, n⟩ := x
      obtain ⟨b, rfl, hA, k0, t0, p0, ks, na, nc, o', eb, s, c⟩ := CR
      rw [show ptrO (some b) = Value.pointer (some ⟨b, 0, none⟩) from rfl]
      obtain ⟨z0, z1, z2, z3, z4, z5, z6, _⟩ := un_cells eb
      have hln : BytL l := hE (l, n) (hR _ (List.mem_cons_self ..))
      have hdk : (0 : Int) ≤ (k : Int) ∧ k < E.length := by rw [List.length_cons] at hk; exact ⟨by omega, by omega⟩
      go_wp2_with fail
      refine (index_any s hln hb).mono ?_
      rintro e w' ⟨rfl, rfl⟩
      cases hi : idxR l t with
      | some i =>
        have e1 : ¬ idxI l t < 0 := by rw [idxI_pos hi]; omega
        have e2 : idxI l t ≥ 0 := by rw [idxI_pos hi]; omega
        have ht2 : tmpR E t 0 = some (k, i) := by
          rw [ht]
          show (match idxR l t with | some i => some (k, i) | none => tmpR R t (k + 1)) = _
          rw [hi]
        have ei : idxI l t = (i : Int) := idxI_pos hi
        rw [ei] at e1 e2 ⊢
        clear ht hi ei
        go_wp2_with (refine st29 _ rfl _ _ rfl rfl _ _ _ _ _ _ _ rfl rfl Eg ?_)
        intro w2 E2 S2
        go_wp2_with fail
        exact bodyPost_ret (results_ct Try.results67 rfl (load29 E2) rfl) rfl ⟨by rw [ht2]; rfl, BR.trans (S2.below hg)⟩
      | none =>
        have ht2 : tmpR E t 0 = tmpR R t (k + 1) := by
          rw [ht]
          show (match idxR l t with | some i => some (k, i) | none => tmpR R t (k + 1)) = _
          rw [hi]
        have ei : idxI l t = -1 := idxI_neg hi
        rw [ei]
        clear ht hi ei
        go_wp2
        go_roundw
        case rel => exact ⟨k + 1, R, o', by go_num, rfl, by rw [List.length_cons] at hk; omega, fun x hx => hR x (List.mem_cons_of_mem _ hx), c, ht2, Eg, BR⟩
        case measure => simp [intOf]; omega
end Go.Proofs.Ytoghhjljmhdioaa
