/- Rows of words. -/
import Derived.Test.YtoghhjljmhdioaaLxH
import Derived.Test.YtoghhjljmhdioaaTok
import Derived.Lib.LazyBuf
import Derived.WalkMore
import Derived.ScopeJumps
namespace Go.Proofs.Ytoghhjljmhdioaa
open Go.RowKit
set_option maxRecDepth 100000
theorem isT_own {w : World} {base n cap ty g : Nat} {ts : List Tk} (h : w.ownsRow base ty 3 (.slice (some ⟨g, 0, none⟩) n cap) n (flatT ts)) : IsT w (some ⟨g, 0, none⟩) n cap ts := by
  have hl : ts.length = n := by have := h.1; rw [flatT_len] at this; omega
  have h2 := h.2
  refine ⟨hl, ?_, ?_, by simp, fun _ => ⟨g, 0, rfl, fun i hi => ?_⟩⟩
  · rcases h2 with ⟨h', _⟩ | ⟨g', cap', cur, h', _, _, hnc, _⟩
    · simp at h'
    · simp at h'; omega
  · rcases h2 with ⟨h', _⟩ | ⟨g', cap', cur, h', _, _, _, hcm, _⟩
    · simp at h'
    · simp at h'; omega
  · have e : ts[i]? = some (ts.getD i tk0) := by simp [show i < ts.length by omega]
    have hf := flatT_at ts i _ e
    have h3 := World.ownsRow.cells h (g := g) rfl (i * 3) _ hf.1
    have h4 := World.ownsRow.cells h (g := g) rfl (i * 3 + 1) _ hf.2.1
    have h5 := World.ownsRow.cells h (g := g) rfl (i * 3 + 2) _ hf.2.2
    rw [addr_add] at h3 h4 h5
    exact ⟨h3, h4, h5⟩
/-- A row of words of the call's own. -/
def OwnT (w : World) (base ty : Nat) (v : Value) (ts : List Tk) : Prop := w.ownsRow base ty 3 v ts.length (flatT ts)
theorem OwnT.nil (w : World) (base ty : Nat) : OwnT w base ty (.slice none 0 0) [] := World.ownsRow_nil w base ty 3
theorem OwnT.isT {w : World} {base ty : Nat} {v : Value} {ts : List Tk} (h : OwnT w base ty v ts) : ∃ a cap, v = .slice a ts.length cap ∧ IsT w a ts.length cap ts := by
  rcases h.2 with ⟨rfl, h0⟩ | ⟨g, cap, cur, rfl, _⟩
  · have : ts = [] := List.eq_nil_of_length_eq_zero h0
    subst this
    exact ⟨none, 0, rfl, isT_nil w⟩
  · exact ⟨_, cap, rfl, isT_own h⟩
theorem OwnT.below {w w' : World} {base ty : Nat} {v : Value} {ts : List Tk} (h : OwnT w base ty v ts) (hb : Below w.heap.size w w') : OwnT w' base ty v ts := by
  obtain ⟨h1, h2⟩ := h
  refine ⟨h1, ?_⟩
  rcases h2 with h2 | ⟨g, cap, cur, e, hg, hh, rest⟩
  · exact .inl h2
  · exact .inr ⟨g, cap, cur, e, hg, (hb.block _ (lt_of_block hh)).trans hh, rest⟩
theorem one_cells {w : World} {g : Nat} {kd : Int} {s : ByteArray} {p : Int} {ty : Nat} (h : w.heap[g]? = some (.cells #[.int .i64 kd, .string s, .int .i64 p] ty)) : ∀ j u, ([.int .i64 kd, .string s, .int .i64 p] : List Value)[j]? = some u → w.cell? ((⟨g, 0, none⟩ : Addr).add j) = some u := by
  intro j u hj
  rw [addr_add, Nat.zero_add]
  match j, hj with
  | 0, hj => simp at hj; subst hj; simp [World.cell?, h]
  | 1, hj => simp at hj; subst hj; simp [World.cell?, h]
  | 2, hj => simp at hj; subst hj; simp [World.cell?, h]
/-- append of one word, which lies in a block of its own. -/
theorem app_tok {ops : Array Oper} {rest : List Oper} {o : Oper} {a : Act} {Q : Exit → Act → World → Prop} (w : World) (sl ty : Nat) (hU : Try.prog.underlying sl = some (.slice ty)) (hI : (Try.prog.info? ty).map (fun i => (i.zero, i.size, i.bytes)) = some (some (.agg #[.int .i64 0, .string ⟨#[]⟩, .int .i64 0]), 3, 32)) (hgd : o.guard = none) (s x : Operand)
    (ho : o.op = .call { callee := .builtin .append, args := #[s, x], argTypes := #[sl, sl] })
    (base : Nat) (v : Value) (ts : List Tk) (hs : a.eval s = v) (hown : OwnT w base ty v ts)
    (g : Nat) (t : Tk) (hx : a.eval x = .slice (some ⟨g, 0, none⟩) 1 1) (hg : w.heap[g]? = some (.cells #[.int .i64 t.kind, .string (strOfNums t.text), .int .i64 (t.pos : Int)] ty)) (hn : ts.length ≤ 1000000) (hbase : base ≤ w.heap.size)
    (h : ∀ v' w', OwnT w' base ty v' (ts ++ [t]) → Below base w w' → wpList Try.prog ops Q rest (a.put o.dst v') w') : wpList Try.prog ops Q (o :: rest) a w := by
  obtain ⟨i0, hi, hz0, hz1, hz2⟩ := info_parts hI
  refine wpList_append_own w hgd s x sl ho base ty i0 (.agg #[.int .i64 0, .string ⟨#[]⟩, .int .i64 0]) 3 32 hU hi hz0 hz1 hz2 rfl (by decide) _ ts.length _ hs hown ⟨g, 0, none⟩ 1 1 (flatT [t]) hx rfl (one_cells hg) (by intro u hu; simp only [flatT, List.mem_cons, List.not_mem_nil, or_false] at hu; rcases hu with rfl | rfl | rfl <;> rfl) (by unfold maxLen; omega) (by omega) hbase ?_
  intro v' w' hown' hgrow _
  refine h v' w' ?_ ((Below.refl _ _).grown hgrow hbase (fun j hj => (World.ownsRow.lt hown j hj).1))
  unfold OwnT
  rw [flatT_app, List.length_append]
  exact hown'
end Go.Proofs.Ytoghhjljmhdioaa
namespace Go.Proofs.Ytoghhjljmhdioaa
open Go.RowKit
set_option maxRecDepth 100000
def idxV (o : Option Nat) : Int := match o with | none => -1 | some k => (k : Int)
theorem idx_byte (r : List Int) (hb : ∀ x ∈ r, 0 ≤ x ∧ x < 256) : Lib.indexByte (strOfNums r).data.toList (34 : Int).toNat.toUInt8 = idxV (r.idxOf? 34) := by
  induction r with
  | nil => rfl
  | cons c r ih =>
    have ih := ih fun x hx => hb x (List.mem_cons_of_mem _ hx)
    have hc := hb c (List.mem_cons_self ..)
    have e : (strOfNums (c :: r)).data.toList = UInt8.ofNat c.toNat :: (strOfNums r).data.toList := by simp [strOfNums]
    rw [e, Lib.indexByte, List.idxOf?_cons, ih]
    by_cases h : c = 34
    · subst h
      rfl
    · have h1 : (UInt8.ofNat c.toNat == (34 : Int).toNat.toUInt8) = false := by
        rw [beq_eq_false_iff_ne]
        intro k
        have := congrArg UInt8.toNat k
        rw [UInt8.toNat_ofNat', Nat.mod_eq_of_lt (by omega)] at this
        have h34 : ((34 : Int).toNat.toUInt8).toNat = 34 := rfl
        omega
      have h2 : (c == 34) = false := by simp [h]
      rw [h1, h2]
      simp only [Bool.false_eq_true, if_false]
      cases r.idxOf? 34 with
      | none => rfl
      | some k =>
        have hk : (idxV (some k) == -1) = false := by rw [beq_eq_false_iff_ne]; show (k : Int) ≠ -1; omega
        rw [hk]
        simp only [Bool.false_eq_true, if_false]
        show (k : Int) + 1 = ((k + 1 : Nat) : Int)
        omega
theorem blank_is {c : Int} {v : Bool} (h : blB c = v) (hb : 0 ≤ c ∧ c < 256) (w : World) : Calls Try.prog 33 #[.string ⟨#[32, 9, 10, 13]⟩, .int .u8 c] w fun e w' => e = .returned (.bool v) ∧ Below w.heap.size w w' := by
  rw [← h]; exact has_bl c w hb
/-- What skip answers. -/
def SkP (ss : List Int) (O : Except Nat (List Tk)) (k : Nat) (e : Ending) : Prop := ∃ (m : Nat) (ok : Bool), e = .returned (.tuple #[.int .i64 m, .bool ok]) ∧ k ≤ m ∧ m ≤ ss.length ∧ ((ok = true ∧ O = lexR rdB0 m (ss.drop m) ∧ (m = ss.length ∨ (m < ss.length ∧ blB (ss.getD m 0) = false ∧ ss.getD m 0 ≠ 34))) ∨ (ok = false ∧ O = .error m))
set_option maxHeartbeats 8000000 in
theorem skip_any (ss : List Int) (k : Nat) (w : World) (hb : ∀ x ∈ ss, 0 ≤ x ∧ x < 256) (hk : k ≤ ss.length) (hl : ss.length ≤ 100000) : Calls Try.prog 23 #[.string (strOfNums ss), .int .i64 k] w fun e w' => SkP ss (lexR rdB0 k (ss.drop k)) k e ∧ Below w.heap.size w w' := by
  have hsz : (strOfNums ss).size = ss.length := strOfNums_size ss
  obtain ⟨O, hO⟩ : ∃ O, Hid (lexR rdB0 k (ss.drop k) = O) := ⟨_, rfl⟩
  rw [hO.out]
  go_enter Try.func23, Try.ntmps23
  go_wp2
  go_loopw [1] (fun v wr => ∃ i : Nat, v = .int .i64 i ∧ k ≤ i ∧ i ≤ ss.length ∧ Below w.heap.size w wr ∧ Hid (O = lexR rdB0 i (ss.drop i))) (fun v _ => ss.length - (intOf v).toNat)
  case atStart => exact ⟨k, rfl, Nat.le_refl _, hk, Below.refl _ _, hO.out.symm⟩
  case round =>
    obtain ⟨i, rfl, hki, hi, hB, hv⟩ := hrel
    clear hO
    have hw1 : IntKind.i64.wrap ((i : Int) + 1) = (i : Int) + 1 := by rw [IntKind.wrap_i64]; omega
    by_cases hlt : i < ss.length
    · have hltI : (i : Int) < (ss.length : Int) := by omega
      have hat := str_at ss hb i hlt
      have hcb := hb (ss.getD i 0) (by rw [getD_lt hlt]; exact List.getElem_mem hlt)
      have hdr : ss.drop i = ss.getD i 0 :: ss.drop (i + 1) := by rw [getD_lt hlt]; exact List.drop_eq_getElem_cons hlt
      cases hbl : blB (ss.getD i 0) with
      | true =>
        have hv' : Hid (O = lexR rdB0 (i + 1) (ss.drop (i + 1))) := by
          show _ = _
          rw [hv.out, hdr, lexR_blank _ _ _ hbl]
        clear hv hdr
        generalize ss.getD i 0 = c at *
        go_wp2_with fail
        refine (blank_is hbl hcb _).mono ?_
        rintro e w2 ⟨rfl, hB2⟩
        go_wp2
        go_roundw
        case rel => exact ⟨i + 1, by go_num, by omega, by omega, below_size hB (Nat.le_refl _) hB2, hv'⟩
        case measure => simp [intOf]; omega
      | false =>
        by_cases h34 : ss.getD i 0 = 34
        · have hx := ext_str ss (i + 1) ss.length
          rw [List.take_of_length_le (by rw [List.length_drop]; exact Nat.le_refl _)] at hx
          have hib := idx_byte (ss.drop (i + 1)) (fun x h => hb x (List.mem_of_mem_drop h))
          have hcall := fun w => Try.strings_IndexByte (strOfNums (ss.drop (i + 1))) 34 w
          rw [hib] at hcall
          clear hib
          have h1I : (i : Int) + 1 ≤ (ss.length : Int) := by omega
          have hto : ((i : Int) + 1).toNat = i + 1 := by omega
          have h0I : 0 ≤ (i : Int) + 1 := by omega
          rw [h34] at hat hbl hcb hdr
          clear h34
          cases hix : (ss.drop (i + 1)).idxOf? 34 with
          | none =>
            have hv' : Hid (O = .error i) := by
              show _ = _
              rw [hv.out, hdr, lexR_open _ _ _ hix]
            rw [hix] at hcall
            simp only [idxV] at hcall
            clear hv hdr hix
            go_wp2_with fail
            refine (blank_is hbl hcb _).mono ?_
            rintro e w2 ⟨rfl, hB2⟩
            go_wp2_with fail
            refine (hcall _).mono ?_
            rintro e w3 ⟨rfl, rfl⟩
            go_wp2
            exact bodyPost_ret (v := .tuple #[.int .i64 i, .bool false]) (by simp [results, go_sem]) rfl ⟨⟨i, false, rfl, hki, hi, .inr ⟨rfl, hv'.out⟩⟩, below_size hB (Nat.le_refl _) hB2⟩
          | some j =>
            have hjl : j < (ss.drop (i + 1)).length := (List.findIdx?_eq_some_iff_getElem.1 hix).1
            rw [List.length_drop] at hjl
            have hv' : Hid (O = lexR rdB0 (i + j + 2) (ss.drop (i + j + 2))) := by
              show _ = _
              rw [hv.out, hdr, lexR_note _ _ _ hix, List.drop_drop, show i + 1 + (j + 1) = i + j + 2 by omega]
            rw [hix] at hcall
            simp only [idxV] at hcall
            clear hv hdr hix
            have hj0 : ¬ (j : Int) < 0 := by omega
            have hwj : IntKind.i64.wrap ((j : Int) + 2) = (j : Int) + 2 := by rw [IntKind.wrap_i64]; omega
            have hwi : IntKind.i64.wrap ((i : Int) + ((j : Int) + 2)) = (i : Int) + ((j : Int) + 2) := by rw [IntKind.wrap_i64]; omega
            go_wp2_with fail
            refine (blank_is hbl hcb _).mono ?_
            rintro e w2 ⟨rfl, hB2⟩
            go_wp2_with fail
            refine (hcall _).mono ?_
            rintro e w3 ⟨rfl, rfl⟩
            go_wp2
            go_roundw
            case rel => exact ⟨i + j + 2, by go_num, by omega, by omega, below_size hB (Nat.le_refl _) hB2, hv'⟩
            case measure => simp [intOf]; omega
        · have hnb : Hid (blB (ss.getD i 0) = false ∧ ss.getD i 0 ≠ 34) := ⟨hbl, h34⟩
          clear hdr
          obtain ⟨c, hc⟩ : ∃ c, Hid (ss.getD i 0 = c) := ⟨_, rfl⟩
          rw [hc.out] at hat hbl hcb h34
          have h34' : (c == 34) = false := by simp [h34]
          clear hc h34
          go_wp2_with fail
          refine (blank_is hbl hcb _).mono ?_
          rintro e w2 ⟨rfl, hB2⟩
          go_wp2
          exact bodyPost_ret (v := .tuple #[.int .i64 i, .bool true]) (by simp [results, go_sem]) rfl ⟨⟨i, true, rfl, hki, hi, .inl ⟨rfl, hv.out, .inr ⟨hlt, hnb.out.1, hnb.out.2⟩⟩⟩, below_size hB (Nat.le_refl _) hB2⟩
    · have hltI : ¬ (i : Int) < (ss.length : Int) := by omega
      go_wp2
      exact bodyPost_ret (v := .tuple #[.int .i64 i, .bool true]) (by simp [results, go_sem]) rfl ⟨⟨i, true, rfl, hki, hi, .inl ⟨rfl, hv.out, .inl (by omega)⟩⟩, hB⟩
/-- What Read answers. -/
def RdP (ss : List Int) (e : Ending) (w' : World) : Prop :=
  if 4096 < ss.length then e = .returned (.tuple #[.slice none 0 0, .int .i64 0, .int .i64 3])
  else match lexR rdB0 0 ss with
    | .ok ts => ∃ a cap, e = .returned (.tuple #[.slice a ts.length cap, .int .i64 0, .int .i64 0]) ∧ IsT w' a ts.length cap ts
    | .error p => e = .returned (.tuple #[.slice none 0 0, .int .i64 p, .int .i64 20])
theorem rdp_large {ss : List Int} {e : Ending} {w' : World} (h : 4096 < ss.length) (he : e = .returned (.tuple #[.slice none 0 0, .int .i64 0, .int .i64 3])) : RdP ss e w' := by
  unfold RdP; rw [if_pos h]; exact he
theorem rdp_ok {ss : List Int} {e : Ending} {w' : World} {ts : List Tk} (h : ¬ 4096 < ss.length) (ho : lexR rdB0 0 ss = .ok ts) (he : ∃ a cap, e = .returned (.tuple #[.slice a ts.length cap, .int .i64 0, .int .i64 0]) ∧ IsT w' a ts.length cap ts) : RdP ss e w' := by
  unfold RdP; rw [if_neg h, ho]; exact he
theorem rdp_err {ss : List Int} {e : Ending} {w' : World} {p : Nat} (h : ¬ 4096 < ss.length) (ho : lexR rdB0 0 ss = .error p) (he : e = .returned (.tuple #[.slice none 0 0, .int .i64 p, .int .i64 20])) : RdP ss e w' := by
  unfold RdP; rw [if_neg h, ho]; exact he
def mapT (ts : List Tk) (o : Except Nat (List Tk)) : Except Nat (List Tk) := o.map fun l => ts ++ l
theorem mapT_nil (o : Except Nat (List Tk)) : mapT [] o = o := by cases o <;> rfl
theorem mapT_cons (ts : List Tk) (t : Tk) (o : Except Nat (List Tk)) : mapT ts (o.map fun l => t :: l) = mapT (ts ++ [t]) o := by
  cases o with
  | error p => rfl
  | ok l => simp [mapT, Except.map]
theorem OwnT.st {w : World} {base ty b : Nat} {v : Value} {ts : List Tk} (h : OwnT w base ty v ts) (hb : b < base) (kd : Int) (s : ByteArray) (p : Int) : OwnT (stT w b kd s p) base ty v ts :=
  ownsRow_setCell_below (ownsRow_setCell_below (ownsRow_setCell_below h (a := ⟨b, 0, none⟩) hb _) (a := ⟨b, 1, none⟩) hb _) (a := ⟨b, 2, none⟩) hb _
set_option maxHeartbeats 8000000 in
theorem read_lex (ss : List Int) (w : World) (hb : ∀ x ∈ ss, 0 ≤ x ∧ x < 256) (hm : ss.length ≤ 9223372036854775807) : Calls Try.prog 15 #[.string (strOfNums ss)] w fun e w' => RdP ss e w' ∧ Below w.heap.size w w' := by
  have hsz : (strOfNums ss).size = ss.length := strOfNums_size ss
  by_cases hl : 4096 < ss.length
  · have hlI : (4096 : Int) < (ss.length : Int) := by omega
    go_enter Try.func15, Try.ntmps15
    go_wp2
    go_step3
    go_wp2
    rw [Exit.noGoto_ret]
    exact bodyPost_ret (v := .tuple #[.slice none 0 0, .int .i64 0, .int .i64 3]) (by simp [results, go_sem]) rfl ⟨rdp_large hl rfl, boxT⟩
  · have hlI : ¬ (4096 : Int) < (ss.length : Int) := by omega
    obtain ⟨O, hO⟩ : ∃ O, Hid (lexR rdB0 0 ss = O) := ⟨_, rfl⟩
    have FOK : ∀ e w' ts, O = .ok ts → (∃ a cap, e = .returned (.tuple #[.slice a ts.length cap, .int .i64 0, .int .i64 0]) ∧ IsT w' a ts.length cap ts) → RdP ss e w' := fun e w' ts h => rdp_ok hl (hO.out.trans h)
    have FER : ∀ e w' p, O = .error p → e = .returned (.tuple #[.slice none 0 0, .int .i64 p, .int .i64 20]) → RdP ss e w' := fun e w' p h => rdp_err hl (hO.out.trans h)
    go_enter Try.func15, Try.ntmps15
    go_wp2
    refine wp_scope_jumps 0 (fun a' w' => ∃ (p : Nat) (u0 u1 u2 u3 u4 u5 u6 u8 u9 u10 u11 u12 u13 u14 u15 u16 u17 u18 u19 u20 u21 u22 u23 u24 u25 u26 u27 u28 u29 u30 u31 u32 u33 u34 u35 u36 u37 u38 u39 u40 u41 u42 u43 u44 u45 : Value), a' = { tmps := #[u0, u1, u2, u3, u4, u5, u6, .int .i64 (p : Int), u8, u9, u10, u11, u12, u13, u14, u15, u16, u17, u18, u19, u20, u21, u22, u23, u24, u25, u26, u27, u28, u29, u30, u31, u32, u33, u34, u35, u36, u37, u38, u39, u40, u41, u42, u43, u44, u45], defers := [] } ∧ O = .error p ∧ Below w.heap.size w w') (fun _ _ => 0) rfl ?_ ?_
    · go_wp2
      go_loopw [5, 8] (fun v x wr => ∃ (i : Nat) (ts : List Tk), x = .int .i64 i ∧ i ≤ ss.length ∧ ts.length ≤ i ∧ OwnT wr (w.heap.size + 1) 59 v ts ∧ (∃ kd s p, wr.heap[w.heap.size]? = some (tkB kd s p)) ∧ Below w.heap.size w wr ∧ Hid (O = mapT ts (lexR rdB0 i (ss.drop i)))) (fun _ x _ => ss.length - (intOf x).toNat)
      case atStart =>
        refine ⟨0, [], rfl, Nat.zero_le _, Nat.le_refl _, OwnT.nil _ _ _, ⟨0, ⟨#[]⟩, 0, newT _ _⟩, boxT, ?_⟩
        show _ = _
        rw [← hO.out, List.drop_zero, mapT_nil]
      case round =>
        obtain ⟨i, ts, rfl, hi, hts, hown, ⟨kd0, s0, p0, E0⟩, hB, hv⟩ := hrel
        clear hO
        go_wp2_with fail
        refine (skip_any ss i wr hb hi (by omega)).mono ?_
        rintro e w2 ⟨⟨m, ok, rfl, him, hml, hcase⟩, hB2⟩
        replace hown := hown.below hB2
        replace E0 := (hB2.block _ (lt_of_block E0)).trans E0
        replace hB := below_size hB (Nat.le_refl _) hB2
        clear hB2
        have hsw : w.heap.size + 1 ≤ w2.heap.size := lt_of_block E0
        rcases hcase with ⟨rfl, hO2, hend⟩ | ⟨rfl, hO2⟩
        · rcases hend with hend | ⟨hlt, hnb, h34⟩
          · subst hend
            have hv' : Hid (O = .ok (ts ++ [⟨0, [], ss.length⟩])) := by
              show _ = _
              rw [hv.out, hO2, List.drop_of_length_le (by omega), lexR_nil]
              rfl
            clear hv hO2
            go_wp2_with (at_builtin; refine app_tok _ 49 59 Try.underlying49 Try.info59 rfl _ _ rfl (w.heap.size + 1) _ ts rfl ?o1 w2.heap.size ⟨0, [], ss.length⟩ rfl ?o2 ?o3 ?o4 ?_)
            case o1 => exact hown.below boxT
            case o2 => exact (Array.getElem?_eq_some_iff.1 (newT w2 _)).2
            case o3 => omega
            case o4 => simp; omega
            intro v' w3 hown3 hB3
            obtain ⟨va, vc, rfl, hT⟩ := hown3.isT
            go_wp2
            simp only [Exit.jump]
            exact bodyPost_ret (v := .tuple #[.slice va (ts ++ ([⟨0, [], ss.length⟩] : List Tk)).length vc, .int .i64 0, .int .i64 0]) (by simp [results, go_sem]) rfl ⟨FOK _ _ _ hv'.out ⟨va, vc, rfl, hT⟩, (below_size hB (Nat.le_refl _) boxT).trans (hB3.mono (by omega))⟩
          · have hq : ((m : Int) == (ss.length : Int)) = false := by simp; omega
            have hdr : ss.drop m = ss.getD m 0 :: ss.drop (m + 1) := by rw [getD_lt hlt]; exact List.drop_eq_getElem_cons hlt
            go_wp2_with fail
            refine (word_any ss m w2 hb hlt (by omega)).mono ?_
            rintro e w3 ⟨⟨kd, t, n, ok, he, hWO⟩, hB3⟩
            unfold RW at he
            subst he
            replace hown := hown.below hB3
            replace E0 := (hB3.block _ (lt_of_block E0)).trans E0
            replace hB := below_size hB (Nat.le_refl _) hB3
            have hsw3 : w.heap.size + 1 ≤ w3.heap.size := lt_of_block E0
            clear hB3 hsw
            obtain ⟨z0, z1, z2, zf⟩ := tk_cells E0
            rcases hWO with ⟨n', hw, rfl, rfl⟩ | ⟨hw, rfl⟩
            · have hwl := word_len (r := ss.drop m) (by rw [hdr]; simp) hw
              rw [List.length_drop] at hwl
              have hv' : Hid (O = mapT (ts ++ [⟨kd, t, m⟩]) (lexR rdB0 (m + n') (ss.drop (m + n')))) := by
                show _ = _
                rw [hv.out, hO2]
                rw [hdr] at hw ⊢
                rw [lexR_word _ _ hnb h34 hw, ← hdr, List.drop_drop]
                exact mapT_cons _ _ _
              clear hv hO2 hw hdr
              go_upto_region 12 with fail
              have E1 := stT_blk E0 kd (strOfNums t) 0
              have O1 := OwnT.st hown (b := w.heap.size) (by omega) kd (strOfNums t) 0
              have B1 := stT_below hB (Nat.le_refl w.heap.size) kd (strOfNums t) 0
              change Code.wp _ _ _ _ (stT w3 w.heap.size kd (strOfNums t) 0)
              clear E0 hown hB z0 z1 z2 zf
              generalize stT w3 w.heap.size kd (strOfNums t) 0 = w4 at *
              obtain ⟨z0, z1, z2, zf⟩ := tk_cells E1
              go_upto_region 13 with fail
              have E2 : (w4.setCell ⟨w.heap.size, 2, none⟩ (.int .i64 m)).heap[w.heap.size]? = some (tkB kd (strOfNums t) m) := by
                unfold tkB at E1 ⊢
                rw [heap_setCell_same _ w.heap.size 2 _ _ _ E1]
                simp
              have O2 : OwnT (w4.setCell ⟨w.heap.size, 2, none⟩ (.int .i64 m)) (w.heap.size + 1) 59 u5 ts := ownsRow_setCell_below O1 (a := ⟨w.heap.size, 2, none⟩) (Nat.lt_succ_self _) _
              have B2 := B1.setCell (p := ⟨w.heap.size, 2, none⟩) (Nat.le_refl w.heap.size) (.int .i64 m)
              have hs5 : w.heap.size + 1 ≤ (w4.setCell ⟨w.heap.size, 2, none⟩ (.int .i64 m)).heap.size := lt_of_block E2
              clear E1 O1 B1 z0 z1 z2 zf
              generalize w4.setCell ⟨w.heap.size, 2, none⟩ (.int .i64 m) = w5 at *
              obtain ⟨z0, z1, z2, zf⟩ := tk_cells E2
              go_wp2_with (at_builtin; refine app_tok _ 49 59 Try.underlying49 Try.info59 rfl _ _ rfl (w.heap.size + 1) _ ts rfl ?o1 w5.heap.size ⟨kd, t, m⟩ rfl ?o2 ?o3 ?o4 ?_)
              case o1 => exact O2.below boxT
              case o2 => exact (Array.getElem?_eq_some_iff.1 (newT w5 _)).2
              case o3 => omega
              case o4 => simp; omega
              intro v' w6 hown6 hB6
              go_wp2
              go_roundw
              case rel =>
                refine ⟨m + n', ts ++ [⟨kd, t, m⟩], rfl, by omega, by simp; omega, hown6, ⟨kd, strOfNums t, m, ?_⟩, (below_size B2 (Nat.le_refl _) boxT).trans (hB6.mono (by omega)), hv'⟩
                exact (hB6.block _ (Nat.lt_succ_self _)).trans (oldT E2 _)
              case measure => simp [intOf]; omega
            · have hv' : O = .error m := by
                rw [hv.out, hO2]
                rw [hdr] at hw ⊢
                rw [lexR_none _ _ hnb h34 hw]
                rfl
              clear hv hO2 hw hdr
              have B1 := stT_below hB (Nat.le_refl w.heap.size) kd (strOfNums t) 0
              go_wp2
              go_step3
              exact ⟨rfl, m, _, _, _, _, _, _, _, _, _, _, _, _, _, _, _, _, _, _, _, _, _, _, _, _, _, _, _, _, _, _, _, _, _, _, _, _, _, _, _, _, _, _, _, _, _, rfl, hv', B1⟩
        · have hv' : O = .error m := by
            rw [hv.out, hO2]
            rfl
          clear hv hO2
          go_wp2
          go_step3
          exact ⟨rfl, m, _, _, _, _, _, _, _, _, _, _, _, _, _, _, _, _, _, _, _, _, _, _, _, _, _, _, _, _, _, _, _, _, _, _, _, _, _, _, _, _, _, _, _, _, _, rfl, hv', hB⟩
    · rintro a' w' ⟨p, u0, u1, u2, u3, u4, u5, u6, u8, u9, u10, u11, u12, u13, u14, u15, u16, u17, u18, u19, u20, u21, u22, u23, u24, u25, u26, u27, u28, u29, u30, u31, u32, u33, u34, u35, u36, u37, u38, u39, u40, u41, u42, u43, u44, u45, rfl, ho, hB⟩
      go_wp2
      simp only [Exit.jump]
      exact bodyPost_ret (v := .tuple #[.slice none 0 0, .int .i64 p, .int .i64 20]) (by simp [results, go_sem]) rfl ⟨FER _ _ p ho rfl, hB⟩
end Go.Proofs.Ytoghhjljmhdioaa
