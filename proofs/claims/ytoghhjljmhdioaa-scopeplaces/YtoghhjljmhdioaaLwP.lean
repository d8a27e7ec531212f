/- Two lists of uses that are alike. -/
import Derived.Test.YtoghhjljmhdioaaTku
import Derived.Test.YtoghhjljmhdioaaScoM
import Derived.Test.YtoghhjljmhdioaaPlcM
import Derived.BigQuiet
namespace Go.Proofs.Ytoghhjljmhdioaa
open Go.RowKit
set_option maxRecDepth 100000
set_option maxHeartbeats 8000000 in
theorem same_yes {A A' : Nat → Prop} {w : World} (us : List Us) {a b : Option Addr} {c d : Nat} (s : SlF A w a us.length c (usF us)) (s' : SlF A' w b us.length d (usF us)) (hus : us.length ≤ 400000) :
    Calls Try.prog 8 #[.slice a us.length c, .slice b us.length d] w fun e w' => e = .returned (.bool true) ∧ Below w.heap.size w w' := by
  obtain ⟨n, hn⟩ : ∃ n, Hid (n = us.length) := ⟨_, rfl⟩
  rw [← hn.out] at s s' ⊢
  have hun : us.length ≤ n := by have := hn.out; omega
  have hnu : n ≤ us.length := by have := hn.out; omega
  go_enter Try.func8, Try.ntmps8
  go_wp2_with fail
  go_loopw [5] (fun iv wr => ∃ (k : Nat), k ≤ n ∧ iv = .int .i64 (k : Int) ∧ Below w.heap.size w wr) (fun iv _ => n - (intOf iv).toNat)
  case atStart => exact ⟨0, Nat.zero_le _, rfl, Below.refl _ _⟩
  case round =>
    obtain ⟨k, hk, rfl, Bw⟩ := hrel
    by_cases hlt : k < n
    · obtain ⟨u, hu⟩ : ∃ u, us[k]? = some u := ⟨_, List.getElem?_eq_getElem (by omega)⟩
      obtain ⟨g, off, rfl, _, hc⟩ := s.cells (by rw [usF_len]; omega)
      obtain ⟨g', off', rfl, _, hc'⟩ := s'.cells (by rw [usF_len]; omega)
      have hB0 : ∀ j x, (usC u)[j]? = some x → wr.cell? ⟨g, off + k * 6 + j, none⟩ = some x := fun j x hj => by
        have h1 := hc _ _ (usF_at us k u hu j x hj)
        rw [← Nat.add_assoc] at h1
        exact (World.cell?_of_block (a := ⟨g, off + k * 6 + j, none⟩) (Bw.block g (block_lt_of_cell h1))).trans h1
      have hB1 : ∀ j x, (usC u)[j]? = some x → wr.cell? ⟨g', off' + k * 6 + j, none⟩ = some x := fun j x hj => by
        have h1 := hc' _ _ (usF_at us k u hu j x hj)
        rw [← Nat.add_assoc] at h1
        exact (World.cell?_of_block (a := ⟨g', off' + k * 6 + j, none⟩) (Bw.block g' (block_lt_of_cell h1))).trans h1
      have d0 := hB0 0 _ rfl
      have d1 := hB0 1 _ rfl
      have d2 := hB0 2 _ rfl
      have d3 := hB0 3 _ rfl
      have d4 := hB0 4 _ rfl
      have d5 := hB0 5 _ rfl
      have f0 := hB1 0 _ rfl
      have f1 := hB1 1 _ rfl
      have f2 := hB1 2 _ rfl
      have f3 := hB1 3 _ rfl
      have f4 := hB1 4 _ rfl
      have f5 := hB1 5 _ rfl
      rw [Nat.add_zero] at d0 f0
      clear hc hc' hB0 hB1
      have hki : (k : Int) < (n : Int) := by omega
      go_wp2_with fail
      go_quiet (fail)
      go_wp2_with fail
      exact ⟨⟨k + 1, by omega, by go_num, ⟨Bw.os, Bw.tape, Bw.output, Bw.size, Bw.block⟩⟩, by simp [intOf]; omega⟩
    · have hki : ¬ (k : Int) < (n : Int) := by omega
      go_wp2
      go_ret
      exact ⟨rfl, Bw⟩
end Go.Proofs.Ytoghhjljmhdioaa
namespace Go.Proofs.Ytoghhjljmhdioaa
open Go.RowKit
set_option maxRecDepth 100000
def srcK : List Int := [124, 32, 97, 32, 124, 32, 97, 32, 58, 61, 32, 91, 58, 98, 32, 124, 32, 97, 32, 43, 32, 98, 32, 43, 32, 82, 111, 111, 116, 93]
def rootT : List Int := [82, 111, 111, 116]
def WK : List Tk := [⟨12, [124], 0⟩, ⟨1, [97], 2⟩, ⟨12, [124], 4⟩, ⟨1, [97], 6⟩, ⟨7, [58, 61], 8⟩, ⟨10, [91], 11⟩, ⟨16, [58], 12⟩, ⟨1, [98], 13⟩, ⟨12, [124], 15⟩, ⟨1, [97], 17⟩, ⟨3, [43], 19⟩, ⟨1, [98], 21⟩, ⟨3, [43], 23⟩, ⟨1, rootT, 25⟩, ⟨11, [93], 29⟩, ⟨0, [], 30⟩]
theorem lexK : lexR rdB0 0 srcK = .ok WK := by kernel_rfl
def treK : Nd := .mk 12 [] 0 0 [[97]] [.mk 6 [97] 6 0 [] [.mk 10 [] 11 1 [[98]] [.mk 7 [43] 23 0 [] [.mk 7 [43] 19 0 [] [.mk 5 [97] 17 0 [] [], .mk 5 [98] 21 0 [] []], .mk 5 rootT 25 0 [] []]]]]
theorem runK : runW WK 60 (.body 0 0 u0N) = some (.ok treK 15) := by kernel_rfl
def usK : List Us := [⟨6, [97], 3, 0, 0, true⟩, ⟨17, [97], 3, 1, 0, false⟩, ⟨21, [98], 3, 0, 0, false⟩, ⟨25, rootT, 5, 0, 0, false⟩]
theorem untK : untR [] [] treK = .ok usK := by kernel_rfl
theorem treP_ok {ss : List Int} {W : List Tk} {n x : Nd} {pl j f : Nat} {er : Int} (h : TreP ss false n pl er) (hl : ss.length ≤ 4096) (ho : lexR rdB0 0 ss = .ok W) (hr : runW W f (.body 0 0 u0N) = some (.ok x j)) : if kdW W j = 0 then n = x ∧ pl = 0 ∧ er = 0 else n = zNd ∧ pl = psW W j ∧ er = 20 := by
  rcases h with ⟨⟨h, _⟩ | ⟨_, h, _⟩, _⟩ | ⟨W', _, h, hu⟩
  · omega
  · rw [ho] at h; cases h
  · rw [ho] at h
    cases h
    unfold UnitR at hu
    rw [if_neg (by decide)] at hu
    obtain ⟨r, h1, h2⟩ := hu
    obtain rfl := h1.det ⟨f, hr⟩
    exact h2
theorem knownK {n : Nd} {pl : Nat} {er : Int} (h : TreP srcK false n pl er) : n = treK ∧ pl = 0 ∧ er = 0 := treP_ok h (by decide) lexK runK
theorem strK : (⟨#[124, 32, 97, 32, 124, 32, 97, 32, 58, 61, 32, 91, 58, 98, 32, 124, 32, 97, 32, 43, 32, 98, 32, 43, 32, 82, 111, 111, 116, 93]⟩ : ByteArray) = strOfNums srcK := by kernel_rfl
/-- A block that is read. -/
theorem SlF.lit {w : World} {g n c : Nat} {arr : Array Value} {ty : TypeId} {fl : List Value} (h : w.heap[g]? = some (.cells arr ty)) (e : arr.toList = fl) (hn : n ≤ c) (hc : c ≤ maxLen) : SlF (fun _ => True) w (some ⟨g, 0, none⟩) n c fl :=
  ⟨hn, hc, by simp, fun _ => ⟨g, 0, rfl, trivial, fun j u hj => by
    rw [Nat.zero_add]
    simp only [World.cell?, h]
    rw [← e, Array.getElem?_toList] at hj
    exact hj⟩⟩
theorem litK : (#[.int .i64 6, .string ⟨#[97]⟩, .int .i64 3, .int .i64 0, .int .i64 0, .bool true, .int .i64 17, .string ⟨#[97]⟩, .int .i64 3, .int .i64 1, .int .i64 0, .bool false, .int .i64 21, .string ⟨#[98]⟩, .int .i64 3, .int .i64 0, .int .i64 0, .bool false, .int .i64 25, .string ⟨#[82, 111, 111, 116]⟩, .int .i64 5, .int .i64 0, .int .i64 0, .bool false] : Array Value).toList = usF usK := by kernel_rfl
set_option maxHeartbeats 4000000 in
theorem known_true (w : World) : Calls Try.prog 7 #[] w fun e w' => e = .returned (.bool true) ∧ Below w.heap.size w w' := by
  go_enter Try.func7, Try.ntmps7
  go_wp2_with fail
  rw [strK]
  refine (resolved_any srcK false [] w (by decide) (by decide) (SlF.nil (fun _ => True) w) (fun x hx => absurd hx List.not_mem_nil)).mono ?_
  rintro e w1 ⟨n, pl, er, hT, B1, h⟩
  obtain ⟨rfl, _, rfl⟩ := knownK hT
  have h := (h.resolve_left fun h => h.1 rfl).2
  rw [untK] at h
  obtain ⟨va, vc, rfl, o⟩ := h
  clear hT
  go_wp2_with fail
  have E2 := newO w1 (.cells #[.int .i64 6, .string ⟨#[97]⟩, .int .i64 3, .int .i64 0, .int .i64 0, .bool true, .int .i64 17, .string ⟨#[97]⟩, .int .i64 3, .int .i64 1, .int .i64 0, .bool false, .int .i64 21, .string ⟨#[98]⟩, .int .i64 3, .int .i64 0, .int .i64 0, .bool false, .int .i64 25, .string ⟨#[82, 111, 111, 116]⟩, .int .i64 5, .int .i64 0, .int .i64 0, .bool false] 43)
  have B2 := boxO (w := w1) (o := .cells #[.int .i64 6, .string ⟨#[97]⟩, .int .i64 3, .int .i64 0, .int .i64 0, .bool true, .int .i64 17, .string ⟨#[97]⟩, .int .i64 3, .int .i64 1, .int .i64 0, .bool false, .int .i64 21, .string ⟨#[98]⟩, .int .i64 3, .int .i64 0, .int .i64 0, .bool false, .int .i64 25, .string ⟨#[82, 111, 111, 116]⟩, .int .i64 5, .int .i64 0, .int .i64 0, .bool false] 43)
  generalize w1.alloc (.cells #[.int .i64 6, .string ⟨#[97]⟩, .int .i64 3, .int .i64 0, .int .i64 0, .bool true, .int .i64 17, .string ⟨#[97]⟩, .int .i64 3, .int .i64 1, .int .i64 0, .bool false, .int .i64 21, .string ⟨#[98]⟩, .int .i64 3, .int .i64 0, .int .i64 0, .bool false, .int .i64 25, .string ⟨#[82, 111, 111, 116]⟩, .int .i64 5, .int .i64 0, .int .i64 0, .bool false] 43) = w2 at E2 B2 ⊢
  have B02 : Below w.heap.size w w2 := B1.trans (B2.mono B1.size)
  have o2 := own3_keep o fun g hg => B2.block g (own3_lt o hg)
  refine (taken_any usK (own3_sl o2).2 (by decide)).mono ?_
  rintro e w3 ⟨ra, rc, rfl, o3, B3⟩
  have E3 := (B3.block _ (lt_of_block E2)).trans E2
  have B03 : Below w.heap.size w w3 := B02.trans (B3.mono B02.size)
  go_wp2_with fail
  refine (same_yes usK (own3_sl o3).2 (SlF.lit E3 litK (by decide) (by decide)) (by decide)).mono ?_
  rintro e w4 ⟨rfl, B4⟩
  go_wp2
  go_ret
  exact ⟨rfl, B03.trans (B4.mono B03.size)⟩
end Go.Proofs.Ytoghhjljmhdioaa
namespace Go.Proofs.Ytoghhjljmhdioaa
/-- A use that stands at its place; what is set is a Temp or a Slot. -/
def UsOk (ss : List Int) (u : Us) : Prop := Stands ss u.pos u.name ∧ (u.write = true → u.kind = 3 ∨ u.kind = 4)
theorem varR_ok {ss : List Int} {sl : List (List Int)} {E : Ev} {rc : Bool} {t : List Int} {p : Nat} {us : List Us} (h : varR sl E rc t p = .ok us) (hs : Stands ss p t) : ∀ u ∈ us, UsOk ss u := by
  unfold varR at h
  split at h
  · split at h
    · cases h
    · cases h
      intro u hu
      rw [List.mem_singleton.1 hu]
      exact ⟨hs, fun h => by cases h⟩
  · cases h
theorem setR_ok {ss : List Int} {sl : List (List Int)} {E : Ev} {t : List Int} {p : Nat} {us : List Us} (h : setR sl E t p = .ok us) (hs : Stands ss p t) : ∀ u ∈ us, UsOk ss u := by
  unfold setR at h
  split at h
  · split at h
    · rename_i hk
      cases h
      intro u hu
      rw [List.mem_singleton.1 hu]
      exact ⟨hs, fun _ => hk.elim .inr (fun h => .inl h.1)⟩
    · cases h
  · cases h
mutual
theorem prtR_ok {ss : List Int} {sl : List (List Int)} : ∀ (x : Nd) {E : Ev} {rc : Bool} {us : List Us}, Plc ss x → prtR sl E rc x = .ok us → ∀ u ∈ us, UsOk ss u
  | .mk k t p n l kids, E, rc, us, hx, h => by
    unfold prtR at h
    by_cases h5 : k = 5
    · rw [if_pos h5] at h
      exact varR_ok h (hx.here (.inl h5))
    rw [if_neg h5] at h
    by_cases h6 : k = 6
    · rw [if_pos h6] at h
      obtain ⟨a, ha, h⟩ := bind_ok h
      obtain ⟨b, hb, h⟩ := bind_ok h
      cases h
      intro u hu
      rcases List.mem_append.1 hu with hu | hu
      · exact setR_ok ha (hx.here (.inr h6)) u hu
      · exact prsR_ok kids hx.kidsOf hb u hu
    rw [if_neg h6] at h
    by_cases h10 : k = 10
    · rw [if_pos h10] at h
      by_cases hs : sndR l = true
      · rw [if_pos hs] at h
        exact prsR_ok kids hx.kidsOf h
      · rw [if_neg hs] at h
        cases h
    rw [if_neg h10] at h
    exact prsR_ok kids hx.kidsOf h
theorem prsR_ok {ss : List Int} {sl : List (List Int)} : ∀ (l : List Nd) {E : Ev} {rc : Bool} {us : List Us}, (∀ x ∈ l, Plc ss x) → prsR sl E rc l = .ok us → ∀ u ∈ us, UsOk ss u
  | [], E, rc, us, _, h => by
    unfold prsR at h
    cases h
    exact fun u hu => absurd hu List.not_mem_nil
  | x :: r, E, rc, us, hl, h => by
    unfold prsR at h
    obtain ⟨a, ha, h⟩ := bind_ok h
    obtain ⟨b, hb, h⟩ := bind_ok h
    cases h
    intro u hu
    rcases List.mem_append.1 hu with hu | hu
    · exact prtR_ok x (hl x (List.mem_cons_self ..)) ha u hu
    · exact prsR_ok r (fun y hy => hl y (List.mem_cons_of_mem _ hy)) hb u hu
end
theorem untR_ok {ss : List Int} {sl : List (List Int)} {E : Ev} {x : Nd} {us : List Us} (hx : Plc ss x) (h : untR sl E x = .ok us) : ∀ u ∈ us, UsOk ss u := by
  unfold untR at h
  by_cases hs : sndR x.names = true
  · rw [if_pos hs] at h
    exact prsR_ok _ hx.kidsOf h
  · rw [if_neg hs] at h
    cases h
end Go.Proofs.Ytoghhjljmhdioaa
namespace Go.Proofs.Ytoghhjljmhdioaa
open Go.RowKit
set_option maxRecDepth 100000
theorem untR_len {sl : List (List Int)} {E : Ev} {x : Nd} {us : List Us} (h : untR sl E x = .ok us) : us.length ≤ cntN x := by
  unfold untR at h
  split at h
  · have := prsR_len _ h
    rw [cntN_kids]
    omega
  · cases h
set_option maxHeartbeats 8000000 in
theorem places_true (ss : List Int) (m : Bool) (sl : List (List Int)) (w : World) (hb : ∀ x ∈ ss, 0 ≤ x ∧ x < 256) (hm : ss.length ≤ 9223372036854775807) {A' : Nat → Prop} {sa : Option Addr} {sc : Nat} (s : SlF A' w sa sl.length sc (sl.map strV)) (hs : BytL sl) :
    Calls Try.prog 5 #[.string (strOfNums ss), .bool m, .slice sa sl.length sc] w fun e w' => e = .returned (.bool true) ∧ Below w.heap.size w w' := by
  go_enter Try.func5, Try.ntmps5
  go_wp2_with fail
  refine (resolved_any ss m sl w hb hm s hs).mono ?_
  rintro e w1 ⟨n, pl, er, hT, B1, h⟩
  rcases h with ⟨h0, rfl⟩ | ⟨rfl, h⟩
  · go_wp2_with fail
    refine (known_true w1).mono ?_
    rintro e w2 ⟨rfl, B2⟩
    go_wp2
    go_ret
    exact ⟨rfl, B1.trans (B2.mono B1.size)⟩
  cases hr : untR sl [] n with
  | error pp =>
    rw [hr] at h
    obtain rfl := h
    go_wp2_with fail
    refine (known_true w1).mono ?_
    rintro e w2 ⟨rfl, B2⟩
    go_wp2
    go_ret
    exact ⟨rfl, B1.trans (B2.mono B1.size)⟩
  | ok us =>
    rw [hr] at h
    obtain ⟨va, vc, rfl, o⟩ := h
    have hok := untR_ok hT.plc hr
    have hlen := untR_len hr
    obtain ⟨hc, hby⟩ := hT.siz hb
    have s1 := (own3_sl o).2
    have hus : us.length ≤ 100000 := by omega
    clear hr o hlen hc hby hT s hs
    go_wp2_with fail
    go_loopw [11] (fun iv wr => ∃ k : Nat, k ≤ us.length ∧ iv = .int .i64 (k : Int) ∧ Below w.heap.size w wr ∧ Below w1.heap.size w1 wr) (fun iv _ => us.length - (intOf iv).toNat)
    case atStart => exact ⟨0, Nat.zero_le _, rfl, B1, Below.refl _ _⟩
    case round =>
      obtain ⟨k, hk, rfl, BR, B1R⟩ := hrel
      by_cases hlt : k < us.length
      · obtain ⟨u, hu⟩ : ∃ u, us[k]? = some u := ⟨_, List.getElem?_eq_getElem hlt⟩
        obtain ⟨⟨hp1, hp2⟩, hw⟩ := hok u (List.mem_of_getElem? hu)
        obtain ⟨g, off, rfl, _, hcc⟩ := s1.cells (by rw [usF_len]; omega)
        have hB0 : ∀ j x, (usC u)[j]? = some x → wr.cell? ⟨g, off + k * 6 + j, none⟩ = some x := fun j x hj => by
          have h1 := hcc _ _ (usF_at us k u hu j x hj)
          rw [← Nat.add_assoc] at h1
          exact (World.cell?_of_block (a := ⟨g, off + k * 6 + j, none⟩) (B1R.block g (block_lt_of_cell h1))).trans h1
        have d0 := hB0 0 _ rfl
        have d1 := hB0 1 _ rfl
        have d2 := hB0 2 _ rfl
        have d3 := hB0 3 _ rfl
        have d4 := hB0 4 _ rfl
        have d5 := hB0 5 _ rfl
        rw [Nat.add_zero] at d0
        clear hcc hB0 hu hok
        obtain ⟨p, t, kd, dp, ix, wt⟩ := u
        simp only at d0 d1 d2 d3 d4 d5 hp1 hp2 hw
        have hki : (k : Int) < (us.length : Int) := by omega
        go_wp2_with (refine al29 _ rfl rfl ?_)
        intro q w3 E3 hq B3
        go_wp2_with (refine st29 _ rfl _ _ rfl rfl _ _ _ _ _ _ _ rfl rfl E3 ?_)
        intro w4 E4 S4
        have B4 : Below wr.heap.size wr w4 := B3.trans (S4.below hq)
        have BR4 : Below w.heap.size w w4 := BR.trans (B4.mono BR.size)
        have B1R4 : Below w1.heap.size w1 w4 := B1R.trans (B4.mono B1R.size)
        clear d0 d1 d2 d3 d4 d5 E3 B3 S4 BR B1R B4
        obtain ⟨z0, z1, z2, z3, z4, z5, _⟩ := us_cells E4
        have f0 : ¬ (p : Int) < 0 := by omega
        have hsz : (strOfNums ss).size = ss.length := strOfNums_size ss
        have htz : (strOfNums t).size = t.length := strOfNums_size t
        have f1 : ¬ ss.length < p := by omega
        have f1' : ¬ (ss.length : Int) < (p : Int) := by omega
        have f2 : ¬ (ss.length : Int) - (p : Int) < (t.length : Int) := by omega
        have g1 : IntKind.i64.wrap ((ss.length : Int) - (p : Int)) = (ss.length : Int) - (p : Int) := by rw [IntKind.wrap_i64]; omega
        have g2 : IntKind.i64.wrap ((p : Int) + (t.length : Int)) = ((p + t.length : Nat) : Int) := by rw [IntKind.wrap_i64]; omega
        have f3 : ((p : Int)).toNat = p := by omega
        have f4 : ((p : Int) + (t.length : Int)).toNat = p + t.length := by omega
        have i1 : (0 : Int) ≤ (p : Int) + (t.length : Int) := by omega
        have i2 : (p : Int) + (t.length : Int) ≤ (ss.length : Int) := by omega
        have i3 : (p : Int) ≤ (p : Int) + (t.length : Int) := by omega
        have f5 : p ≤ p + t.length := by omega
        have f6 : p + t.length ≤ ss.length := by omega
        have f7 : (strOfNums ss).extract p (p + t.length) = strOfNums t := by
          rw [ext_str, show p + t.length - p = t.length by omega, hp2]
        clear hp1 hp2
        cases wt with
        | false =>
          clear hw
          go_wp2_with fail
          go_quiet (fail)
          go_wp2_with fail
          exact ⟨⟨k + 1, by omega, by go_num, ⟨BR4.os, BR4.tape, BR4.output, BR4.size, BR4.block⟩, ⟨B1R4.os, B1R4.tape, B1R4.output, B1R4.size, B1R4.block⟩⟩, by simp [intOf]; omega⟩
        | true =>
          rcases hw rfl with rfl | rfl
          · clear hw
            go_wp2_with fail
            go_quiet (fail)
            go_wp2_with fail
            exact ⟨⟨k + 1, by omega, by go_num, ⟨BR4.os, BR4.tape, BR4.output, BR4.size, BR4.block⟩, ⟨B1R4.os, B1R4.tape, B1R4.output, B1R4.size, B1R4.block⟩⟩, by simp [intOf]; omega⟩
          · clear hw
            go_wp2_with fail
            go_quiet (fail)
            go_wp2_with fail
            exact ⟨⟨k + 1, by omega, by go_num, ⟨BR4.os, BR4.tape, BR4.output, BR4.size, BR4.block⟩, ⟨B1R4.os, B1R4.tape, B1R4.output, B1R4.size, B1R4.block⟩⟩, by simp [intOf]; omega⟩
      · have hki : ¬ (k : Int) < (us.length : Int) := by omega
        go_wp2_with fail
        refine (known_true wr).mono ?_
        rintro e w2 ⟨rfl, B2⟩
        go_wp2
        go_ret
        exact ⟨rfl, BR.trans (B2.mono BR.size)⟩
end Go.Proofs.Ytoghhjljmhdioaa
