/- Two lists of uses that are alike. -/
import Derived.Test.YtoghhjljmhdioaaTku
namespace Go.Proofs.Ytoghhjljmhdioaa
open Go.RowKit
set_option maxRecDepth 100000
set_option maxHeartbeats 8000000 in
theorem same_yes {A A' : Nat → Prop} {w : World} (us : List Us) {a b : Option Addr} {c d : Nat} (s : SlF A w a us.length c (usF us)) (s' : SlF A' w b us.length d (usF us)) (hus : us.length ≤ 400000) :
    Calls Try.prog 8 #[.slice a us.length c, .slice b us.length d] w fun e w' => e = .returned (.bool true) ∧ Below w.heap.size w w' := by
  obtain ⟨n, hn⟩ : ∃ n, Hid (n = us.length) := ⟨_, rfl⟩
  rw [← hn.out] at s s' ⊢
  have hun : us.length ≤ n := by have := hn.out; omega
  have hnu : n ≤ us.length := by have := hn.out; omega
  go_enter Try.func8, Try.ntmps8
  go_wp2_with fail
  go_loopw [5] (fun iv wr => ∃ (k : Nat), k ≤ n ∧ iv = .int .i64 (k : Int) ∧ Below w.heap.size w wr) (fun iv _ => n - (intOf iv).toNat)
  case atStart => exact ⟨0, Nat.zero_le _, rfl, Below.refl _ _⟩
  case round =>
    obtain ⟨k, hk, rfl, Bw⟩ := hrel
    by_cases hlt : k < n
    · obtain ⟨u, hu⟩ : ∃ u, us[k]? = some u := ⟨_, List.getElem?_eq_getElem (by omega)⟩
      obtain ⟨g, off, rfl, _, hc⟩ := s.cells (by rw [usF_len]; omega)
      obtain ⟨g', off', rfl, _, hc'⟩ := s'.cells (by rw [usF_len]; omega)
      have hB0 : ∀ j x, (usC u)[j]? = some x → wr.cell? ⟨g, off + k * 6 + j, none⟩ = some x := fun j x hj => by
        have h1 := hc _ _ (usF_at us k u hu j x hj)
        rw [← Nat.add_assoc] at h1
        exact (World.cell?_of_block (a := ⟨g, off + k * 6 + j, none⟩) (Bw.block g (block_lt_of_cell h1))).trans h1
      have hB1 : ∀ j x, (usC u)[j]? = some x → wr.cell? ⟨g', off' + k * 6 + j, none⟩ = some x := fun j x hj => by
        have h1 := hc' _ _ (usF_at us k u hu j x hj)
        rw [← Nat.add_assoc] at h1
        exact (World.cell?_of_block (a := ⟨g', off' + k * 6 + j, none⟩) (Bw.block g' (block_lt_of_cell h1))).trans h1
      have d0 := hB0 0 _ rfl
      have d1 := hB0 1 _ rfl
      have d2 := hB0 2 _ rfl
      have d3 := hB0 3 _ rfl
      have d4 := hB0 4 _ rfl
      have d5 := hB0 5 _ rfl
      have f0 := hB1 0 _ rfl
      have f1 := hB1 1 _ rfl
      have f2 := hB1 2 _ rfl
      have f3 := hB1 3 _ rfl
      have f4 := hB1 4 _ rfl
      have f5 := hB1 5 _ rfl
      rw [Nat.add_zero] at d0 f0
      clear hc hc' hB0 hB1
      have hki : (k : Int) < (n : Int) := by omega
      go_wp2_with fail
      go_quiet (fail)
      go_wp2_with fail
      exact ⟨⟨k + 1, by omega, by go_num, ⟨Bw.os, Bw.tape, Bw.output, Bw.size, Bw.block⟩⟩, by simp [intOf]; omega⟩
    · have hki : ¬ (k : Int) < (n : Int) := by omega
      go_wp2
      go_ret
      exact ⟨rfl, Bw⟩
end Go.Proofs.Ytoghhjljmhdioaa
namespace Go.Proofs.Ytoghhjljmhdioaa
open Go.RowKit
set_option maxRecDepth 100000
def srcK : List Int := [124, 32, 97, 32, 124, 32, 97, 32, 58, 61, 32, 91, 58, 98, 32, 124, 32, 97, 32, 43, 32, 98, 32, 43, 32, 82, 111, 111, 116, 93]
def rootT : List Int := [82, 111, 111, 116]
def WK : List Tk := [⟨12, [124], 0⟩, ⟨1, [97], 2⟩, ⟨12, [124], 4⟩, ⟨1, [97], 6⟩, ⟨7, [58, 61], 8⟩, ⟨10, [91], 11⟩, ⟨16, [58], 12⟩, ⟨1, [98], 13⟩, ⟨12, [124], 15⟩, ⟨1, [97], 17⟩, ⟨3, [43], 19⟩, ⟨1, [98], 21⟩, ⟨3, [43], 23⟩, ⟨1, rootT, 25⟩, ⟨11, [93], 29⟩, ⟨0, [], 30⟩]
theorem lexK : lexR rdB0 0 srcK = .ok WK := by kernel_rfl
def treK : Nd := .mk 12 [] 0 0 [[97]] [.mk 6 [97] 6 0 [] [.mk 10 [] 11 1 [[98]] [.mk 7 [43] 23 0 [] [.mk 7 [43] 19 0 [] [.mk 5 [97] 17 0 [] [], .mk 5 [98] 21 0 [] []], .mk 5 rootT 25 0 [] []]]]]
theorem runK : runW WK 60 (.body 0 0 u0N) = some (.ok treK 15) := by kernel_rfl
def usK : List Us := [⟨6, [97], 3, 0, 0, true⟩, ⟨17, [97], 3, 1, 0, false⟩, ⟨21, [98], 3, 0, 0, false⟩, ⟨25, rootT, 5, 0, 0, false⟩]
theorem untK : untR [] [] treK = .ok usK := by kernel_rfl
theorem treP_ok {ss : List Int} {W : List Tk} {n x : Nd} {pl j f : Nat} {er : Int} (h : TreP ss false n pl er) (hl : ss.length ≤ 4096) (ho : lexR rdB0 0 ss = .ok W) (hr : runW W f (.body 0 0 u0N) = some (.ok x j)) : if kdW W j = 0 then n = x ∧ pl = 0 ∧ er = 0 else n = zNd ∧ pl = psW W j ∧ er = 20 := by
  rcases h with ⟨⟨h, _⟩ | ⟨_, h, _⟩, _⟩ | ⟨W', _, h, hu⟩
  · omega
  · rw [ho] at h; cases h
  · rw [ho] at h
    cases h
    unfold UnitR at hu
    rw [if_neg (by decide)] at hu
    obtain ⟨r, h1, h2⟩ := hu
    obtain rfl := h1.det ⟨f, hr⟩
    exact h2
theorem knownK {n : Nd} {pl : Nat} {er : Int} (h : TreP srcK false n pl er) : n = treK ∧ pl = 0 ∧ er = 0 := treP_ok h (by decide) lexK runK
theorem strK : (⟨#[124, 32, 97, 32, 124, 32, 97, 32, 58, 61, 32, 91, 58, 98, 32, 124, 32, 97, 32, 43, 32, 98, 32, 43, 32, 82, 111, 111, 116, 93]⟩ : ByteArray) = strOfNums srcK := by kernel_rfl
/-- A block that is read. -/
theorem SlF.lit {w : World} {g n c : Nat} {arr : Array Value} {ty : TypeId} {fl : List Value} (h : w.heap[g]? = some (.cells arr ty)) (e : arr.toList = fl) (hn : n ≤ c) (hc : c ≤ maxLen) : SlF (fun _ => True) w (some ⟨g, 0, none⟩) n c fl :=
  ⟨hn, hc, by simp, fun _ => ⟨g, 0, rfl, trivial, fun j u hj => by
    rw [Nat.zero_add]
    simp only [World.cell?, h]
    rw [← e, Array.getElem?_toList] at hj
    exact hj⟩⟩
theorem litK : (#[.int .i64 6, .string ⟨#[97]⟩, .int .i64 3, .int .i64 0, .int .i64 0, .bool true, .int .i64 17, .string ⟨#[97]⟩, .int .i64 3, .int .i64 1, .int .i64 0, .bool false, .int .i64 21, .string ⟨#[98]⟩, .int .i64 3, .int .i64 0, .int .i64 0, .bool false, .int .i64 25, .string ⟨#[82, 111, 111, 116]⟩, .int .i64 5, .int .i64 0, .int .i64 0, .bool false] : Array Value).toList = usF usK := by kernel_rfl
set_option maxHeartbeats 4000000 in
theorem known_true (w : World) : Calls Try.prog 7 #[] w fun e w' => e = .returned (.bool true) ∧ Below w.heap.size w w' := by
  go_enter Try.func7, Try.ntmps7
  go_wp2_with fail
  rw [strK]
  refine (resolved_any srcK false [] w (by decide) (by decide) (SlF.nil (fun _ => True) w) (fun x hx => absurd hx List.not_mem_nil)).mono ?_
  rintro e w1 ⟨n, pl, er, hT, B1, h⟩
  obtain ⟨rfl, _, rfl⟩ := knownK hT
  have h := (h.resolve_left fun h => h.1 rfl).2
  rw [untK] at h
  obtain ⟨va, vc, rfl, o⟩ := h
  clear hT
  go_wp2_with fail
  have E2 := newO w1 (.cells #[.int .i64 6, .string ⟨#[97]⟩, .int .i64 3, .int .i64 0, .int .i64 0, .bool true, .int .i64 17, .string ⟨#[97]⟩, .int .i64 3, .int .i64 1, .int .i64 0, .bool false, .int .i64 21, .string ⟨#[98]⟩, .int .i64 3, .int .i64 0, .int .i64 0, .bool false, .int .i64 25, .string ⟨#[82, 111, 111, 116]⟩, .int .i64 5, .int .i64 0, .int .i64 0, .bool false] 43)
  have B2 := boxO (w := w1) (o := .cells #[.int .i64 6, .string ⟨#[97]⟩, .int .i64 3, .int .i64 0, .int .i64 0, .bool true, .int .i64 17, .string ⟨#[97]⟩, .int .i64 3, .int .i64 1, .int .i64 0, .bool false, .int .i64 21, .string ⟨#[98]⟩, .int .i64 3, .int .i64 0, .int .i64 0, .bool false, .int .i64 25, .string ⟨#[82, 111, 111, 116]⟩, .int .i64 5, .int .i64 0, .int .i64 0, .bool false] 43)
  generalize w1.alloc (.cells #[.int .i64 6, .string ⟨#[97]⟩, .int .i64 3, .int .i64 0, .int .i64 0, .bool true, .int .i64 17, .string ⟨#[97]⟩, .int .i64 3, .int .i64 1, .int .i64 0, .bool false, .int .i64 21, .string ⟨#[98]⟩, .int .i64 3, .int .i64 0, .int .i64 0, .bool false, .int .i64 25, .string ⟨#[82, 111, 111, 116]⟩, .int .i64 5, .int .i64 0, .int .i64 0, .bool false] 43) = w2 at E2 B2 ⊢
  have B02 : Below w.heap.size w w2 := B1.trans (B2.mono B1.size)
  have o2 := own3_keep o fun g hg => B2.block g (own3_lt o hg)
  refine (taken_any usK (own3_sl o2).2 (by decide)).mono ?_
  rintro e w3 ⟨ra, rc, rfl, o3, B3⟩
  have E3 := (B3.block _ (lt_of_block E2)).trans E2
  have B03 : Below w.heap.size w w3 := B02.trans (B3.mono B02.size)
  go_wp2_with fail
  refine (same_yes usK (own3_sl o3).2 (SlF.lit E3 litK (by decide) (by decide)) (by decide)).mono ?_
  rintro e w4 ⟨rfl, B4⟩
  go_wp2
  go_ret
  exact ⟨rfl, B03.trans (B4.mono B03.size)⟩
end Go.Proofs.Ytoghhjljmhdioaa
