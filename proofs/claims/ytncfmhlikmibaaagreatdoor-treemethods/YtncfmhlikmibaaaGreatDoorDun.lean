/- The document's parser: a source as a tree. -/
import Derived.Test.YtncfmhlikmibaaaGreatDoorDpn
import Derived.Test.YtncfmhlikmibaaaGreatDoorDcf
import Derived.Test.YtncfmhlikmibaaaGreatDoorDxt
import Derived.Test.YtncfmhlikmibaaaGreatDoorRxW
import Derived.Test.YtncfmhlikmibaaaGreatDoorLxR
import Derived.Test.YtncfmhlikmibaaaGreatDoorKno
import Derived.Test.YtncfmhlikmibaaaGreatDoorRxP
namespace Go.Proofs.YtncfmhlikmibaaaGreatDoor
open Go.RowKit
set_option maxRecDepth 100000
set_option maxHeartbeats 16000000
section
structure DAlls (W : List Tk) (E i d : Nat) : Prop where
 list : kdW W i ≠ 0 → ConL W i d
 una : Zdk 123 W (.una i d) i d
 bin : Zdk 120 W (.bin i d) i d
 msg : ConM W i d
 expr : Zdk 49 W (.expr i d) i d
variable {E : Nat} {W : List Tk}
theorem Znj (S : Src W E) (hT : ∀ i, ∀ c ∈ txW W i, 0 ≤ c ∧ c < 256) {i d : Nat} (hi : i ≤ E) (hd : d ≤ 40) (ih : ∀ j d, i < j → j ≤ E → d ≤ 40 → DAlls W E j d) : DAlls W E i d := by
 have h137 : Zdj 137 W := Zog S
 have h81 : Zdj 81 W := Zon (Zmn (Zlr (Zml h137)))
 have h49 : Zdj 49 W := Zi6 h81
 have list : kdW W i ≠ 0 → ConL W i d := fun hk => Zq6 S hT hd hk fun j h1 h2 h3 h4 => (ih j (d + 1) h1 h2 (by omega)).list (by omega)
 have block : kdW W i ≠ 0 → Zdk 156 W (.block i d) i d := fun hk => Zoo S hd hk fun j h1 h2 h3 => (ih j (d + 1) h1 h2 (by omega)).expr
 have hM : ∀ j, i < j → j ≤ E → ConM W j d := fun j h1 h2 => (ih j d h1 h2 hd).msg
 have prim : Zdk 137 W (.prim i d) i d := Zlm S hi hd (fun hk => list (by omega)) (fun hk => block (by omega)) (fun hk h3 => (ih (i + 1) (d + 1) (by omega) (S.ends.lt (by omega)) (by omega)).expr) h49
 have una : Zdk 123 W (.una i d) i d := Zoc S hi prim hM
 have bin : Zdk 120 W (.bin i d) i d := Zmq S hi una hM
 have casc : Zdk 81 W (.casc i d) i d := Zlq S hi (Zoj S hi bin hM) hM
 exact ⟨list, una, bin, Zlo S hi (fun h => (ih (i + 1) d (by omega) h hd).una) (fun j h1 h2 => (ih j d h1 h2 hd).bin), Zhi S hi hd (fun hk h3 => (ih (i + 2) (d + 1) (by omega) (S.ends.lt (m := i + 1) (by omega)) (by omega)).expr) h81 casc⟩
theorem dalls (S : Src W E) (hT : ∀ i, ∀ c ∈ txW W i, 0 ≤ c ∧ c < 256) (n : Nat) : ∀ i d, E - i ≤ n → i ≤ E → d ≤ 40 → DAlls W E i d := by
 induction n with
 | zero => exact fun i d h1 hi hd => Znj S hT hi hd fun j d h2 h3 _ => absurd h2 (by omega)
 | succ n ih => exact fun i d h1 hi hd => Znj S hT hi hd fun j d h2 h3 h4 => ih j d (by omega) h3 h4
theorem Zq8 (S : Src W E) (hT : ∀ i, ∀ c ∈ txW W i, 0 ≤ c ∧ c < 256) {i d : Nat} (hi : i ≤ E) (hd : d ≤ 40) : Zdk 49 W (.expr i d) i d := (dalls S hT (E - i) i d zo hi hd).expr
end
theorem idx_none (r : List Int) (h : ∀ m, m < r.length → r.getD m 0 ≠ 34) : r.idxOf? 34 = none := by
 induction r with
 | nil => rfl
 | cons c r ih =>
  rw [List.idxOf?_cons, if_neg (by have := h 0 (by simp); simpa using this), ih fun m hm => by have := h (m + 1) (by simp; omega); simpa using this]
  rfl
theorem Zqn (r : List Int) (j : Nat) (hj : j < r.length) (h : ∀ m, m < j → r.getD m 0 ≠ 34) (he : r.getD j 0 = 34) : r.idxOf? 34 = some j := by
 induction r generalizing j with
 | nil => simp at hj
 | cons c r ih =>
  rw [List.idxOf?_cons]
  cases j with
  | zero => rw [if_pos (by simpa using he)]
  | succ j =>
   rw [if_neg (by have := h 0 (by omega); simpa using this), ih j (by simpa using hj) (fun m hm => by have := h (m + 1) (by omega); simpa using this) (by simpa using he)]
   rfl
theorem Zgy (ss : List Int) (w : World) (hb : ∀ x ∈ ss, 0 ≤ x ∧ x < 256) : Calls Tryz.prog 29 #[.string (strOfNums ss)] w fun e w' => RdP ss e w' ∧ Below w.heap.size w w' := by
 have hsz : (strOfNums ss).size = ss.length := strOfNums_size ss
 by_cases hl : 4096 < ss.length
 ·have hlI : (4096 : Int) < (ss.length : Int) := by omega
  go_enter Tryz.func29, Tryz.ntmps29
  go_wp2
  exact bodyPost_ret (v := .tuple #[.slice none 0 0, .int .i64 0, .int .i64 3]) (by simp [results, go_sem]) rfl ⟨Zk9 hl rfl, Below.refl _ _⟩
 have hlI : ¬ (4096 : Int) < (ss.length : Int) := by omega
 obtain ⟨O, hO⟩ : ∃ O, Hid (Zck Zeb 0 ss = O) := ⟨_, rfl⟩
 have FOK : ∀ e w' ts, O = .ok ts → (∃ a cap, e = .returned (.tuple #[.slice a ts.length cap, .int .i64 0, .int .i64 0]) ∧ IsT w' a ts.length cap ts) → RdP ss e w' := fun e w' ts h => rdp_ok hl (hO.out.trans h)
 have FER : ∀ e w' p, O = .error p → e = .returned (.tuple #[.slice none 0 0, .int .i64 p, .int .i64 20]) → RdP ss e w' := fun e w' p h => Zps hl (hO.out.trans h)
 go_enter Tryz.func29, Tryz.ntmps29
 go_wp2
 go_loopw [5, 6] (fun v x wr => ∃ (i : Nat) (ts : List Tk), x = .int .i64 i ∧ i ≤ ss.length ∧ ts.length ≤ i ∧ Zkx wr w.heap.size 78 v ts ∧ Below w.heap.size w wr ∧ Hid (O = mapT ts (Zck Zeb i (ss.drop i)))) (fun _ x _ => ss.length - (intOf x).toNat)
 case atStart =>
  refine ⟨0, [], rfl, Nat.zero_le _, zo, Zkx.nil _ _ _, Below.refl _ _, ?_⟩
  show _ = _
  rw [← hO.out, List.drop_zero, Znb]
 obtain ⟨i, ts, rfl, hi, hts, hown, hB, hv⟩ := hrel
 clear hO
 have hsw := hB.size
 have hw1 : IntKind.i64.wrap ((i : Int) + 1) = (i : Int) + 1 := by rw [IntKind.wrap_i64]; omega
 by_cases hlt : i < ss.length
 ·have hltI : (i : Int) < (ss.length : Int) := by omega
  have hat := Zbd ss hb i hlt
  have hdr : ss.drop i = ss.getD i 0 :: ss.drop (i + 1) := by rw [Zbn hlt]; exact List.drop_eq_getElem_cons hlt
  cases hbl : blB (ss.getD i 0) with
  | true =>
   have hv' : Hid (O = mapT ts (Zck Zeb (i + 1) (ss.drop (i + 1)))) := by
    show _ = _
    rw [hv.out, hdr, Zft _ _ _ hbl]
   clear hv hdr FOK FER
   generalize ss.getD i 0 = c at *
   have h4 : c = 32 ∨ c = 9 ∨ c = 10 ∨ c = 13 := by
    unfold blB at hbl
    simp only [Bool.or_eq_true, beq_iff_eq] at hbl
    omega
   rcases h4 with rfl | rfl | rfl | rfl
   all_goals go_wp2
   all_goals go_roundw
   all_goals first | exact ⟨i + 1, ts, by go_num, by omega, by omega, hown, hB, hv'⟩ | (simp [intOf]; omega)
  | false =>
   have hbb : (ss.getD i 0 == 32) = false ∧ (ss.getD i 0 == 9) = false ∧ (ss.getD i 0 == 10) = false ∧ (ss.getD i 0 == 13) = false := by
    unfold blB at hbl
    simp only [Bool.or_eq_false_iff] at hbl
    exact ⟨hbl.1.1.1, hbl.1.1.2, hbl.1.2, hbl.2⟩
   obtain ⟨b1, b2, b3, b4⟩ := hbb
   by_cases h34 : ss.getD i 0 = 34
   ·rw [h34] at hat
    have hdr' : ss.drop i = 34 :: ss.drop (i + 1) := by rw [hdr, h34]
    clear hdr b1 b2 b3 b4 hbl h34
    go_wp2
    go_loop [8] (fun y => ∃ j : Nat, y = .int .i64 j ∧ i + 1 ≤ j ∧ j ≤ ss.length ∧ Hid (∀ m, i + 1 ≤ m → m < j → ss.getD m 0 ≠ 34)) (fun y => ss.length - (intOf y).toNat)
    case atStart => exact ⟨i + 1, by go_num, zo, hlt, fun m h1 h2 => absurd h1 (by omega)⟩
    clear hat
    obtain ⟨j, rfl, hj1, hj2, hno⟩ := hrel
    have hwj : IntKind.i64.wrap ((j : Int) + 1) = (j : Int) + 1 := by rw [IntKind.wrap_i64]; omega
    by_cases hjl : j < ss.length
    ·have hjI : (j : Int) < (ss.length : Int) := by omega
     have hatj := Zbd ss hb j hjl
     by_cases hq : ss.getD j 0 = 34
     ·have hix : (ss.drop (i + 1)).idxOf? 34 = some (j - (i + 1)) := Zqn _ _ (by rw [List.length_drop]; omega) (fun m hm => by rw [Za3]; exact hno.out _ (by omega) (by omega)) (by rw [Za3, show i + 1 + (j - (i + 1)) = j by omega]; exact hq)
      have hv' : Hid (O = mapT ts (Zck Zeb (j + 1) (ss.drop (j + 1)))) := by
       show _ = _
       rw [hv.out, hdr', Zhb _ _ _ hix, List.drop_drop, show i + (j - (i + 1)) + 2 = j + 1 by omega, show i + 1 + (j - (i + 1) + 1) = j + 1 by omega]
      have hge : ¬ (ss.length : Int) ≤ (j : Int) := by omega
      rw [hq] at hatj
      clear hv hdr' hix hno hq FOK FER
      go_wp2
      go_roundw
      case rel => exact ⟨j + 1, ts, by go_num, by omega, by omega, hown, hB, hv'⟩
      case measure => simp [intOf]; omega
     have hno' : Hid (∀ m, i + 1 ≤ m → m < j + 1 → ss.getD m 0 ≠ 34) := fun m h1 h2 => if h : m = j then h ▸ hq else hno.out m h1 (by omega)
     have hqb : (ss.getD j 0 == 34) = false := by simpa using hq
     clear hno hq hv FOK FER
     generalize ss.getD j 0 = c at *
     go_wp2
     go_round
     case rel => exact ⟨j + 1, by go_num, by omega, by omega, hno'⟩
     case measure => simp [intOf]; omega
    have hjI : ¬ (j : Int) < (ss.length : Int) := by omega
    have hge : (ss.length : Int) ≤ (j : Int) := by omega
    have hix : (ss.drop (i + 1)).idxOf? 34 = none := idx_none _ fun m hm => by
     rw [List.length_drop] at hm
     rw [Za3]
     exact hno.out _ (by omega) (by omega)
    have hv' : O = .error i := by
     rw [hv.out, hdr', Zha _ _ _ hix]
     rfl
    clear hv hdr' hix hno
    go_wp2
    exact bodyPost_ret (v := .tuple #[.slice none 0 0, .int .i64 i, .int .i64 20]) (by simp [results, go_sem]) rfl ⟨FER _ _ i hv' rfl, hB⟩
   have hqb : (ss.getD i 0 == 34) = false := by simpa using h34
   have hcall := fun w => Zpo ss i w hb hlt (by omega)
   rcases hW : word Zeb (ss.drop i) with _ | ⟨kd, t, n⟩
   ·have hv' : O = .error i := by
     rw [hv.out]
     rw [hdr] at hW ⊢
     rw [Zhc _ _ hbl h34 hW]
     rfl
    rw [hW] at hcall
    clear hv hdr hW hbl h34
    generalize ss.getD i 0 = c at *
    go_wp2_with (go_at_call 44; refine (hcall _).mono ?_; rintro e w2 ⟨hA, hB2⟩; rcases hA with ⟨_, _, _, h, _⟩ | ⟨_, a0, b0, c0, rfl⟩; (first | cases h))
    exact bodyPost_ret (v := .tuple #[.slice none 0 0, .int .i64 i, .int .i64 20]) (by simp [results, go_sem]) rfl ⟨FER _ _ i hv' rfl, Zaf (Zaf hB zo hB2) zo Zcz⟩
   have hwl := Ze0 (r := ss.drop i) (by rw [hdr]; simp) hW
   rw [List.length_drop] at hwl
   have hv' : Hid (O = mapT (ts ++ [⟨kd, t, i⟩]) (Zck Zeb (i + n) (ss.drop (i + n)))) := by
    show _ = _
    rw [hv.out]
    rw [hdr] at hW ⊢
    rw [Zg9 _ _ hbl h34 hW, ← hdr, List.drop_drop]
    exact Zlf _ _ _
   rw [hW] at hcall
   have hcall2 : ∀ w, Calls Tryz.prog 44 #[.string (strOfNums ss), .int .i64 i] w fun e w' => e = .returned (.tuple #[.agg #[.int .i64 kd, .string (strOfNums t), .int .i64 (i : Int)], .int .i64 (i + n : Nat)]) ∧ Below w.heap.size w w' := fun w => (hcall w).mono fun e w' h => by
    rcases h with ⟨⟨_, _, _, h, he⟩ | ⟨h, _⟩, hB⟩
    ·cases h; exact ⟨he, hB⟩
    cases h
   clear hcall
   have hnn : ¬ ((i + n : Nat) : Int) < 0 := by omega
   clear hv hdr hW hbl h34
   generalize ss.getD i 0 = c at *
   go_upto_region 19 with (go_at_call 44; refine (hcall2 _).mono ?_; rintro e w2 ⟨rfl, hB2⟩)
   replace hown := hown.below hB2
   replace hB := Zaf hB zo hB2
   have E : (w2.alloc (.cells #[.int .i64 kd, .string (strOfNums t), .int .i64 (i : Int)] 78)).heap[w2.heap.size]? = some (tkR kd (strOfNums t) i) := Zc9 _ _
   have hsw2 : w.heap.size ≤ w2.heap.size := hB.size
   replace hown := hown.below (Zcz (w := w2) (o := .cells #[.int .i64 kd, .string (strOfNums t), .int .i64 (i : Int)] 78))
   replace hB := Zaf hB zo (Zcz (w := w2) (o := .cells #[.int .i64 kd, .string (strOfNums t), .int .i64 (i : Int)] 78))
   clear hB2
   generalize w2.alloc (.cells #[.int .i64 kd, .string (strOfNums t), .int .i64 (i : Int)] 78) = w3 at *
   obtain ⟨z0, z1, z2, zf⟩ := Zbk E
   have hsw3 : w.heap.size ≤ w3.heap.size := hB.size
   go_wp2_with (at_builtin; refine Zku _ 56 78 Tryz.underlying56 Tryz.info78 rfl _ _ rfl w.heap.size _ ts rfl ?o1 w3.heap.size ⟨kd, t, i⟩ rfl ?o2 ?o3 ?o4 ?_)
   case o1 => exact hown.below Zcz
   case o2 => exact (Array.getElem?_eq_some_iff.1 (Zc9 w3 _)).2
   case o3 => omega
   case o4 => simp; omega
   intro v' w6 hown6 hB6
   go_wp2
   go_roundw
   case rel => exact ⟨i + n, ts ++ [⟨kd, t, i⟩], by go_num, by omega, by simp; omega, hown6, (Zaf hB zo Zcz).trans hB6, hv'⟩
   case measure => simp [intOf]; omega
 have hltI : ¬ (i : Int) < (ss.length : Int) := by omega
 obtain rfl : i = ss.length := by omega
 have hv' : Hid (O = .ok (ts ++ [⟨0, [], ss.length⟩])) := by
  show _ = _
  rw [hv.out, List.drop_of_length_le (by omega), Ze7]
  rfl
 clear hv FER
 go_wp2_with (at_builtin; refine Zku _ 56 78 Tryz.underlying56 Tryz.info78 rfl _ _ rfl w.heap.size _ ts rfl ?o1 wr.heap.size ⟨0, [], ss.length⟩ rfl ?o2 ?o3 ?o4 ?_)
 case o1 => exact hown.below Zcz
 case o2 => exact (Array.getElem?_eq_some_iff.1 (Zc9 wr _)).2
 case o3 => omega
 case o4 => omega
 intro v' w3 hown3 hB3
 obtain ⟨va, vc, rfl, hT⟩ := hown3.isT
 go_wp2
 exact bodyPost_ret (v := .tuple #[.slice va (ts ++ ([⟨0, [], ss.length⟩] : List Tk)).length vc, .int .i64 0, .int .i64 0]) (by simp [results, go_sem]) rfl ⟨FOK _ _ _ hv'.out ⟨va, vc, rfl, hT⟩, (Zaf hB zo Zcz).trans hB3⟩
section
def StR (W : List Tk) (j : Nat) (x n : Nd) (pl : Nat) (e : Int) : Prop := ∃ r, Zaa W (.stmts j 0 x) r ∧ match r with
 | .er k c => n = zNd ∧ pl = psW W k ∧ e = c
 | .ok y k => if kdW W k = 0 then n = y ∧ pl = 0 ∧ e = 0 else n = zNd ∧ pl = psW W k ∧ e = 20
def UQ (W : List Tk) (m : Bool) (G : Prop) (ez : Int) (tz : Nat) : Prop := (ez = 0 → tz = 0 ∧ G) ∧ (ez ≠ 0 → Zb4 W m zNd tz ez)
variable {E iz pl pl' tz : Nat} {W : List Tk} {e e' ez : Int} {m : Bool} {n n' x y : Nd}
theorem UQ.live {G : Prop} (h : G) : UQ W m G 0 0 := ⟨fun _ => ⟨rfl, h⟩, fun h => absurd rfl h⟩
theorem UQ.dead {G : Prop} (h : Zb4 W m zNd tz ez) (he : ez ≠ 0) : UQ W m G ez tz := ⟨fun h => absurd h he, fun _ => h⟩
def UG1 (W : List Tk) (E : Nat) (m : Bool) (i : Nat) (y : Nd) : Prop := i ≤ E ∧ y.names.length ≤ i ∧ ∀ n pl e, Zmu W i y n pl e → Zb4 W m n pl e
def UG2 (W : List Tk) (E : Nat) (m : Bool) (i : Nat) (y : Nd) : Prop := i ≤ E ∧ ∀ n pl e, StR W i y n pl e → Zb4 W m n pl e
theorem unit_pat (h : PatQ W E 0 0 y iz ez tz) : UQ W true (UG1 W E true iz (gA y)) ez tz := by
 obtain ⟨h1, h2, h3⟩ := h
 refine ⟨fun e => ?_, fun e => ?_⟩
 ·obtain ⟨g0, _, g1, g2, g3⟩ := h3.1 e
  exact ⟨g0, g1, g2, fun n pl c hb => by unfold Zb4; rw [if_pos rfl]; exact ⟨_, g3, hb⟩⟩
 obtain ⟨j, hj, hr⟩ := h3.2 e
 unfold Zb4
 rw [if_pos rfl]
 exact ⟨_, hr, rfl, hj, rfl⟩
theorem Znr (S : Src W E) {i : Nat} {ti : Nat} {ei : Int} (h : UQ W m (UG1 W E m i x) ei ti) (hT : TmpQ W i 0 ei ti x y iz ez tz) : UQ W m (UG2 W E m iz y) ez tz := by
 rcases hT with ⟨rfl, hk, _, hR⟩ | ⟨hc, rfl, rfl, rfl, rfl⟩
 ·obtain ⟨_, g1, _, g2⟩ := h.1 rfl
  have hlt : i < E := S.ends.lt (by rw [hk]; decide)
  rcases hR with ⟨rfl, rfl, hR⟩ | ⟨he, j, hR, rfl⟩
  ·have hj := hR.adv S.ends
   simp only [Adv, Qy.place, Qy.takes, Qy.asks] at hj
   refine UQ.live ⟨(hj (by omega)).2, fun n pl e hs => g2 n pl e ?_⟩
   obtain ⟨r, hr, hm⟩ := hs
   exact ⟨r, Zh6 hR hr hk, hm⟩
  exact UQ.dead (g2 _ _ _ ⟨_, Zh7 hR hk, rfl, rfl, rfl⟩) he
 refine ⟨fun e => ?_, h.2⟩
 obtain ⟨g0, g1, _, g2⟩ := h.1 e
 refine ⟨g0, g1, fun n pl c hs => g2 n pl c ?_⟩
 obtain ⟨r, hr, hm⟩ := hs
 exact ⟨r, Zd1 hr (hc.resolve_left (fun h => h e)), hm⟩
theorem unit_stm {i : Nat} {ti : Nat} {ei : Int} (h : UQ W m (UG2 W E m i x) ei ti) (hS : (ei = 0 ∧ Zot W 0 i 0 x y iz ez tz) ∨ (ei ≠ 0 ∧ ez = ei ∧ tz = ti)) : UQ W m (Zb4 W m y 0 0) ez tz := by
 rcases hS with ⟨rfl, hS⟩ | ⟨he, rfl, rfl⟩
 ·obtain ⟨_, _, g2⟩ := h.1 rfl
  refine ⟨fun e => ⟨(hS.1 e).1, g2 _ _ _ ⟨_, (hS.1 e).2.2, ?_⟩⟩, fun e => ?_⟩
  ·show if kdW W iz = 0 then _ else _
   rw [if_pos (hS.1 e).2.1]
   exact ⟨rfl, rfl, rfl⟩
  obtain ⟨j, hj, hr | ⟨rfl, z, hr, hk⟩⟩ := hS.2 e
  ·exact g2 _ _ _ ⟨_, hr, rfl, hj, rfl⟩
  refine g2 _ _ _ ⟨_, hr, ?_⟩
  show if kdW W j = 0 then _ else _
  rw [if_neg hk]
  exact ⟨rfl, hj, rfl⟩
 exact UQ.dead (h.2 he) he
theorem Zpn {w : World} {q : Nat} {u0 u1 u2 u3 u4 u5 : Value} (E : w.heap[q]? = some (.cells #[u0, u1, u2, u3, u4, u5] 31)) (v0 v1 v2 v3 v4 v5 : Value) : (set6 w q v0 v1 v2 v3 v4 v5).heap[q]? = some (.cells #[v0, v1, v2, v3, v4, v5] 31) := by
 unfold set6
 have e0 : (w.setCell ⟨q, 0, none⟩ v0).heap[q]? = some (.cells #[v0, u1, u2, u3, u4, u5] 31) := by rw [heap_setCell_same w q 0 _ _ v0 E]; simp
 have e1 : ((w.setCell ⟨q, 0, none⟩ v0).setCell ⟨q, 1, none⟩ v1).heap[q]? = some (.cells #[v0, v1, u2, u3, u4, u5] 31) := by rw [heap_setCell_same _ q 1 _ _ v1 e0]; simp
 generalize (w.setCell ⟨q, 0, none⟩ v0).setCell ⟨q, 1, none⟩ v1 = wa at *
 have e2 : (wa.setCell ⟨q, 2, none⟩ v2).heap[q]? = some (.cells #[v0, v1, v2, u3, u4, u5] 31) := by rw [heap_setCell_same _ q 2 _ _ v2 e1]; simp
 have e3 : ((wa.setCell ⟨q, 2, none⟩ v2).setCell ⟨q, 3, none⟩ v3).heap[q]? = some (.cells #[v0, v1, v2, v3, u4, u5] 31) := by rw [heap_setCell_same _ q 3 _ _ v3 e2]; simp
 generalize (wa.setCell ⟨q, 2, none⟩ v2).setCell ⟨q, 3, none⟩ v3 = wb at *
 have e4 : (wb.setCell ⟨q, 4, none⟩ v4).heap[q]? = some (.cells #[v0, v1, v2, v3, v4, u5] 31) := by rw [heap_setCell_same _ q 4 _ _ v4 e3]; simp
 rw [heap_setCell_same _ q 5 _ _ v5 e4]
 simp
theorem Zqx (w : World) : w.drew.heap = w.heap := rfl
theorem set6_dr {w : World} {q : Nat} {u0 u1 u2 u3 u4 u5 : Value} (E : w.heap[q]? = some (.cells #[u0, u1, u2, u3, u4, u5] 31)) (v0 v1 v2 v3 v4 v5 : Value) : (set6 w q v0 v1 v2 v3 v4 v5).drew.heap[q]? = some (.cells #[v0, v1, v2, v3, v4, v5] 31) := by
 rw [Zqx]
 exact Zpn E v0 v1 v2 v3 v4 v5
theorem Zqw (S : Src W E) (hTx : ∀ i, ∀ c ∈ txW W i, 0 ≤ c ∧ c < 256) (ss : List Int) (m : Bool) (w : World)
  (HL : ∀ w, Calls Tryz.prog 29 #[.string (strOfNums ss)] w fun e w' => (∃ a cap, e = .returned (.tuple #[.slice a W.length cap, .int .i64 0, .int .i64 0]) ∧ IsT w' a W.length cap W) ∧ Below w.heap.size w w') :
  Calls Tryz.prog 20 #[.string (strOfNums ss), .bool m] w fun e w' => ∃ n pl er v, Zb4 W m n pl er ∧ e = .returned (.tuple #[v, .int .i64 (pl : Int), .int .i64 er]) ∧ NdB w.heap.size w' n v ∧ Below w.heap.size w w' := by
 go_enter Tryz.func20, Tryz.ntmps20
 go_wp2_with (refine Zdn _ rfl rfl ?_)
 intro q w1 E1 hq B1
 go_wp2_with fail
 refine (HL w1).mono ?_
 rintro e w2 ⟨⟨a, cap, rfl, hT⟩, B2⟩
 have hW0 : 0 < W.length := by have := S.ends.len; omega
 obtain ⟨b, off, rfl, hc0⟩ := hT.cells hW0
 have hbl : b < w2.heap.size := block_lt_of_cell (hc0 0 hW0).1
 have B02 : Below w.heap.size w w2 := B1.trans (B2.mono B1.size)
 have E2 : w2.heap[q]? = _ := (B2.block _ (lt_of_block E1)).trans E1
 have hz2 : Zge w2 q := ⟨_, _, _, _, _, _, E2⟩
 have hs2 : w.heap.size ≤ w2.heap.size := B02.size
 have hql : q < w2.heap.size := lt_of_block E2
 clear E1 E2 B1 B2 hc0
 have hne0 : ((0 : Int) != 0) = false := rfl
 have C1 : Below w2.heap.size w2 (w2.alloc (Zm2 (some ⟨b, off, none⟩) W.length cap 0 0 0 0)) := Zbc
 have Er := Zc0 w2 (Zm2 (some ⟨b, off, none⟩) W.length cap 0 0 0 0)
 have hT1 := hT.below C1
 have hsz1 := lt_of_block Er
 have hz3 := hz2.keep (fun hl => C1.block q hl)
 have B03 : Below w.heap.size w (w2.alloc (Zm2 (some ⟨b, off, none⟩) W.length cap 0 0 0 0)) := B02.trans (C1.mono hs2)
 clear hT C1 hz2 B02
 unfold Zm2 at Er hT1 hsz1 hz3 B03
 simp only [Int.cast_ofNat_Int] at Er hT1 hsz1 hz3 B03
 go_upto_region 5 with fail
 generalize w2.alloc (.cells #[.slice (some ⟨b, off, none⟩) W.length cap, .int .i64 0, .int .i64 0, .int .i64 0, .int .i64 0] 61) = w3 at *
 generalize w2.heap.size = pr at *
 have h : Pr w3 pr W 0 0 0 0 := ⟨b, off, cap, Er, hbl, hT1⟩
 clear Er hT1
 go_wp2_with (refine Zb5 rfl rfl rfl 11 rfl rfl rfl (fun _ => rfl) (fun _ => rfl) ?_)
 intro qn w4 E4 hqn B4
 have M : DMx w4 (fun b => pr + 1 ≤ b ∧ b ≠ qn) qn Zm1 := DMx.new E4
 have hl4 := M.lt
 have hs34 : w3.heap.size ≤ w4.heap.size := B4.size
 replace h := h.bel B4
 have hz4 := hz3.keep (fun hl => B4.block q hl)
 have B04 : Below w.heap.size w w4 := B03.trans (B4.mono B03.size)
 obtain ⟨Z, hZ⟩ : ∃ Z, Z = fun b => pr + 1 ≤ b ∧ b ≠ qn := ⟨_, rfl⟩
 rw [← hZ] at M
 have G : Gd pr (pr + 1) qn Z w4 := by
  rw [hZ]
  exact ⟨by omega, by omega, by omega, fun b hb => hb.1, fun hb => hb.2 rfl, fun b hb => ⟨by omega, by omega⟩⟩
 have hqp : q ≠ pr := by omega
 clear B4 hz3 B03 E4 hZ
 go_upto_if 27 with fail
 go_cut [] from 28 to 29 (fun wx => ∃ (y : Nd) (iz : Nat) (ez : Int) (tz : Nat), DMx wx Z qn y ∧ Zge wx q ∧ Pr wx pr W iz 0 ez tz ∧ Below w.heap.size w wx ∧ w4.heap.size ≤ wx.heap.size ∧ iz < W.length ∧ Hid (y.names.length ≤ 5002 ∧ y.text.length ≤ 25010000) ∧ Hid (UQ W m (UG1 W E m iz y) ez tz))
 case first =>
  cases m with
  | true =>
   go_wp2_with fail
   refine (Zln S (Nat.zero_le _) G M h).mono ?_
   rintro e w5 ⟨y, iz, ez, tz, rfl, M5, h5, hiz, F5, hQ⟩
   go_wp2
   go_meet
   case rel => exact ⟨gA y, iz, ez, tz, M5, hz4.keep (fun hl => F5.block q (by omega) hqp), h5, B04.trans (F5.below (by omega) (by omega)), F5.size, hiz, ⟨hQ.1, hQ.2.1⟩, unit_pat hQ⟩
  | false =>
   go_wp2
   go_meet
   case rel => exact ⟨Zm1, 0, 0, 0, M, hz4, h, B04, zo, hW0, ⟨Nat.zero_le _, Nat.zero_le _⟩, UQ.live ⟨Nat.zero_le _, Nat.zero_le _, fun n pl e hb => by unfold Zb4; rw [if_neg (by decide)]; exact hb⟩⟩
 obtain ⟨y, iz, ez, tz, M2, hz2, h2, B2, hs, hiz, hY, hU⟩ := hcut
 clear M hz4 h B04
 go_wp2_with fail
 refine (Zk3 S hiz (fun he => (hU.out.1 he).1) (G.up hs) M2 (fun he => (hU.out.1 he).2.2.1) h2).mono ?_
 rintro e w5 ⟨z, i5, e5, t5, rfl, M5, h5, hi5, F5, hQ⟩
 have hs5 := F5.size
 have hU2 : Hid (UQ W m (UG2 W E m i5 z) e5 t5) := Znr S hU.out hQ
 have hz5 := hz2.keep (fun hl => F5.block q (by omega) hqp)
 have B5 := B2.trans (F5.below (by omega) (by omega))
 have hzn : z.names.length ≤ 6000 ∧ z.text.length ≤ 25010000 := by
  have hE1 := S.ends.len
  have hE2 := S.small
  rcases hQ with ⟨_, _, ⟨_, g2, _, _, _, g6⟩, _⟩ | ⟨_, rfl, _⟩
  ·exact ⟨by omega, by rw [g2]; exact hY.out.2⟩
  exact ⟨by have := hY.out.1; omega, hY.out.2⟩
 clear M2 hz2 h2 B2 hU hQ F5
 go_wp2_with fail
 refine (Zk5 S (.inl rfl) hi5 (fun he => ⟨(hU2.out.1 he).1, (hU2.out.1 he).2.1, fun j _ hj => Zq8 S hTx hj (by decide)⟩) ((G.up hs).up hs5) M5 h5).mono ?_
 rintro e w6 ⟨u, i6, e6, t6, rfl, K6, h6, hi6, F6, hun, hQ⟩
 have hs6 := F6.size
 have hU3 : Hid (UQ W m (Zb4 W m u 0 0) e6 t6) := unit_stm hU2.out hQ
 have hz6 := hz5.keep (fun hl => F6.block q (by omega) hqp)
 have B6 := B5.trans (F6.below (by omega) (by omega))
 have hun1 : u.names.length ≤ 6000 := by rw [hun.1]; exact hzn.1
 have hun2 : u.text.length ≤ 25010000 := by rw [hun.2.1]; exact hzn.2
 have hun3 := hun.2.2
 clear M5 hz5 h5 B5 hU2 hQ F6 hun hzn
 obtain ⟨b0, off0, cc, c0, c1, c2, c3, c4, cf⟩ := h6.cells
 obtain ⟨u0, u1, u2, u3, u4, u5, Eq⟩ := hz6
 by_cases he : e6 = 0
 ·have heb : (e6 != 0) = false := by simp [he]
  obtain ⟨na, nc, ka, kc, Ek, hv⟩ := K6.nd (by omega) (by omega) (by omega)
  obtain ⟨z0, z1, z2, z3, z4, z5, _⟩ := Zac Ek
  go_wp2_with (refine Za8 rfl rfl rfl rfl rfl Eq ?_)
  intro w7 E7 S7
  go_wp2
  refine bodyPost_ret (Za6 (a := 4) (t := 31) (b := 5) (c := 6) (by rfl) (by rfl) (by rfl) (by rfl) (Zau E7)) (by rfl) ⟨u, 0, 0, _, (hU3.out.1 he).2, rfl, hv.imp (fun b _ hA => ⟨by have := G.lo b hA; omega, S7.block b (fun e => by have := G.lo b hA; omega)⟩) _ _, B6.trans (S7.below hq)⟩
 have heb : (e6 != 0) = true := by simp [he]
 have hU4 := hU3.out.2 he
 obtain ⟨z0, z1, z2, z3, z4, z5, zf⟩ := Zac Eq
 have zf0 := zf 0
 have zf1 := zf 1
 have zf2 := zf 2
 have zf3 := zf 3
 have zf4 := zf 4
 have zf5 := zf 5
 have hpq : pr ≠ q := fun e => hqp e.symm
 go_wp2_with fail
 go_region
 have E7 := set6_dr Eq (.int .i64 0) (.string ⟨#[]⟩) (.int .i64 0) (.int .i64 0) (.slice none 0 0) (.slice none 0 0)
 have C7 := B6.trans (((Zpm w6 q (.int .i64 0) (.string ⟨#[]⟩) (.int .i64 0) (.int .i64 0) (.slice none 0 0) (.slice none 0 0)).below hq).drew)
 unfold set6 at E7 C7
 generalize ((((((w6.setCell ⟨q, 0, none⟩ (.int .i64 0)).setCell ⟨q, 1, none⟩ (.string ⟨#[]⟩)).setCell ⟨q, 2, none⟩ (.int .i64 0)).setCell ⟨q, 3, none⟩ (.int .i64 0)).setCell ⟨q, 4, none⟩ (.slice none 0 0)).setCell ⟨q, 5, none⟩ (.slice none 0 0)).drew = w7 at *
 go_wp2
 exact bodyPost_ret (Za6 (a := 4) (t := 31) (b := 5) (c := 6) (by rfl) (by rfl) (by rfl) (by rfl) (Zau E7)) (by rfl) ⟨zNd, t6, e6, _, hU4, rfl, NdB.zero, C7⟩
theorem Zi5 (ss : List Int) (m : Bool) (pl : Nat) (er : Int) (h3 : er ≠ 0) (w : World)
  (HL : ∀ w, Calls Tryz.prog 29 #[.string (strOfNums ss)] w fun e w' => e = .returned (.tuple #[.slice none 0 0, .int .i64 (pl : Int), .int .i64 er]) ∧ Below w.heap.size w w') :
  Calls Tryz.prog 20 #[.string (strOfNums ss), .bool m] w fun e w' => ∃ v, e = .returned (.tuple #[v, .int .i64 (pl : Int), .int .i64 er]) ∧ NdB w.heap.size w' zNd v ∧ Below w.heap.size w w' := by
 have hne : (er != 0) = true := by simp [h3]
 go_enter Tryz.func20, Tryz.ntmps20
 go_wp2_with (refine Zdn _ rfl rfl ?_)
 intro q w1 E1 hq B1
 go_wp2_with fail
 refine (HL w1).mono ?_
 rintro e w2 ⟨rfl, B2⟩
 have B02 : Below w.heap.size w w2 := B1.trans (B2.mono B1.size)
 have E2 : w2.heap[q]? = _ := (B2.block _ (lt_of_block E1)).trans E1
 clear E1 B1 B2
 go_wp2_with (refine Za8 rfl rfl rfl rfl rfl E2 ?_)
 intro w4 E4 S4
 go_wp2
 exact bodyPost_ret (Za6 (a := 4) (t := 31) (b := 5) (c := 6) (by rfl) (by rfl) (by rfl) (by rfl) (Zau E4)) (by rfl) ⟨_, rfl, NdB.zero, B02.trans (S4.below hq)⟩
theorem Zi4 (ss : List Int) (m : Bool) (w : World) (hb : ∀ x ∈ ss, 0 ≤ x ∧ x < 256) :
  Calls Tryz.prog 20 #[.string (strOfNums ss), .bool m] w fun e w' => ∃ n pl er v, TreP ss m n pl er ∧ e = .returned (.tuple #[v, .int .i64 (pl : Int), .int .i64 er]) ∧ NdB w.heap.size w' n v ∧ Below w.heap.size w w' := by
 by_cases hl : 4096 < ss.length
 ·refine (Zi5 ss m 0 3 (by decide) w fun w => (Zgy ss w hb).mono ?_).mono ?_
  ·rintro e w' ⟨h, B⟩
   unfold RdP at h
   rw [if_pos hl] at h
   exact ⟨h, B⟩
  rintro e w' ⟨v, he, hn, B⟩
  exact ⟨zNd, 0, 3, v, .inl ⟨.inl ⟨hl, rfl, rfl⟩, rfl⟩, he, hn, B⟩
 have hl2 : ss.length ≤ 4096 := by omega
 cases ho : Zck Zeb 0 ss with
 | error p =>
  refine (Zi5 ss m p 20 (by decide) w fun w => (Zgy ss w hb).mono ?_).mono ?_
  ·rintro e w' ⟨h, B⟩
   unfold RdP at h
   rw [if_neg hl, ho] at h
   exact ⟨h, B⟩
  rintro e w' ⟨v, he, hn, B⟩
  exact ⟨zNd, p, 20, v, .inl ⟨.inr ⟨hl2, ho, rfl⟩, rfl⟩, he, hn, B⟩
 | ok W =>
  obtain ⟨S, hT, _⟩ := src_of ho hl2 hb
  refine (Zqw S hT ss m w fun w => (Zgy ss w hb).mono ?_).mono ?_
  ·rintro e w' ⟨h, B⟩
   unfold RdP at h
   rw [if_neg hl, ho] at h
   exact ⟨h, B⟩
  rintro e w' ⟨n, pl, er, v, hu, he, hn, B⟩
  exact ⟨n, pl, er, v, .inr ⟨W, hl2, ho, hu⟩, he, hn, B⟩
theorem Zoh (f : Nat) (m : Bool) (hf : (f = 9 ∧ m = false) ∨ (f = 14 ∧ m = true)) (ss : List Int) (w : World) (hb : ∀ x ∈ ss, 0 ≤ x ∧ x < 256) :
  Calls Tryz.prog f #[.string (strOfNums ss)] w fun e w' => ∃ n pl er v, TreP ss m n pl er ∧ e = .returned (.tuple #[v, .int .i64 (pl : Int), .int .i64 er]) ∧ NdB w.heap.size w' n v ∧ Below w.heap.size w w' := by
 rcases hf with ⟨rfl, rfl⟩ | ⟨rfl, rfl⟩
 ·go_enter Tryz.func9, Tryz.ntmps9
  go_wp2_with (refine Zdn _ rfl rfl ?_)
  intro q w1 E1 hq B1
  go_wp2_with fail
  refine (Zi4 ss false w1 hb).mono ?_
  rintro e w2 ⟨n, pl, er, v, hu, rfl, hn, B2⟩
  obtain ⟨na, nc, ka, kc, _, rfl, _⟩ := NdV.parts hn
  have E2 : w2.heap[q]? = _ := (B2.block _ (lt_of_block E1)).trans E1
  have hql := lt_of_block E1
  go_wp2_with (refine Za8 rfl rfl rfl rfl rfl E2 ?_)
  intro w4 E4 S4
  go_wp2
  exact bodyPost_ret (Za6 (a := 2) (t := 31) (b := 3) (c := 4) (by rfl) (by rfl) (by rfl) (by rfl) (Zau E4)) (by rfl) ⟨n, pl, er, _, hu, rfl, hn.imp (fun b _ hA => ⟨by have := B1.size; omega, S4.block b (by omega)⟩) _ _, (B1.trans (B2.mono B1.size)).trans (S4.below hq)⟩
 go_enter Tryz.func14, Tryz.ntmps14
 go_wp2_with (refine Zdn _ rfl rfl ?_)
 intro q w1 E1 hq B1
 go_wp2_with fail
 refine (Zi4 ss true w1 hb).mono ?_
 rintro e w2 ⟨n, pl, er, v, hu, rfl, hn, B2⟩
 obtain ⟨na, nc, ka, kc, _, rfl, _⟩ := NdV.parts hn
 have E2 : w2.heap[q]? = _ := (B2.block _ (lt_of_block E1)).trans E1
 have hql := lt_of_block E1
 go_wp2_with (refine Za8 rfl rfl rfl rfl rfl E2 ?_)
 intro w4 E4 S4
 go_wp2
 exact bodyPost_ret (Za6 (a := 2) (t := 31) (b := 3) (c := 4) (by rfl) (by rfl) (by rfl) (by rfl) (Zau E4)) (by rfl) ⟨n, pl, er, _, hu, rfl, hn.imp (fun b _ hA => ⟨by have := B1.size; omega, S4.block b (by omega)⟩) _ _, (B1.trans (B2.mono B1.size)).trans (S4.below hq)⟩
theorem Zmu.det {j : Nat} (h : Zmu W j x n pl e) (h' : Zmu W j x n' pl' e') : n = n' ∧ pl = pl' ∧ e = e' := by
 obtain ⟨r, hr, hm⟩ := h
 obtain ⟨r', hr', hm'⟩ := h'
 obtain rfl := hr.det hr'
 cases r with
 | er k c =>
  obtain ⟨rfl, rfl, rfl⟩ := hm
  obtain ⟨rfl, rfl, rfl⟩ := hm'
  exact ⟨rfl, rfl, rfl⟩
 | ok y k =>
  replace hm : if kdW W k = 0 then n = y ∧ pl = 0 ∧ e = 0 else n = zNd ∧ pl = psW W k ∧ e = 20 := hm
  replace hm' : if kdW W k = 0 then n' = y ∧ pl' = 0 ∧ e' = 0 else n' = zNd ∧ pl' = psW W k ∧ e' = 20 := hm'
  by_cases hk : kdW W k = 0
  ·rw [if_pos hk] at hm hm'
   obtain ⟨rfl, rfl, rfl⟩ := hm
   obtain ⟨rfl, rfl, rfl⟩ := hm'
   exact ⟨rfl, rfl, rfl⟩
  rw [if_neg hk] at hm hm'
  obtain ⟨rfl, rfl, rfl⟩ := hm
  obtain ⟨rfl, rfl, rfl⟩ := hm'
  exact ⟨rfl, rfl, rfl⟩
theorem Zb4.det (h : Zb4 W m n pl e) (h' : Zb4 W m n' pl' e') : n = n' ∧ pl = pl' ∧ e = e' := by
 unfold Zb4 at h h'
 cases m with
 | false =>
  rw [if_neg (by decide)] at h h'
  exact h.det h'
 | true =>
  rw [if_pos rfl] at h h'
  obtain ⟨r, hr, hm⟩ := h
  obtain ⟨r', hr', hm'⟩ := h'
  obtain rfl := hr.det hr'
  cases r with
  | er k c =>
   obtain ⟨rfl, rfl, rfl⟩ := hm
   obtain ⟨rfl, rfl, rfl⟩ := hm'
   exact ⟨rfl, rfl, rfl⟩
  | ok y k => exact Zmu.det hm hm'
theorem TreP.det {ss : List Int} (h : TreP ss m n pl e) (h' : TreP ss m n' pl' e') : n = n' ∧ pl = pl' ∧ e = e' := by
 have hne : ∀ {n n' : Nd} {pl pl' : Nat} {e e' : Int}, (LexE ss pl e ∧ n = zNd) → (∃ W, ss.length ≤ 4096 ∧ Zck Zeb 0 ss = .ok W ∧ Zb4 W m n' pl' e') → False := by
  rintro n n' pl pl' e e' ⟨⟨h1, _⟩ | ⟨_, h1, _⟩, _⟩ ⟨W, h2, h3, _⟩
  ·omega
  rw [h1] at h3; cases h3
 rcases h with h | h <;> rcases h' with h' | h'
 ·obtain ⟨⟨h1, rfl, rfl⟩ | ⟨h1, h2, rfl⟩, rfl⟩ := h <;> obtain ⟨⟨h3, rfl, rfl⟩ | ⟨h3, h4, rfl⟩, rfl⟩ := h'
  ·exact ⟨rfl, rfl, rfl⟩
  ·omega
  ·omega
  rw [h2] at h4
  cases h4
  exact ⟨rfl, rfl, rfl⟩
 ·exact (hne h h').elim
 ·exact (hne h' h).elim
 obtain ⟨W, _, h1, h2⟩ := h
 obtain ⟨W', _, h3, h4⟩ := h'
 rw [h1] at h3
 cases h3
 exact h2.det h4
end
end Go.Proofs.YtncfmhlikmibaaaGreatDoor
