/- Whether a unit's names can be. -/
import Derived.Test.YtoghhjljmhdioaaArgu
import Derived.Test.YtoghhjljmhdioaaScoM
import Derived.Test.YtoghhjljmhdioaaWthT
import Derived.Test.YtoghhjljmhdioaaWru
namespace Go.Proofs.Ytoghhjljmhdioaa
open Go.RowKit
set_option maxRecDepth 100000
/-- A name of a unit that can be. -/
def cndR (l : List (List Int)) (i : Nat) : Bool := (fixR (l.getD i [])).isNone && (idxR (l.take i) (l.getD i [])).isNone
theorem sndR_true {l : List (List Int)} (h : ∀ j, j < l.length → cndR l j = true) : sndR l = true := by
  unfold sndR
  rw [List.all_eq_true]
  exact fun i hi => h i (List.mem_range.1 hi)
theorem sndR_false {l : List (List Int)} {j : Nat} (hj : j < l.length) (h : cndR l j = false) : sndR l = false := by
  unfold sndR
  rw [List.all_eq_false]
  exact ⟨j, List.mem_range.2 hj, by show ¬ cndR l j = true; rw [h]; decide⟩
theorem SlF.pre {A : Nat → Prop} {w : World} {a : Option Addr} {n c : Nat} {l : List (List Int)} (s : SlF A w a n c (l.map strV)) {k : Nat} (hk : k ≤ n) : SlF A w a k c ((l.take k).map strV) :=
  ⟨Nat.le_trans hk s.room, s.most, s.nil0, fun h => by
    have hl : 0 < (l.map strV).length := by
      rw [List.length_map, List.length_take] at h
      rw [List.length_map]
      omega
    obtain ⟨b, off, e, hA, hc⟩ := s.cells hl
    refine ⟨b, off, e, hA, fun j u hj => hc j u ?_⟩
    rw [List.map_take] at hj
    rw [List.getElem?_take] at hj
    split at hj
    · exact hj
    · cases hj⟩
set_option maxHeartbeats 4000000 in
theorem sound_any {A : Nat → Prop} (b : Nat) (l : List (List Int)) (w : World) {k0 t0 p0 n0 ks o0 : Value} {na : Option Addr} {nc : Nat} (eb : w.heap[b]? = some (.cells #[k0, t0, p0, n0, .slice na l.length nc, ks, o0] 63)) (s : SlF A w na l.length nc (l.map strV)) (hl : BytL l) :
    Calls Try.prog 20 #[.pointer (some ⟨b, 0, none⟩)] w fun e w' => e = .returned (.bool (sndR l)) ∧ Below w.heap.size w w' := by
  have hmx : l.length ≤ maxLen := Nat.le_trans s.room s.most
  unfold maxLen at hmx
  obtain ⟨z0, z1, z2, z3, z4, z5, z6, _⟩ := un_cells eb
  go_enter Try.func20, Try.ntmps20
  go_wp2_with fail
  clear z0 z1 z2 z3 z4 z5 z6
  go_loopw [13] (fun iv wr => ∃ k : Nat, k ≤ l.length ∧ iv = .int .i64 (k : Int) ∧ (∀ j, j < k → cndR l j = true) ∧ Below w.heap.size w wr) (fun iv _ => l.length - (intOf iv).toNat)
  case atStart => exact ⟨0, Nat.zero_le _, rfl, fun j hj => by omega, Below.refl _ _⟩
  case round =>
    obtain ⟨k, hk0, rfl, hall, BR⟩ := hrel
    by_cases hk : k < l.length
    · obtain ⟨x, hget⟩ : ∃ x, l[k]? = some x := ⟨_, List.getElem?_eq_getElem hk⟩
      have hx : ∀ y ∈ x, 0 ≤ y ∧ y < 256 := hl x (List.mem_of_getElem? hget)
      have hgd : l.getD k [] = x := by rw [List.getD_eq_getElem?_getD, hget]; rfl
      have hlm : (l.map strV).length = l.length := by simp
      have sr : SlF A wr na l.length nc (l.map strV) := s.imp fun b hb hA => ⟨hA, BR.block b hb⟩
      obtain ⟨b1, o1, ena, hA1, hc1⟩ := sr.cells (by omega)
      subst ena
      have c1 := hc1 k (strV x) (by rw [List.getElem?_map, hget]; rfl)
      unfold strV at c1
      have hki : (k : Int) < (l.length : Int) := by omega
      have hkz : (0 : Int) ≤ (k : Int) := by omega
      have hix : ((k : Int)).toNat = k := by omega
      clear hc1 hlm
      go_wp2_with fail
      refine (fixed_any x _ hx).mono ?_
      rintro e w2 ⟨rfl, B2⟩
      cases hf : fixR x with
      | some y =>
        have hc : cndR l k = false := by unfold cndR; rw [hgd, hf]; rfl
        clear hf
        simp only [Option.map_some, ansV]
        go_wp2_with (refine al29 _ rfl rfl ?_)
        intro g w3 E3 hg B3
        go_wp2_with (refine st29 _ rfl _ _ rfl rfl _ _ _ _ _ _ _ rfl rfl E3 ?_)
        intro w4 E4 S4
        go_wp2_with fail
        go_ret
        have BA : Below w.heap.size w w2 := BR.trans (B2.mono BR.size)
        exact ⟨by rw [sndR_false hk hc]; rfl, (BA.trans (B3.mono BA.size)).trans (S4.below (Nat.le_trans BA.size hg))⟩
      | none =>
        simp only [Option.map_none, ansV]
        go_wp2_with (refine al29 _ rfl rfl ?_)
        intro g w3 E3 hg B3
        go_wp2_with (refine st29 _ rfl _ _ rfl rfl _ _ _ _ _ _ _ rfl rfl E3 ?_)
        intro w4 E4 S4
        have BA : Below w.heap.size w w2 := BR.trans (B2.mono BR.size)
        have BB : Below w.heap.size w w4 := (BA.trans (B3.mono BA.size)).trans (S4.below (Nat.le_trans BA.size hg))
        obtain ⟨z0, z1, z2, z3, z4, z5, z6, _⟩ := un_cells ((BB.block b (lt_of_block eb)).trans eb)
        have s4 : SlF A w4 (some ⟨b1, o1, none⟩) k nc ((l.take k).map strV) := (s.imp fun b hb hA => ⟨hA, BB.block b hb⟩).pre hk0
        have hk4 : (l.take k).length = k := by rw [List.length_take]; omega
        have hcall := contains_any (l := l.take k) (t := x) (by rw [hk4]; exact s4) (fun y hy => hl y (List.mem_of_mem_take hy)) hx
        rw [hk4] at hcall
        have hrm := s.room
        have hknc : k ≤ nc := by omega
        have hkncI : (k : Int) ≤ (nc : Int) := by omega
        go_wp2_with fail
        refine hcall.mono ?_
        rintro e w5 ⟨rfl, rfl⟩
        cases hc : (idxR (l.take k) x).isSome with
        | true =>
          have hcn : cndR l k = false := by
            unfold cndR
            rw [hgd]
            cases hi : idxR (l.take k) x with
            | none => rw [hi] at hc; cases hc
            | some i => simp
          go_wp2_with fail
          go_ret
          exact ⟨by rw [sndR_false hk hcn]; rfl, BB⟩
        | false =>
          have hcn : cndR l k = true := by
            unfold cndR
            rw [hgd, hf]
            cases hi : idxR (l.take k) x with
            | none => rfl
            | some i => rw [hi] at hc; cases hc
          go_wp2
          go_roundw
          case rel => exact ⟨k + 1, hk, by go_num, fun j hj => (Nat.lt_or_ge j k).elim (hall j) (fun h => by rw [show j = k by omega]; exact hcn), BB⟩
          case measure => simp [intOf]; omega
    · have hki : ¬ (k : Int) < (l.length : Int) := by omega
      go_wp2
      go_ret
      have e : sndR l = true := sndR_true fun j hj => hall j (by omega)
      rw [e]
      exact ⟨rfl, BR⟩
end Go.Proofs.Ytoghhjljmhdioaa
namespace Go.Proofs.Ytoghhjljmhdioaa
mutual
/-- The parts of a tree. -/
def cntN : Nd → Nat
  | .mk _ _ _ _ _ kids => 1 + cntL kids
def cntL : List Nd → Nat
  | [] => 0
  | x :: r => cntN x + cntL r
end
theorem cntL_app : ∀ (a b : List Nd), cntL (a ++ b) = cntL a + cntL b
  | [], b => by simp [cntL]
  | x :: r, b => by simp only [List.cons_append, cntL, cntL_app r b]; omega
theorem cntN_kids (x : Nd) : cntN x = 1 + cntL x.kids := by cases x; rfl
theorem cntN_kid (x y : Nd) : cntN (x.kid y) = cntN x + cntN y := by
  rw [cntN_kids (x.kid y), cntN_kids x]
  show 1 + cntL (x.kids ++ [y]) = _
  rw [cntL_app]
  simp only [cntL]
  omega
theorem cntN_tmp (x : Nd) (t : List Int) : cntN (x.tmp t) = cntN x := by rw [cntN_kids, cntN_kids x]; rfl
theorem cntN_arg (x : Nd) (t : List Int) : cntN (x.arg t) = cntN x := by rw [cntN_kids, cntN_kids x]; rfl
theorem cntN_say (x : Nd) (t : List Int) : cntN (x.say t) = cntN x := by rw [cntN_kids, cntN_kids x]; rfl
theorem cntN_sent (r m : Nd) : cntN (sentN r m) = cntN r + cntN m := by
  rw [cntN_kids (sentN r m), cntN_kids m]
  show 1 + cntL (r :: m.kids) = _
  simp only [cntL]
  omega
theorem cntN_msg (t : List Int) (p : Nat) (l : List Nd) : cntN (msgN t p l) = 1 + cntL l := rfl
theorem cntN_mk (k : Int) (t : List Int) (p n : Nat) (l : List (List Int)) (kids : List Nd) : cntN (.mk k t p n l kids) = 1 + cntL kids := rfl
theorem cntN_leaf (W : List Tk) (k : Int) (i : Nat) : cntN (leafW W k i) = 1 := rfl
theorem cntN_casc (s : Nd) : cntN (cascN s) ≤ cntN s + 2 := by
  rw [cntN_kids (cascN s), cntN_kids s]
  show 1 + cntL [s.kids.headD _, msgN _ _ _] ≤ _
  cases s.kids with
  | nil => simp [cntL, cntN, msgN]
  | cons r m => simp only [List.headD_cons, List.tail_cons, cntL, cntN_msg]; omega
/-- All texts of a tree are made of bytes. -/
inductive Byt : Nd → Prop where
  | mk (k : Int) (t : List Int) (p n : Nat) (l : List (List Int)) (kids : List Nd) (ht : ∀ c ∈ t, 0 ≤ c ∧ c < 256) (hl : ∀ x ∈ l, ∀ c ∈ x, 0 ≤ c ∧ c < 256) (hk : ∀ y ∈ kids, Byt y) : Byt (.mk k t p n l kids)
theorem Byt.kidsOf {x : Nd} (h : Byt x) : ∀ y ∈ x.kids, Byt y := by cases h; assumption
theorem Byt.textOf {x : Nd} (h : Byt x) : ∀ c ∈ x.text, 0 ≤ c ∧ c < 256 := by cases h; assumption
theorem Byt.namesOf {x : Nd} (h : Byt x) : ∀ t ∈ x.names, ∀ c ∈ t, 0 ≤ c ∧ c < 256 := by cases h; assumption
theorem no_mem {α : Type} {P : α → Prop} : ∀ x ∈ ([] : List α), P x := fun _ h => absurd h List.not_mem_nil
theorem one_mem {α : Type} {P : α → Prop} {a : α} (h : P a) : ∀ x ∈ [a], P x := fun x hx => by rw [List.mem_singleton.1 hx]; exact h
theorem app_mem {α : Type} {P : α → Prop} {a b : List α} (ha : ∀ x ∈ a, P x) (hb : ∀ x ∈ b, P x) : ∀ x ∈ a ++ b, P x := fun x hx => (List.mem_append.1 hx).elim (ha x) (hb x)
theorem Byt.leaf {k : Int} {t : List Int} {p n : Nat} (ht : ∀ c ∈ t, 0 ≤ c ∧ c < 256) : Byt (.mk k t p n [] []) := .mk _ _ _ _ _ _ ht no_mem no_mem
theorem Byt.bare {k : Int} {p n : Nat} : Byt (.mk k [] p n [] []) := .leaf no_mem
theorem Byt.kid {x y : Nd} (h : Byt x) (hy : Byt y) : Byt (x.kid y) := .mk _ _ _ _ _ _ h.textOf h.namesOf (app_mem h.kidsOf (one_mem hy))
theorem Byt.tmp {x : Nd} {t : List Int} (h : Byt x) (ht : ∀ c ∈ t, 0 ≤ c ∧ c < 256) : Byt (x.tmp t) := .mk _ _ _ _ _ _ h.textOf (app_mem h.namesOf (one_mem ht)) h.kidsOf
theorem Byt.arg {x : Nd} {t : List Int} (h : Byt x) (ht : ∀ c ∈ t, 0 ≤ c ∧ c < 256) : Byt (x.arg t) := .mk _ _ _ _ _ _ h.textOf (app_mem h.namesOf (one_mem ht)) h.kidsOf
theorem Byt.say {x : Nd} {t : List Int} (h : Byt x) (ht : ∀ c ∈ t, 0 ≤ c ∧ c < 256) : Byt (x.say t) := .mk _ _ _ _ _ _ (app_mem h.textOf ht) h.namesOf h.kidsOf
theorem Byt.sent {r m : Nd} (hr : Byt r) (hm : Byt m) : Byt (sentN r m) := .mk _ _ _ _ _ _ hm.textOf no_mem (fun y hy => (List.mem_cons.1 hy).elim (fun e => e ▸ hr) (fun e => hm.kidsOf y e))
theorem Byt.msg {t : List Int} {p : Nat} {l : List Nd} (ht : ∀ c ∈ t, 0 ≤ c ∧ c < 256) (h : ∀ x ∈ l, Byt x) : Byt (msgN t p l) := .mk _ _ _ _ _ _ ht no_mem h
theorem Byt.casc {s : Nd} (h : Byt s) : Byt (cascN s) := by
  have hk := h.kidsOf
  refine .mk _ _ _ _ _ _ no_mem no_mem (fun y hy => ?_)
  cases hs : s.kids with
  | nil =>
    rw [hs] at hy
    rcases List.mem_cons.1 hy with rfl | hy
    · exact .bare
    · rw [List.mem_singleton.1 hy]
      exact .msg h.textOf no_mem
  | cons r m =>
    rw [hs] at hy hk
    rcases List.mem_cons.1 hy with rfl | hy
    · exact hk _ (List.mem_cons_self ..)
    · rw [List.mem_singleton.1 hy]
      exact .msg h.textOf (fun z hz => hk z (List.mem_cons_of_mem _ hz))
/-- What is handed in has so many parts. -/
def Qy.has : Qy → Nat
  | .unaOf _ _ x | .binOf _ _ x | .keyOf _ _ x | .others _ _ x | .elems _ _ x | .args _ _ x | .temps _ _ x | .body _ _ x | .stmts _ _ x | .keys _ _ x | .pat _ _ x | .keyP _ _ x => cntN x
  | _ => 0
/-- Where two more are left. -/
def Qy.spare (W : List Tk) : Qy → Nat
  | .keys i _ _ => if kdW W i = 2 then 2 else 0
  | .others i _ _ => if kdW W i = 15 then 2 else 0
  | _ => 0
def Qy.byt : Qy → Prop
  | .unaOf _ _ x | .binOf _ _ x | .keyOf _ _ x | .others _ _ x | .elems _ _ x | .args _ _ x | .temps _ _ x | .body _ _ x | .stmts _ _ x | .keys _ _ x | .pat _ _ x | .keyP _ _ x => Byt x
  | _ => True
def SizR (W : List Tk) (a : Qy) : Rs → Prop
  | .ok y j => a.place ≤ j ∧ cntN y + a.spare W ≤ a.has + 3 * (j - a.place) ∧ Byt y
  | .er _ _ => True
theorem lit_siz {W : List Tk} {q : Qy → Option Rs} {i d j : Nat} {y : Nd} (T : ∀ i, ∀ c ∈ txW W i, 0 ≤ c ∧ c < 256) (ih : ∀ a r, q a = some r → a.byt → SizR W a r) (e : litW W i d q = some (.ok y j)) : i ≤ j ∧ cntN y ≤ 3 * (j - i) ∧ Byt y := by
  unfold litW at e
  split at e
  · obtain ⟨rfl, rfl⟩ := okJ e; exact ⟨by omega, by rw [cntN_leaf]; omega, .leaf (T i)⟩
  · split at e
    · obtain ⟨rfl, rfl⟩ := okJ e; exact ⟨by omega, by rw [cntN_leaf]; omega, .leaf (T i)⟩
    · split at e
      · obtain ⟨rfl, rfl⟩ := okJ e; exact ⟨by omega, by rw [cntN_leaf]; omega, .leaf (T i)⟩
      · split at e
        · have h : i ≤ j ∧ cntN y + 0 ≤ 0 + 3 * (j - i) ∧ Byt y := ih _ _ e trivial
          exact ⟨h.1, by omega, h.2.2⟩
        · cases e
theorem run_siz {W : List Tk} (T : ∀ i, ∀ c ∈ txW W i, 0 ≤ c ∧ c < 256) (f : Nat) : ∀ a r, runW W f a = some r → a.byt → SizR W a r := by
  induction f with
  | zero => intro a r e; cases e
  | succ f ih =>
    intro a r e hp
    have e : stepW W (runW W f) a = some r := e
    cases r with
    | er j c => trivial
    | ok y j =>
      show a.place ≤ j ∧ cntN y + a.spare W ≤ a.has + 3 * (j - a.place) ∧ Byt y
      have ih : ∀ a y j, runW W f a = some (.ok y j) → a.byt → a.place ≤ j ∧ cntN y + a.spare W ≤ a.has + 3 * (j - a.place) ∧ Byt y := fun a y j h hb => ih a (.ok y j) h hb
      cases a with
      | expr i d =>
        simp only [stepW] at e
        split at e
        · rename_i h1
          split at e
          · cases e
          · obtain ⟨x, k, hx, e⟩ := okP e
            obtain ⟨rfl, rfl⟩ := okJ e
            obtain ⟨a1, a2, a3⟩ := ih _ _ _ hx trivial
            simp only [Qy.place, Qy.spare, Qy.has, cntN_mk, cntL] at a1 a2 ⊢
            exact ⟨by omega, by omega, .mk _ _ _ _ _ _ (T i) no_mem (one_mem a3)⟩
        · exact (show i ≤ j ∧ cntN y + 0 ≤ 0 + 3 * (j - i) ∧ Byt y from ih (.casc i d) y j e trivial)
      | prim i d =>
        simp only [stepW] at e
        split at e
        · obtain ⟨rfl, rfl⟩ := okJ e
          simp only [Qy.place, Qy.spare, Qy.has, cntN_leaf]
          exact ⟨by omega, by omega, .leaf (T i)⟩
        · split at e
          · split at e
            · cases e
            · obtain ⟨x, k, hx, e⟩ := okP e
              split at e
              · obtain ⟨rfl, rfl⟩ := okJ e
                obtain ⟨a1, a2, a3⟩ := ih _ _ _ hx trivial
                simp only [Qy.place, Qy.spare, Qy.has] at a1 a2 ⊢
                exact ⟨by omega, by omega, a3⟩
              · cases e
          · split at e
            · exact (show i ≤ j ∧ cntN y + 0 ≤ 0 + 3 * (j - i) ∧ Byt y from ih (.block i d) y j e trivial)
            · obtain ⟨a1, a2, a3⟩ := lit_siz T (fun a r h hb => by cases r with
                | er => trivial
                | ok y j => exact ih a y j h hb) e
              simp only [Qy.place, Qy.spare, Qy.has]
              exact ⟨a1, by omega, a3⟩
      | una i d =>
        simp only [stepW] at e
        obtain ⟨x, k, hx, e⟩ := okP e
        obtain ⟨a1, a2, a3⟩ := ih _ _ _ hx trivial
        obtain ⟨b1, b2, b3⟩ := ih _ _ _ e a3
        simp only [Qy.place, Qy.spare, Qy.has] at a1 a2 b1 b2 ⊢
        exact ⟨by omega, by omega, b3⟩
      | bin i d =>
        simp only [stepW] at e
        obtain ⟨x, k, hx, e⟩ := okP e
        obtain ⟨a1, a2, a3⟩ := ih _ _ _ hx trivial
        obtain ⟨b1, b2, b3⟩ := ih _ _ _ e a3
        simp only [Qy.place, Qy.spare, Qy.has] at a1 a2 b1 b2 ⊢
        exact ⟨by omega, by omega, b3⟩
      | casc i d =>
        simp only [stepW] at e
        obtain ⟨x, k, hx, e⟩ := okP e
        obtain ⟨z, l, hz, e⟩ := okP e
        obtain ⟨a1, a2, a3⟩ := ih _ _ _ hx trivial
        obtain ⟨b1, b2, b3⟩ := ih _ _ _ hz a3
        simp only [Qy.place, Qy.spare, Qy.has] at a1 a2 b1 b2 ⊢
        split at e
        · rename_i h15
          split at e
          · cases e
          · obtain ⟨c1, c2, c3⟩ := ih _ _ _ e b3.casc
            have := cntN_casc z
            simp only [Qy.place, Qy.spare, Qy.has, if_pos h15] at c1 c2
            exact ⟨by omega, by omega, c3⟩
        · obtain ⟨rfl, rfl⟩ := okJ e
          exact ⟨by omega, by omega, b3⟩
      | msg i d =>
        simp only [stepW] at e
        split at e
        · obtain ⟨rfl, rfl⟩ := okJ e
          simp only [Qy.place, Qy.spare, Qy.has, cntN_msg, cntL]
          exact ⟨by omega, by omega, .msg (T i) no_mem⟩
        · split at e
          · obtain ⟨x, k, hx, e⟩ := okP e
            obtain ⟨rfl, rfl⟩ := okJ e
            obtain ⟨a1, a2, a3⟩ := ih _ _ _ hx trivial
            simp only [Qy.place, Qy.spare, Qy.has, cntN_msg, cntL] at a1 a2 ⊢
            exact ⟨by omega, by omega, .msg (T i) (one_mem a3)⟩
          · split at e
            · rename_i h2
              obtain ⟨a1, a2, a3⟩ := ih _ _ _ e (.msg no_mem no_mem)
              simp only [Qy.place, Qy.spare, Qy.has, cntN_msg, cntL, if_pos h2] at a1 a2 ⊢
              exact ⟨a1, by omega, a3⟩
            · cases e
      | list i d =>
        simp only [stepW] at e
        split at e
        · cases e
        · obtain ⟨a1, a2, a3⟩ := ih _ _ _ e .bare
          simp only [Qy.place, Qy.spare, Qy.has, cntN_mk, cntL] at a1 a2 ⊢
          exact ⟨by omega, by omega, a3⟩
      | elem i d =>
        simp only [stepW] at e
        split at e
        · obtain ⟨rfl, rfl⟩ := okJ e
          simp only [Qy.place, Qy.spare, Qy.has, cntN_leaf]
          exact ⟨by omega, by omega, .leaf (T i)⟩
        · split at e
          · obtain ⟨rfl, rfl⟩ := okJ e
            simp only [Qy.place, Qy.spare, Qy.has, cntN_leaf]
            exact ⟨by omega, by omega, .leaf (T i)⟩
          · split at e
            · exact (show i ≤ j ∧ cntN y + 0 ≤ 0 + 3 * (j - i) ∧ Byt y from ih (.list i d) y j e trivial)
            · obtain ⟨a1, a2, a3⟩ := lit_siz T (fun a r h hb => by cases r with
                | er => trivial
                | ok y j => exact ih a y j h hb) e
              simp only [Qy.place, Qy.spare, Qy.has]
              exact ⟨a1, by omega, a3⟩
      | block i d =>
        simp only [stepW] at e
        split at e
        · cases e
        · obtain ⟨x, k, hx, e⟩ := okP e
          obtain ⟨z, l, hz, e⟩ := okP e
          obtain ⟨a1, a2, a3⟩ := ih _ _ _ hx .bare
          obtain ⟨b1, b2, b3⟩ := ih _ _ _ hz a3
          split at e
          · obtain ⟨rfl, rfl⟩ := okJ e
            simp only [Qy.place, Qy.spare, Qy.has, cntN_mk, cntL] at a1 a2 b1 b2 ⊢
            exact ⟨by omega, by omega, b3⟩
          · cases e
      | stmt i d =>
        simp only [stepW] at e
        split at e
        · obtain ⟨x, k, hx, e⟩ := okP e
          obtain ⟨rfl, rfl⟩ := okJ e
          obtain ⟨a1, a2, a3⟩ := ih _ _ _ hx trivial
          simp only [Qy.place, Qy.spare, Qy.has, cntN_mk, cntL] at a1 a2 ⊢
          exact ⟨by omega, by omega, .mk _ _ _ _ _ _ no_mem no_mem (one_mem a3)⟩
        · exact (show i ≤ j ∧ cntN y + 0 ≤ 0 + 3 * (j - i) ∧ Byt y from ih (.expr i d) y j e trivial)
      | unaOf i d x =>
        simp only [stepW] at e
        split at e
        · obtain ⟨a1, a2, a3⟩ := ih _ _ _ e (Byt.sent hp (.msg (T i) no_mem))
          simp only [Qy.place, Qy.spare, Qy.has, cntN_sent, cntN_msg, cntL] at a1 a2 ⊢
          exact ⟨by omega, by omega, a3⟩
        · obtain ⟨rfl, rfl⟩ := okJ e
          exact ⟨Nat.le_refl _, by simp only [Qy.place, Qy.spare, Qy.has]; omega, hp⟩
      | binOf i d x =>
        simp only [stepW] at e
        split at e
        · obtain ⟨z, k, hz, e⟩ := okP e
          obtain ⟨a1, a2, a3⟩ := ih _ _ _ hz trivial
          obtain ⟨b1, b2, b3⟩ := ih _ _ _ e (Byt.sent hp (.msg (T i) (one_mem a3)))
          simp only [Qy.place, Qy.spare, Qy.has, cntN_sent, cntN_msg, cntL] at a1 a2 b1 b2 ⊢
          exact ⟨by omega, by omega, b3⟩
        · obtain ⟨rfl, rfl⟩ := okJ e
          exact ⟨Nat.le_refl _, by simp only [Qy.place, Qy.spare, Qy.has]; omega, hp⟩
      | keyOf i d x =>
        simp only [stepW] at e
        obtain ⟨z, k, hz, e⟩ := okP e
        obtain ⟨t, l, ht, e⟩ := okP e
        obtain ⟨a1, a2, a3⟩ := ih _ _ _ hz hp
        obtain ⟨b1, b2, b3⟩ := ih _ _ _ ht a3
        simp only [Qy.place, Qy.spare, Qy.has] at a1 a2 b1 b2 ⊢
        split at e
        · rename_i h2
          obtain ⟨m, o, hm, e⟩ := okP e
          obtain ⟨rfl, rfl⟩ := okJ e
          obtain ⟨c1, c2, c3⟩ := ih _ _ _ hm (.msg no_mem no_mem)
          simp only [Qy.place, Qy.spare, Qy.has, cntN_msg, cntL, if_pos h2] at c1 c2
          rw [cntN_sent]
          exact ⟨by omega, by omega, .sent b3 c3⟩
        · obtain ⟨rfl, rfl⟩ := okJ e
          exact ⟨by omega, by omega, b3⟩
      | keys i d x =>
        simp only [stepW] at e
        split at e
        · rename_i h2
          obtain ⟨z, k, hz, e⟩ := okP e
          obtain ⟨a1, a2, a3⟩ := ih _ _ _ hz trivial
          obtain ⟨b1, b2, b3⟩ := ih _ _ _ e (Byt.kid (Byt.say hp (T i)) a3)
          simp only [Qy.place, Qy.spare, Qy.has, cntN_kid, cntN_say, if_pos h2] at a1 a2 b1 b2 ⊢
          exact ⟨by omega, by omega, b3⟩
        · rename_i h2
          obtain ⟨rfl, rfl⟩ := okJ e
          simp only [Qy.place, Qy.spare, Qy.has, if_neg h2]
          exact ⟨Nat.le_refl _, by omega, hp⟩
      | others i d x =>
        simp only [stepW] at e
        split at e
        · rename_i h2
          obtain ⟨z, k, hz, e⟩ := okP e
          obtain ⟨a1, a2, a3⟩ := ih _ _ _ hz trivial
          obtain ⟨b1, b2, b3⟩ := ih _ _ _ e (Byt.kid hp a3)
          simp only [Qy.place, Qy.spare, Qy.has, cntN_kid, if_pos h2] at a1 a2 b1 b2 ⊢
          exact ⟨by omega, by omega, b3⟩
        · rename_i h2
          obtain ⟨rfl, rfl⟩ := okJ e
          simp only [Qy.place, Qy.spare, Qy.has, if_neg h2]
          exact ⟨Nat.le_refl _, by omega, hp⟩
      | elems i d x =>
        simp only [stepW] at e
        split at e
        · obtain ⟨rfl, rfl⟩ := okJ e
          simp only [Qy.place, Qy.spare, Qy.has]
          exact ⟨by omega, by omega, hp⟩
        · obtain ⟨z, k, hz, e⟩ := okP e
          obtain ⟨a1, a2, a3⟩ := ih _ _ _ hz trivial
          obtain ⟨b1, b2, b3⟩ := ih _ _ _ e (Byt.kid hp a3)
          simp only [Qy.place, Qy.spare, Qy.has, cntN_kid] at a1 a2 b1 b2 ⊢
          exact ⟨by omega, by omega, b3⟩
      | args i d x =>
        simp only [stepW] at e
        split at e
        · split at e
          · obtain ⟨b1, b2, b3⟩ := ih _ _ _ e (Byt.arg hp (T (i + 1)))
            simp only [Qy.place, Qy.spare, Qy.has, cntN_arg] at b1 b2 ⊢
            exact ⟨by omega, by omega, b3⟩
          · cases e
        · split at e
          · obtain ⟨rfl, rfl⟩ := okJ e
            simp only [Qy.place, Qy.spare, Qy.has]
            exact ⟨by omega, by omega, hp⟩
          · split at e
            · obtain ⟨rfl, rfl⟩ := okJ e
              simp only [Qy.place, Qy.spare, Qy.has]
              exact ⟨by omega, by omega, hp⟩
            · cases e
      | temps i d x =>
        simp only [stepW] at e
        split at e
        · obtain ⟨b1, b2, b3⟩ := ih _ _ _ e (Byt.tmp hp (T i))
          simp only [Qy.place, Qy.spare, Qy.has, cntN_tmp] at b1 b2 ⊢
          exact ⟨by omega, by omega, b3⟩
        · split at e
          · obtain ⟨rfl, rfl⟩ := okJ e
            simp only [Qy.place, Qy.spare, Qy.has]
            exact ⟨by omega, by omega, hp⟩
          · cases e
      | body i d x =>
        simp only [stepW] at e
        split at e
        · obtain ⟨z, k, hz, e⟩ := okP e
          obtain ⟨a1, a2, a3⟩ := ih _ _ _ hz hp
          obtain ⟨b1, b2, b3⟩ := ih _ _ _ e a3
          simp only [Qy.place, Qy.spare, Qy.has] at a1 a2 b1 b2 ⊢
          exact ⟨by omega, by omega, b3⟩
        · obtain ⟨b1, b2, b3⟩ := ih _ _ _ e hp
          simp only [Qy.place, Qy.spare, Qy.has] at b1 b2 ⊢
          exact ⟨by omega, by omega, b3⟩
      | stmts i d x =>
        simp only [stepW] at e
        split at e
        · obtain ⟨rfl, rfl⟩ := okJ e
          simp only [Qy.place, Qy.spare, Qy.has]
          exact ⟨by omega, by omega, hp⟩
        · obtain ⟨z, k, hz, e⟩ := okP e
          obtain ⟨a1, a2, a3⟩ := ih _ _ _ hz trivial
          have hk : Byt (x.kid z) := Byt.kid hp a3
          simp only [Qy.place, Qy.spare, Qy.has] at a1 a2 ⊢
          split at e
          · split at e
            · obtain ⟨rfl, rfl⟩ := okJ e
              rw [cntN_kid]
              exact ⟨by omega, by omega, hk⟩
            · obtain ⟨b1, b2, b3⟩ := ih _ _ _ e hk
              simp only [Qy.place, Qy.spare, Qy.has, cntN_kid] at b1 b2
              exact ⟨by omega, by omega, b3⟩
          · obtain ⟨rfl, rfl⟩ := okJ e
            rw [cntN_kid]
            exact ⟨by omega, by omega, hk⟩
      | pat i d x =>
        simp only [stepW] at e
        split at e
        · obtain ⟨rfl, rfl⟩ := okJ e
          simp only [Qy.place, Qy.spare, Qy.has, cntN_say]
          exact ⟨by omega, by omega, Byt.say hp (T i)⟩
        · split at e
          · split at e
            · obtain ⟨rfl, rfl⟩ := okJ e
              simp only [Qy.place, Qy.spare, Qy.has, cntN_arg, cntN_say]
              exact ⟨by omega, by omega, Byt.arg (Byt.say hp (T i)) (T (i + 1))⟩
            · cases e
          · split at e
            · obtain ⟨b1, b2, b3⟩ := ih _ _ _ e hp
              simp only [Qy.place, Qy.spare, Qy.has] at b1 b2 ⊢
              exact ⟨by omega, by omega, b3⟩
            · cases e
      | keyP i d x =>
        simp only [stepW] at e
        split at e
        · split at e
          · obtain ⟨b1, b2, b3⟩ := ih _ _ _ e (Byt.arg (Byt.say hp (T i)) (T (i + 1)))
            simp only [Qy.place, Qy.spare, Qy.has, cntN_arg, cntN_say] at b1 b2 ⊢
            exact ⟨by omega, by omega, b3⟩
          · cases e
        · obtain ⟨rfl, rfl⟩ := okJ e
          simp only [Qy.place, Qy.spare, Qy.has]
          exact ⟨by omega, by omega, hp⟩
theorem Reads.siz {W : List Tk} (T : ∀ i, ∀ c ∈ txW W i, 0 ≤ c ∧ c < 256) {a : Qy} {y : Nd} {j : Nat} (h : Reads W a (.ok y j)) (hp : a.byt) : a.place ≤ j ∧ cntN y + a.spare W ≤ a.has + 3 * (j - a.place) ∧ Byt y := by
  obtain ⟨f, hf⟩ := h
  exact run_siz T f _ _ hf hp
/-- How many parts a source's tree has, and what its texts are. -/
theorem TreP.siz {ss : List Int} {m : Bool} {n : Nd} {pl : Nat} (hb : ∀ x ∈ ss, 0 ≤ x ∧ x < 256) (h : TreP ss m n pl 0) : cntN n ≤ 100000 ∧ Byt n := by
  obtain ⟨W, hl, hW, x, j, k, hm, hf, hr, _⟩ := h.one
  obtain ⟨S, T, _⟩ := src_of hW hl hb
  have hE := S.small
  have hu : Byt u0N := .bare
  have h0 : cntN u0N = 1 := rfl
  have hx : cntN x ≤ 1 + 3 * j ∧ Byt x ∧ j ≤ W.length - 1 := by
    cases m with
    | true =>
      obtain ⟨a1, a2, a3⟩ := (hm rfl).siz T hu
      simp only [Qy.place, Qy.spare, Qy.has, h0] at a1 a2
      have ha : 0 + 0 ≤ W.length - 1 → 0 + 0 ≤ j ∧ j ≤ W.length - 1 := (hm rfl).adv S.ends
      exact ⟨by omega, a3, (ha (by omega)).2⟩
    | false =>
      obtain ⟨rfl, rfl⟩ := hf rfl
      exact ⟨by rw [h0]; omega, hu, Nat.zero_le _⟩
  obtain ⟨b1, b2, b3⟩ := hr.siz T hx.2.1
  simp only [Qy.place, Qy.spare, Qy.has] at b1 b2
  have ha : j + 0 ≤ W.length - 1 → j + 0 ≤ k ∧ k ≤ W.length - 1 := hr.adv S.ends
  have := (ha (by omega)).2
  exact ⟨by omega, b3⟩
end Go.Proofs.Ytoghhjljmhdioaa
namespace Go.Proofs.Ytoghhjljmhdioaa
open Go.RowKit
set_option maxRecDepth 100000
theorem varR_len {sl : List (List Int)} {E : Ev} {rc : Bool} {t : List Int} {p : Nat} {us : List Us} (h : varR sl E rc t p = .ok us) : us.length ≤ 1 := by
  unfold varR at h
  split at h
  · split at h
    · cases h
    · cases h; exact Nat.le_refl _
  · cases h
theorem setR_len {sl : List (List Int)} {E : Ev} {t : List Int} {p : Nat} {us : List Us} (h : setR sl E t p = .ok us) : us.length ≤ 1 := by
  unfold setR at h
  split at h
  · split at h
    · cases h; exact Nat.le_refl _
    · cases h
  · cases h
mutual
theorem prtR_len {sl : List (List Int)} : ∀ (x : Nd) {E : Ev} {rc : Bool} {us : List Us}, prtR sl E rc x = .ok us → us.length ≤ cntN x
  | .mk k t p n l kids, E, rc, us, h => by
    unfold prtR at h
    unfold cntN
    by_cases h5 : k = 5
    · rw [if_pos h5] at h
      have := varR_len h
      omega
    rw [if_neg h5] at h
    by_cases h6 : k = 6
    · rw [if_pos h6] at h
      obtain ⟨a, ha, h⟩ := bind_ok h
      obtain ⟨b, hb, h⟩ := bind_ok h
      cases h
      have := setR_len ha
      have := prsR_len kids hb
      rw [List.length_append]
      omega
    rw [if_neg h6] at h
    by_cases h10 : k = 10
    · rw [if_pos h10] at h
      by_cases hs : sndR l = true
      · rw [if_pos hs] at h
        have := prsR_len kids h
        omega
      · rw [if_neg hs] at h
        cases h
    rw [if_neg h10] at h
    have := prsR_len kids h
    omega
theorem prsR_len {sl : List (List Int)} : ∀ (l : List Nd) {E : Ev} {rc : Bool} {us : List Us}, prsR sl E rc l = .ok us → us.length ≤ cntL l
  | [], E, rc, us, h => by
    unfold prsR at h
    cases h
    exact Nat.zero_le _
  | x :: r, E, rc, us, h => by
    unfold prsR at h
    unfold cntL
    obtain ⟨a, ha, h⟩ := bind_ok h
    obtain ⟨b, hb, h⟩ := bind_ok h
    cases h
    have := prtR_len x ha
    have := prsR_len r hb
    rw [List.length_append]
    omega
end
theorem cntL_drop : ∀ (l : List Nd) (i : Nat), cntL (l.take i) + cntL (l.drop i) = cntL l := fun l i => by
  rw [← cntL_app, List.take_append_drop]
theorem cntN_mem : ∀ {l : List Nd} {x : Nd}, x ∈ l → cntN x ≤ cntL l
  | y :: r, x, h => by
    rcases List.mem_cons.1 h with rfl | h
    · unfold cntL; omega
    · have := cntN_mem h
      unfold cntL
      omega
/-- A part is gone through. -/
def PartC (x : Nd) : Prop := ∀ {B : Nat} {Z : Nat → Prop} {p : Nat} {sa : Option Addr} {sc : Nat} {sl : List (List Int)} {w : World} {us : List Us} {f : Nat}, Wk B Z p sa sc sl w us f → BytL sl → ∀ (E : Ev) (q : Option Nat), Chn Z w E q → (∀ y ∈ E, BytL y.1) → Byt x → E.length + cntN x ≤ 1000000 → us.length + cntN x ≤ 500000 → ∀ (v : Value), NdV Z w x v → ∀ rc : Bool,
  Calls Try.prog 32 #[.pointer (some ⟨p, 0, none⟩), ptrO q, v, .bool rc] w fun e w' => PtP B Z p sa sc sl us f w (prtR sl E rc x) e w'
/-- Parts are gone through. -/
def PartsC (l : List Nd) : Prop := ∀ {B : Nat} {Z : Nat → Prop} {p : Nat} {sa : Option Addr} {sc : Nat} {sl : List (List Int)} {w : World} {us : List Us} {f : Nat}, Wk B Z p sa sc sl w us f → BytL sl → ∀ (E : Ev) (q : Option Nat), Chn Z w E q → (∀ y ∈ E, BytL y.1) → (∀ x ∈ l, Byt x) → E.length + cntL l ≤ 1000000 → us.length + cntL l ≤ 500000 → ∀ (ka : Option Addr) (kc : Nat) (fl : List Value), SlF Z w ka l.length kc fl → KsF Z w l fl → l.length ≤ 100000 → ∀ rc : Bool,
  Calls Try.prog 22 #[.pointer (some ⟨p, 0, none⟩), ptrO q, .slice ka l.length kc, .bool rc] w fun e w' => PtP B Z p sa sc sl us f w (prsR sl E rc l) e w'
/-- A unit is gone through. -/
def UnitC (x : Nd) : Prop := ∀ {B : Nat} {Z : Nat → Prop} {p : Nat} {sa : Option Addr} {sc : Nat} {sl : List (List Int)} {w : World} {us : List Us} {f : Nat}, Wk B Z p sa sc sl w us f → BytL sl → ∀ (E : Ev) (q : Option Nat), Chn Z w E q → (∀ y ∈ E, BytL y.1) → Byt x → E.length + cntN x ≤ 1000000 → us.length + cntN x ≤ 500000 → ∀ (v : Value), NdV Z w x v →
  Calls Try.prog 14 #[.pointer (some ⟨p, 0, none⟩), v, ptrO q] w fun e w' => PtP B Z p sa sc sl us f w (untR sl E x) e w'
/-- One part more. -/
theorem step_er {sl : List (List Int)} {E : Ev} {rc : Bool} {l r : List Nd} {x : Nd} {i q : Nat} {u1 : List Us} (hd : l.drop i = x :: r) (h : prsR sl E rc l = (prsR sl E (rc && decide (i = 0)) (l.drop i)).bind fun b => .ok (u1 ++ b)) (hx : prtR sl E (rc && decide (i = 0)) x = .error q) : prsR sl E rc l = .error q := by
  rw [h, hd]
  show (((prtR sl E (rc && decide (i = 0)) x).bind _).bind _) = _
  rw [hx]
  rfl
theorem step_ok {sl : List (List Int)} {E : Ev} {rc : Bool} {l r : List Nd} {x : Nd} {i : Nat} {u1 a : List Us} (hd : l.drop i = x :: r) (h : prsR sl E rc l = (prsR sl E (rc && decide (i = 0)) (l.drop i)).bind fun b => .ok (u1 ++ b)) (hx : prtR sl E (rc && decide (i = 0)) x = .ok a) : prsR sl E rc l = (prsR sl E (rc && decide (i + 1 = 0)) (l.drop (i + 1))).bind fun b => .ok ((u1 ++ a) ++ b) := by
  have hr : l.drop (i + 1) = r := by
    rw [← List.drop_drop, hd]
    rfl
  have hf : (rc && decide (i + 1 = 0)) = false := by rw [decide_eq_false (by omega)]; exact Bool.and_false _
  rw [h, hd, hr, hf]
  show (((prtR sl E (rc && decide (i = 0)) x).bind _).bind _) = _
  rw [hx]
  show (((prsR sl E false r).bind fun b => .ok (a ++ b)).bind _) = _
  cases prsR sl E false r with
  | error e => rfl
  | ok b =>
    show (.ok (u1 ++ (a ++ b)) : Except Nat (List Us)) = .ok (u1 ++ a ++ b)
    rw [List.append_assoc]
theorem step_end {sl : List (List Int)} {E : Ev} {rc : Bool} {l : List Nd} {i : Nat} {u1 : List Us} (hi : l.length ≤ i) (h : prsR sl E rc l = (prsR sl E (rc && decide (i = 0)) (l.drop i)).bind fun b => .ok (u1 ++ b)) : prsR sl E rc l = .ok u1 := by
  rw [h, List.drop_eq_nil_of_le hi]
  show (.ok (u1 ++ []) : Except Nat (List Us)) = _
  rw [List.append_nil]
theorem step_start {sl : List (List Int)} {E : Ev} {rc : Bool} {l : List Nd} : prsR sl E rc l = (prsR sl E (rc && decide (0 = 0)) (l.drop 0)).bind fun b => .ok ([] ++ b) := by
  have e : (rc && decide (0 = 0)) = rc := by simp
  rw [e, List.drop_zero]
  cases prsR sl E rc l with
  | error e => rfl
  | ok b => rfl
end Go.Proofs.Ytoghhjljmhdioaa
