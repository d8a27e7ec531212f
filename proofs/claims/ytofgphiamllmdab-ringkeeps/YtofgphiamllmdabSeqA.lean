/- Records that lie one behind the other are read. -/
import Derived.Test.YtofgphiamllmdabKnown
import Derived.Test.YtofgphiamllmdabFullA
namespace Go.Proofs.Ytofgphiamllmdab
open Go.RowKit
set_option maxRecDepth 100000

/-- How many sectors a record takes. -/
def secN (ys : List Int) : Nat := (ys.length + 111) / 112
/-- What can be a record. -/
structure RecOk (life : Int) (ys : List Int) : Prop where
  l0 : 0 ≤ life
  l1 : life ≤ 1099511627776
  y0 : 1 ≤ ys.length
  y1 : ys.length ≤ 60000
  byte : ∀ y ∈ ys, 0 ≤ y ∧ y < 256
theorem rdRec_from {g : Nat → List Int} {life seq : Int} {ys : List Int} (ok : RecOk life ys) (q0 : 0 ≤ seq) (q1 : seq ≤ 1099511627776) (hg : ∀ k, k < secN ys → g k = recG life seq ys (secN ys) (k : Int)) :
    ∀ (d j r : Nat) (life0 : Int), j + (d + 1) = secN ys → d + 1 ≤ r → (j = 0 ∨ life0 = life) → rdRec g seq r j life0 (ys.take (112 * j)) = some (life, ys)
  | d, j, 0, life0, hj, hr, hl => by omega
  | d, j, r + 1, life0, hj, hr, hl => by
    have hy0 := ok.y0
    have hy1 := ok.y1
    have hK : secN ys = (ys.length + 111) / 112 := rfl
    have hjK : j < secN ys := by omega
    have hlen : ((ys.drop (112 * j)).take 112).length = min 112 (ys.length - 112 * j) := by rw [List.length_take, List.length_drop]
    unfold rdRec
    rw [hg j hjK]
    unfold recG
    rw [Int.toNat_natCast, rdPiece_piece ok.l0 ok.l1 q0 q1 (by omega) (by omega) (by rw [hlen]; omega) (by rw [hlen]; omega) (by
      intro h
      have h' : ¬ j = secN ys - 1 := by simpa using h
      rw [hlen]
      omega)]
    simp only []
    rw [if_neg (by rcases hl with h | h <;> simp [h]), pieceB_bytes]
    have htake : ys.take (112 * j) ++ (ys.drop (112 * j)).take 112 = ys.take (112 * (j + 1)) := by
      rw [show 112 * (j + 1) = 112 * j + 112 by omega, List.take_add]
    rw [htake, if_neg (by rw [List.length_take]; omega)]
    cases d with
    | zero =>
      rw [if_pos (by simp; omega), List.take_of_length_le (by omega)]
    | succ d =>
      rw [if_neg (by simp; omega)]
      exact rdRec_from ok q0 q1 hg d (j + 1) r life (by omega) (by omega) (.inr rfl)
theorem rdRec_rec {g : Nat → List Int} {life seq : Int} {ys : List Int} (ok : RecOk life ys) (q0 : 0 ≤ seq) (q1 : seq ≤ 1099511627776) (hg : ∀ k, k < secN ys → g k = recG life seq ys (secN ys) (k : Int)) {r : Nat} (hr : secN ys ≤ r) : rdRec g seq r 0 0 [] = some (life, ys) := by
  have hy0 := ok.y0
  have hK : secN ys = (ys.length + 111) / 112 := rfl
  have := rdRec_from ok q0 q1 hg (secN ys - 1) 0 r 0 (by omega) (by omega) (.inl rfl)
  simpa using this
/-- Records, with their lives, lie one behind the other from a sector on. -/
def Lies (g : Nat → List Int) : Nat → Int → List (Int × List Int) → Prop
  | _, _, [] => True
  | pos, seq, q :: t => (∀ k, k < secN q.2 → g (pos + k) = recG q.1 seq q.2 (secN q.2) (k : Int)) ∧ Lies g (pos + secN q.2) (seq + 1) t
/-- How many sectors they take. -/
def total : List (Int × List Int) → Nat
  | [] => 0
  | q :: t => secN q.2 + total t
/-- Their lives rise, up to the head's. -/
def Rise (hl : Int) : Int → List (Int × List Int) → Prop
  | _, [] => True
  | life, q :: t => life ≤ q.1 ∧ q.1 ≤ hl ∧ Rise hl q.1 t
def lastLife : Int → List (Int × List Int) → Int
  | life, [] => life
  | _, q :: t => lastLife q.1 t
theorem total_snoc (rs : List (Int × List Int)) (q : Int × List Int) : total (rs ++ [q]) = total rs + secN q.2 := by
  induction rs with
  | nil => simp [total]
  | cons x t ih => simp only [List.cons_append, total, ih]; omega
theorem Lies.snoc {g : Nat → List Int} : ∀ {rs : List (Int × List Int)} {pos : Nat} {seq : Int} {q : Int × List Int}, Lies g pos seq rs → (∀ k, k < secN q.2 → g (pos + total rs + k) = recG q.1 (seq + rs.length) q.2 (secN q.2) (k : Int)) → Lies g pos seq (rs ++ [q])
  | [], pos, seq, q, _, h => ⟨by simpa [total] using h, trivial⟩
  | x :: t, pos, seq, q, h1, h => ⟨h1.1, Lies.snoc h1.2 (fun k hk => by
    have := h k hk
    simp only [total, List.length_cons] at this
    rw [show pos + secN x.2 + total t + k = pos + (secN x.2 + total t) + k by omega, show seq + 1 + (t.length : Int) = seq + ((t.length + 1 : Nat) : Int) by omega]
    exact this)⟩
theorem Lies.same {g g' : Nat → List Int} : ∀ {rs : List (Int × List Int)} {pos : Nat} {seq : Int}, Lies g pos seq rs → (∀ k, pos ≤ k → k < pos + total rs → g' k = g k) → Lies g' pos seq rs
  | [], _, _, _, _ => trivial
  | x :: t, pos, seq, h1, h => ⟨fun k hk => by rw [h (pos + k) (by omega) (by simp only [total]; omega)]; exact h1.1 k hk, Lies.same h1.2 (fun k h2 h3 => h k (by omega) (by simp only [total]; omega))⟩
theorem Rise.snoc {hl : Int} : ∀ {rs : List (Int × List Int)} {life : Int} {q : Int × List Int}, Rise hl life rs → lastLife life rs ≤ q.1 → q.1 ≤ hl → Rise hl life (rs ++ [q])
  | [], _, _, _, h2, h3 => ⟨h2, h3, trivial⟩
  | _ :: _, _, _, h1, h2, h3 => ⟨h1.1, h1.2.1, Rise.snoc h1.2.2 h2 h3⟩
theorem Rise.more {hl hl' : Int} (h : hl ≤ hl') : ∀ {rs : List (Int × List Int)} {life : Int}, Rise hl life rs → Rise hl' life rs
  | [], _, _ => trivial
  | _ :: _, _, h1 => ⟨h1.1, Int.le_trans h1.2.1 h, Rise.more h h1.2.2⟩
theorem Rise.last {hl : Int} : ∀ {rs : List (Int × List Int)} {life : Int}, Rise hl life rs → life ≤ hl → lastLife life rs ≤ hl
  | [], _, _, h => h
  | q :: t, _, h1, _ => show lastLife q.1 t ≤ hl from Rise.last h1.2.2 h1.2.1
theorem lastLife_snoc (q : Int × List Int) : ∀ (rs : List (Int × List Int)) (life : Int), lastLife life (rs ++ [q]) = q.1
  | [], _ => rfl
  | x :: t, _ => lastLife_snoc q t x.1
/-- Nothing that counts stands there. -/
def Stops (g : Nat → List Int) (m : Nat) (hl : Int) (pos : Nat) (seq life : Int) : Prop := ∀ l ys, rdRec (fun k => g (pos + k)) seq (m - pos) 0 0 [] = some (l, ys) → l < life ∨ hl < l
theorem rdLog_lies {g : Nat → List Int} {m : Nat} {hl : Int} : ∀ (rs : List (Int × List Int)) (pos : Nat) (seq life : Int) (acc : List (List Int)) (f : Nat), (∀ q ∈ rs, RecOk q.1 q.2) → Lies g pos seq rs → Rise hl life rs → 0 ≤ seq → seq + rs.length ≤ 1099511627776 → pos + total rs ≤ m → rs.length < f → Stops g m hl (pos + total rs) (seq + rs.length) (lastLife life rs) →
    rdLog g m hl f pos seq life acc = (acc ++ rs.map (·.2), pos + total rs, seq + rs.length)
  | [], pos, seq, life, acc, 0, _, _, _, _, _, _, hf, _ => by simp at hf
  | [], pos, seq, life, acc, f + 1, _, _, _, _, _, _, _, hs => by
    unfold rdLog
    simp only [total, Nat.add_zero, List.length_nil, lastLife] at hs
    have hs' : Stops g m hl pos seq life := by simpa using hs
    rcases h : rdRec (fun k => g (pos + k)) seq (m - pos) 0 0 [] with _ | ⟨l, ys⟩
    · simp [total]
    · simp only []
      rw [if_pos (hs' l ys h)]
      simp [total]
  | q :: t, pos, seq, life, acc, 0, _, _, _, _, _, _, hf, _ => by simp at hf
  | q :: t, pos, seq, life, acc, f + 1, hok, hlies, hrise, hq0, hq1, hm, hf, hs => by
    have ok := hok q (by simp)
    simp only [List.length_cons] at hq1 hf
    simp only [total] at hm
    unfold rdLog
    rw [rdRec_rec ok hq0 (by omega) hlies.1 (show secN q.2 ≤ m - pos by omega)]
    simp only []
    rw [if_neg (by have := hrise.1; have := hrise.2.1; omega)]
    have ih := rdLog_lies (g := g) (m := m) (hl := hl) t (pos + secN q.2) (seq + 1) q.1 (acc ++ [q.2]) f (fun x hx => hok x (by simp [hx])) hlies.2 hrise.2.2 (by omega) (by omega) (by omega) (by omega) (by
      have := hs
      simp only [total, lastLife, List.length_cons] at this
      rw [show pos + secN q.2 + total t = pos + (secN q.2 + total t) by omega, show seq + 1 + (t.length : Int) = seq + ((t.length + 1 : Nat) : Int) by omega]
      exact this)
    rw [show pos + (q.2.length + 111) / 112 = pos + secN q.2 from rfl, ih]
    simp only [List.map_cons, List.append_assoc, List.singleton_append, total, List.length_cons]
    rw [show pos + secN q.2 + total t = pos + (secN q.2 + total t) by omega, show seq + 1 + (t.length : Int) = seq + ((t.length + 1 : Nat) : Int) by omega]
end Go.Proofs.Ytofgphiamllmdab

namespace Go.Proofs.Ytofgphiamllmdab
open Go.RowKit
set_option maxRecDepth 100000
section
variable {w : World} {lb p : Nat} {life half first since seq hs used : Int} {failed : Bool}
set_option maxHeartbeats 1000000 in
theorem life_any (h : w.heap[lb]? = some (logO p life half first since seq hs used failed)) : Calls Try.prog 36 #[.pointer (some ⟨lb, 0, none⟩)] w fun e w' => e = .returned (.int .i64 life) ∧ w = w' := by
  obtain ⟨c0, c1, c2, c3, c4, c5, c6, c7, c8, cf⟩ := log_cells h
  go_enter Try.func36, Try.ntmps36
  go_wp2
  go_ret
  exact ⟨rfl, rfl⟩
set_option maxHeartbeats 1000000 in
theorem seq_any (h : w.heap[lb]? = some (logO p life half first since seq hs used failed)) : Calls Try.prog 37 #[.pointer (some ⟨lb, 0, none⟩)] w fun e w' => e = .returned (.int .i64 seq) ∧ w = w' := by
  obtain ⟨c0, c1, c2, c3, c4, c5, c6, c7, c8, cf⟩ := log_cells h
  go_enter Try.func37, Try.ntmps37
  go_wp2
  go_ret
  exact ⟨rfl, rfl⟩
end
structure LogSt (w : World) (n₀ p bs bn lb S hs : Nat) (G : Int → List Int) (life : Int) (rs : List (Int × List Int)) : Prop where
  D : Dev w n₀ p bs bn (.slice none 0 0) (S : Int) G G [] 0 false
  L : w.heap[lb]? = some (logO p life 0 1 1 (1 + (rs.length : Int)) (hs : Int) (total rs : Int) false)
  h0 : G (life % 2) = headB life 0 1 1
  h1 : G ((life - 1) % 2) = headB (life - 1) 0 1 1
  lies : Lies (fun (k : Nat) => G (2 + (k : Int))) 0 1 rs
  rest : ∀ i, 2 + (total rs : Int) ≤ i → G i = z128
  rise : Rise life 1 rs
  ok : ∀ q ∈ rs, RecOk q.1 q.2
  l0 : 2 ≤ life
  fit : total rs ≤ hs
  n0 : w.heap.size ≥ n₀
section
variable {w : World} {n₀ p bs bn lb S hs : Nat} {G : Int → List Int} {life : Int} {rs : List (Int × List Int)}
theorem LogSt.keep {w' : World} (h : LogSt w n₀ p bs bn lb S hs G life rs) (B : Below w.heap.size w w') : LogSt w' n₀ p bs bn lb S hs G life rs :=
  ⟨h.D.same (fun i hi => B.block i hi), (B.block lb (lt_of_block h.L)).trans h.L, h.h0, h.h1, h.lies, h.rest, h.rise, h.ok, h.l0, h.fit, Nat.le_trans h.n0 B.size⟩
theorem len_total : ∀ {rs : List (Int × List Int)}, (∀ q ∈ rs, RecOk q.1 q.2) → rs.length ≤ total rs
  | [], _ => Nat.le_refl _
  | q :: t, h => by
    have h1 := (h q (by simp)).y0
    have h2 := len_total (rs := t) (fun x hx => h x (by simp [hx]))
    simp only [total, secN, List.length_cons]
    omega
theorem append_st (h : LogSt w n₀ p bs bn lb S hs G life rs) (hS : S ≤ 4096) (hhs : hs = (S - 2) / 2) (hl : life ≤ 1000000) {gb go n c K : Nat} {ys : List Int} (hy : ys.length = n) (hn0 : 0 < n) (hn1 : n ≤ 60000) (hnc : n ≤ c) (hgb : gb < w.heap.size) (hby : ∀ y ∈ ys, 0 ≤ y ∧ y < 256) (hys : ∀ i, i < n → w.cell? ⟨gb, go + i, none⟩ = some (.int .u8 (ys.getD i 0))) (hK : (n + 111) / 112 = K) (hfit : total rs + K ≤ hs) (hlw : n₀ ≤ lb) :
    Calls Try.prog 16 #[.pointer (some ⟨lb, 0, none⟩), .slice (some ⟨gb, go, none⟩) n c] w fun e w' => e = .returned (.int .i64 0) ∧ Below n₀ w w' ∧ ∃ G', LogSt w' n₀ p bs bn lb S hs G' life (rs ++ [(life, ys)]) := by
  have hlt := len_total h.ok
  have hKs : secN ys = K := by unfold secN; rw [hy, hK]
  refine (append_ok (K := K) (ys := ys) h.D h.L (by omega) (by simp) (.inl rfl) (by omega) (by omega) (by omega) (by omega) (by omega) hy hn0 hn1 hnc hgb hby hys hK (by omega) (2 + (total rs : Int)) (by omega) (by omega)).mono ?_
  rintro e w8 ⟨rfl, D8, L8, o1, o2, o3, o4, o5⟩
  have D0 := h.D
  refine ⟨rfl, ⟨o1, o2, o3, o4, fun j hj => o5 j (by have := h.n0; omega) (by omega) (by have := D0.fromP; omega) (by have := D0.fromS; omega) (by have := D0.fromN; omega) (by simp [Value.ownBlock])⟩, appl G (wsP (2 + (total rs : Int)) (recB life (1 + (rs.length : Int)) ys) (List.finRange K)), ?_⟩
  rw [List.nil_append] at D8
  have hrec : ∀ k : Nat, k < K → ch (recB life (1 + (rs.length : Int)) ys) k = recG life (1 + (rs.length : Int)) ys (secN ys) (k : Int) := fun k hk => by
    unfold recB
    rw [show (ys.length + 111) / 112 = K from hKs, hKs, ch_cat (recG_sec life _ hby K) 0 K k hk, Int.zero_add]
  refine ⟨D8, ?_, ?_, ?_, ?_, ?_, ?_, ?_, h.l0, ?_, Nat.le_trans h.n0 o4⟩
  · rw [total_snoc, List.length_append, show secN ((life, ys) : Int × List Int).2 = K from hKs]
    simp only [List.length_cons, List.length_nil]
    rw [show (1 : Int) + ((rs.length + (0 + 1) : Nat) : Int) = 1 + (rs.length : Int) + 1 by omega, show ((total rs + K : Nat) : Int) = (total rs : Int) + (K : Int) by omega]
    exact L8
  · rw [appl_write, if_neg (by omega)]; exact h.h0
  · rw [appl_write, if_neg (by omega)]; exact h.h1
  · refine Lies.snoc (Lies.same h.lies (fun k _ hk => ?_)) (fun k hk => ?_)
    · show appl G _ _ = G _
      rw [appl_write, if_neg (by omega)]
    · show appl G _ (2 + ((0 + total rs + k : Nat) : Int)) = _
      have hk' : k < K := by rw [← hKs]; exact hk
      rw [appl_write, if_pos (by omega), show (2 + ((0 + total rs + k : Nat) : Int) - (2 + (total rs : Int))).toNat = k by omega, hrec k hk']
  · intro i hi
    rw [total_snoc, show secN ((life, ys) : Int × List Int).2 = K from hKs] at hi
    rw [appl_write, if_neg (by omega)]
    exact h.rest i (by omega)
  · exact h.rise.snoc (h.rise.last (by have := h.l0; omega)) (Int.le_refl _)
  · intro q hq
    rcases List.mem_append.1 hq with hq | hq
    · exact h.ok q hq
    · simp only [List.mem_singleton] at hq
      subst hq
      exact ⟨by have := h.l0; omega, by omega, by show 1 ≤ ys.length; omega, by show ys.length ≤ 60000; omega, hby⟩
  · rw [total_snoc, show secN ((life, ys) : Int × List Int).2 = K from hKs]; exact hfit
theorem open_st (h : LogSt w n₀ p bs bn lb S hs G life rs) (hS0 : 4 ≤ S) (hS : S ≤ 4096) (hhs : hs = (S - 2) / 2) (hl : life ≤ 1000000) :
    Calls Try.prog 42 #[.pointer (some ⟨p, 0, none⟩)] w fun e w' => ∃ lb' v G', e = .returned (.tuple #[.pointer (some ⟨lb', 0, none⟩), v, .int .i64 0]) ∧ w.heap.size ≤ lb' ∧ Below n₀ w w' ∧ Recs w' w.heap.size v (rs.map (·.2)) ∧ LogSt w' n₀ p bs bn lb' S hs G' (life + 1) rs ∧ w'.heap[lb]? = some (logO p life 0 1 1 (1 + (rs.length : Int)) (hs : Int) (total rs : Int) false) := by
  have hlt := len_total h.ok
  have h2 := h.l0
  have hfit := h.fit
  have S2 : ∀ k, IsSec (G k) := fun k => h.D.now.isSec k
  have hh : newer (rdHead (G 0)) (rdHead (G 1)) = some (life, 0, 1, 1) := by
    have a0 := rdHead_head (l := life) (h := 0) (f := 1) (s := 1) (by omega) (by omega) (by decide) (by decide) (by decide) (by decide) (by decide) (by decide)
    have a1 := rdHead_head (l := life - 1) (h := 0) (f := 1) (s := 1) (by omega) (by omega) (by decide) (by decide) (by decide) (by decide) (by decide) (by decide)
    rcases (show life % 2 = 0 ∨ life % 2 = 1 by omega) with e | e
    · have g0 := h.h0
      have g1 := h.h1
      rw [e] at g0
      rw [show (life - 1) % 2 = 1 by omega] at g1
      rw [g0, g1, a0, a1]
      show (if life < life - 1 then _ else _) = _
      rw [if_neg (by omega)]
    · have g0 := h.h0
      have g1 := h.h1
      rw [e] at g0
      rw [show (life - 1) % 2 = 0 by omega] at g1
      rw [g0, g1, a0, a1]
      show (if life - 1 < life then _ else _) = _
      rw [if_pos (by omega)]
  have hg : ∀ k : Nat, 2 + k < S → ch (catS G 0 S) (2 + 0 * hs + k) = G (2 + (k : Int)) := fun k hk => by
    rw [Nat.zero_mul, ch_cat S2 0 S (2 + 0 + k) (by omega)]
    congr 1
    push_cast
    omega
  have hrd : rdLog (fun k => ch (catS G 0 S) (2 + 0 * hs + k)) hs life (hs + 1) 0 1 1 [] = (rs.map (·.2), total rs, 1 + (rs.length : Int)) := by
    have := rdLog_lies (g := fun k => ch (catS G 0 S) (2 + 0 * hs + k)) (m := hs) (hl := life) rs 0 1 1 [] (hs + 1) h.ok (Lies.same h.lies (fun k _ hk => hg k (by omega))) h.rise (by decide) (by omega) (by omega) (by omega) (by
      intro l ys hr
      exfalso
      rcases Nat.eq_or_lt_of_le hfit with e | e
      · rw [show hs - (0 + total rs) = 0 by omega] at hr
        cases hr
      · rw [rdRec_none (by show ch (catS G 0 S) (2 + 0 * hs + (0 + total rs + 0)) = z128; rw [show 0 + total rs + 0 = total rs by omega, hg _ (by omega)]; exact h.rest _ (by omega))] at hr
        cases hr)
    simpa using this
  refine (open_ok (S := S) (hs := hs) h.D hS0 hS hhs (by simp) hh (by omega) (by omega) (hf := 0) rfl (by decide) (by decide) (by decide) hrd (by omega)).mono ?_
  rintro e w3 ⟨lb', v3, rfl, hlb, L3, RC3, D3, F3⟩
  rw [List.nil_append] at D3
  refine ⟨lb', v3, _, rfl, hlb, F3.below h.D, RC3, ⟨D3, L3, ?_, ?_, ?_, ?_, h.rise.more (by omega), h.ok, by omega, hfit, Nat.le_trans h.n0 F3.size⟩, F3.cells h.D h.L (by decide) (by decide)⟩
  · rw [appl_write, if_pos (by omega), show ((life + 1) % 2 - (life + 1) % 2).toNat = 0 by omega]; exact ch_one (headB_sec _ _ _ _).len
  · rw [show life + 1 - 1 = life by omega, appl_write, if_neg (by omega)]; exact h.h0
  · exact Lies.same h.lies (fun k _ _ => by show appl G _ _ = G _; rw [appl_write, if_neg (by omega)])
  · intro i hi
    rw [appl_write, if_neg (by omega)]
    exact h.rest i hi
end
end Go.Proofs.Ytofgphiamllmdab
