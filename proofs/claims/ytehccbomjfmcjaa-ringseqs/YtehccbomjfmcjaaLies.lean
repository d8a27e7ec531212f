/- Records that lie one behind the other are read. -/
import Derived.Test.YtehccbomjfmcjaaKnown
namespace Go.Proofs.Ytehccbomjfmcjaa
open Go.RowKit
set_option maxRecDepth 100000

/-- How many sectors a record takes. -/
def secN (ys : List Int) : Nat := (ys.length + 111) / 112
/-- What can be a record. -/
structure RecOk (life : Int) (ys : List Int) : Prop where
  l0 : 0 ≤ life
  l1 : life ≤ 1099511627776
  y0 : 1 ≤ ys.length
  y1 : ys.length ≤ 60000
  byte : ∀ y ∈ ys, 0 ≤ y ∧ y < 256
theorem rdRec_from {g : Nat → List Int} {life seq : Int} {ys : List Int} (ok : RecOk life ys) (q0 : 0 ≤ seq) (q1 : seq ≤ 1099511627776) (hg : ∀ k, k < secN ys → g k = recG life seq ys (secN ys) (k : Int)) :
    ∀ (d j r : Nat) (life0 : Int), j + (d + 1) = secN ys → d + 1 ≤ r → (j = 0 ∨ life0 = life) → rdRec g seq r j life0 (ys.take (112 * j)) = some (life, ys)
  | d, j, 0, life0, hj, hr, hl => by omega
  | d, j, r + 1, life0, hj, hr, hl => by
    have hy0 := ok.y0
    have hy1 := ok.y1
    have hK : secN ys = (ys.length + 111) / 112 := rfl
    have hjK : j < secN ys := by omega
    have hlen : ((ys.drop (112 * j)).take 112).length = min 112 (ys.length - 112 * j) := by rw [List.length_take, List.length_drop]
    unfold rdRec
    rw [hg j hjK]
    unfold recG
    rw [Int.toNat_natCast, rdPiece_piece ok.l0 ok.l1 q0 q1 (by omega) (by omega) (by rw [hlen]; omega) (by rw [hlen]; omega) (by
      intro h
      have h' : ¬ j = secN ys - 1 := by simpa using h
      rw [hlen]
      omega)]
    simp only []
    rw [if_neg (by rcases hl with h | h <;> simp [h]), pieceB_bytes]
    have htake : ys.take (112 * j) ++ (ys.drop (112 * j)).take 112 = ys.take (112 * (j + 1)) := by
      rw [show 112 * (j + 1) = 112 * j + 112 by omega, List.take_add]
    rw [htake, if_neg (by rw [List.length_take]; omega)]
    cases d with
    | zero =>
      rw [if_pos (by simp; omega), List.take_of_length_le (by omega)]
    | succ d =>
      rw [if_neg (by simp; omega)]
      exact rdRec_from ok q0 q1 hg d (j + 1) r life (by omega) (by omega) (.inr rfl)
theorem rdRec_rec {g : Nat → List Int} {life seq : Int} {ys : List Int} (ok : RecOk life ys) (q0 : 0 ≤ seq) (q1 : seq ≤ 1099511627776) (hg : ∀ k, k < secN ys → g k = recG life seq ys (secN ys) (k : Int)) {r : Nat} (hr : secN ys ≤ r) : rdRec g seq r 0 0 [] = some (life, ys) := by
  have hy0 := ok.y0
  have hK : secN ys = (ys.length + 111) / 112 := rfl
  have := rdRec_from ok q0 q1 hg (secN ys - 1) 0 r 0 (by omega) (by omega) (.inl rfl)
  simpa using this
/-- Records, with their lives, lie one behind the other from a sector on. -/
def Lies (g : Nat → List Int) : Nat → Int → List (Int × List Int) → Prop
  | _, _, [] => True
  | pos, seq, q :: t => (∀ k, k < secN q.2 → g (pos + k) = recG q.1 seq q.2 (secN q.2) (k : Int)) ∧ Lies g (pos + secN q.2) (seq + 1) t
/-- How many sectors they take. -/
def total : List (Int × List Int) → Nat
  | [] => 0
  | q :: t => secN q.2 + total t
/-- Their lives rise, up to the head's. -/
def Rise (hl : Int) : Int → List (Int × List Int) → Prop
  | _, [] => True
  | life, q :: t => life ≤ q.1 ∧ q.1 ≤ hl ∧ Rise hl q.1 t
def lastLife : Int → List (Int × List Int) → Int
  | life, [] => life
  | _, q :: t => lastLife q.1 t
theorem total_snoc (rs : List (Int × List Int)) (q : Int × List Int) : total (rs ++ [q]) = total rs + secN q.2 := by
  induction rs with
  | nil => simp [total]
  | cons x t ih => simp only [List.cons_append, total, ih]; omega
theorem Lies.snoc {g : Nat → List Int} : ∀ {rs : List (Int × List Int)} {pos : Nat} {seq : Int} {q : Int × List Int}, Lies g pos seq rs → (∀ k, k < secN q.2 → g (pos + total rs + k) = recG q.1 (seq + rs.length) q.2 (secN q.2) (k : Int)) → Lies g pos seq (rs ++ [q])
  | [], pos, seq, q, _, h => ⟨by simpa [total] using h, trivial⟩
  | x :: t, pos, seq, q, h1, h => ⟨h1.1, Lies.snoc h1.2 (fun k hk => by
    have := h k hk
    simp only [total, List.length_cons] at this
    rw [show pos + secN x.2 + total t + k = pos + (secN x.2 + total t) + k by omega, show seq + 1 + (t.length : Int) = seq + ((t.length + 1 : Nat) : Int) by omega]
    exact this)⟩
theorem Lies.same {g g' : Nat → List Int} : ∀ {rs : List (Int × List Int)} {pos : Nat} {seq : Int}, Lies g pos seq rs → (∀ k, pos ≤ k → k < pos + total rs → g' k = g k) → Lies g' pos seq rs
  | [], _, _, _, _ => trivial
  | x :: t, pos, seq, h1, h => ⟨fun k hk => by rw [h (pos + k) (by omega) (by simp only [total]; omega)]; exact h1.1 k hk, Lies.same h1.2 (fun k h2 h3 => h k (by omega) (by simp only [total]; omega))⟩
theorem Rise.snoc {hl : Int} : ∀ {rs : List (Int × List Int)} {life : Int} {q : Int × List Int}, Rise hl life rs → lastLife life rs ≤ q.1 → q.1 ≤ hl → Rise hl life (rs ++ [q])
  | [], _, _, _, h2, h3 => ⟨h2, h3, trivial⟩
  | _ :: _, _, _, h1, h2, h3 => ⟨h1.1, h1.2.1, Rise.snoc h1.2.2 h2 h3⟩
theorem Rise.more {hl hl' : Int} (h : hl ≤ hl') : ∀ {rs : List (Int × List Int)} {life : Int}, Rise hl life rs → Rise hl' life rs
  | [], _, _ => trivial
  | _ :: _, _, h1 => ⟨h1.1, Int.le_trans h1.2.1 h, Rise.more h h1.2.2⟩
theorem Rise.last {hl : Int} : ∀ {rs : List (Int × List Int)} {life : Int}, Rise hl life rs → life ≤ hl → lastLife life rs ≤ hl
  | [], _, _, h => h
  | q :: t, _, h1, _ => show lastLife q.1 t ≤ hl from Rise.last h1.2.2 h1.2.1
theorem lastLife_snoc (q : Int × List Int) : ∀ (rs : List (Int × List Int)) (life : Int), lastLife life (rs ++ [q]) = q.1
  | [], _ => rfl
  | x :: t, _ => lastLife_snoc q t x.1
/-- Nothing that counts stands there. -/
def Stops (g : Nat → List Int) (m : Nat) (hl : Int) (pos : Nat) (seq life : Int) : Prop := ∀ l ys, rdRec (fun k => g (pos + k)) seq (m - pos) 0 0 [] = some (l, ys) → l < life ∨ hl < l
theorem rdLog_lies {g : Nat → List Int} {m : Nat} {hl : Int} : ∀ (rs : List (Int × List Int)) (pos : Nat) (seq life : Int) (acc : List (List Int)) (f : Nat), (∀ q ∈ rs, RecOk q.1 q.2) → Lies g pos seq rs → Rise hl life rs → 0 ≤ seq → seq + rs.length ≤ 1099511627776 → pos + total rs ≤ m → rs.length < f → Stops g m hl (pos + total rs) (seq + rs.length) (lastLife life rs) →
    rdLog g m hl f pos seq life acc = (acc ++ rs.map (·.2), pos + total rs, seq + rs.length)
  | [], pos, seq, life, acc, 0, _, _, _, _, _, _, hf, _ => by simp at hf
  | [], pos, seq, life, acc, f + 1, _, _, _, _, _, _, _, hs => by
    unfold rdLog
    simp only [total, Nat.add_zero, List.length_nil, lastLife] at hs
    have hs' : Stops g m hl pos seq life := by simpa using hs
    rcases h : rdRec (fun k => g (pos + k)) seq (m - pos) 0 0 [] with _ | ⟨l, ys⟩
    · simp [total]
    · simp only []
      rw [if_pos (hs' l ys h)]
      simp [total]
  | q :: t, pos, seq, life, acc, 0, _, _, _, _, _, _, hf, _ => by simp at hf
  | q :: t, pos, seq, life, acc, f + 1, hok, hlies, hrise, hq0, hq1, hm, hf, hs => by
    have ok := hok q (by simp)
    simp only [List.length_cons] at hq1 hf
    simp only [total] at hm
    unfold rdLog
    rw [rdRec_rec ok hq0 (by omega) hlies.1 (show secN q.2 ≤ m - pos by omega)]
    simp only []
    rw [if_neg (by have := hrise.1; have := hrise.2.1; omega)]
    have ih := rdLog_lies (g := g) (m := m) (hl := hl) t (pos + secN q.2) (seq + 1) q.1 (acc ++ [q.2]) f (fun x hx => hok x (by simp [hx])) hlies.2 hrise.2.2 (by omega) (by omega) (by omega) (by omega) (by
      have := hs
      simp only [total, lastLife, List.length_cons] at this
      rw [show pos + secN q.2 + total t = pos + (secN q.2 + total t) by omega, show seq + 1 + (t.length : Int) = seq + ((t.length + 1 : Nat) : Int) by omega]
      exact this)
    rw [show pos + (q.2.length + 111) / 112 = pos + secN q.2 from rfl, ih]
    simp only [List.map_cons, List.append_assoc, List.singleton_append, total, List.length_cons]
    rw [show pos + secN q.2 + total t = pos + (secN q.2 + total t) by omega, show seq + 1 + (t.length : Int) = seq + ((t.length + 1 : Nat) : Int) by omega]
end Go.Proofs.Ytehccbomjfmcjaa
