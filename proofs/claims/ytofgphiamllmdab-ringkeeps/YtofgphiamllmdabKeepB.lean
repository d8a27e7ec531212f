/- What stands on a device, behind whatever was lost: the records that were said to be there. -/
import Derived.Test.YtofgphiamllmdabSeqA
import Derived.Test.YtofgphiamllmdabLogX
import Derived.Test.YtofgphiamllmdabRewX
import Derived.Test.YtofgphiamllmdabLayX
namespace Go.Proofs.Ytofgphiamllmdab
open Go.RowKit
set_option maxRecDepth 100000

/-- Every piece of a record that is read bears its life; the last one is marked. -/
theorem rdRec_facts {g : Nat → List Int} {seq : Int} : ∀ (r j : Nat) (life : Int) (acc : List Int) (l : Int) (ys : List Int), rdRec g seq r j life acc = some (l, ys) → (0 < j → l = life) ∧ 0 < r ∧ (∃ x, rdPiece (g j) = some x ∧ x.1 = l) ∧ ∃ k q p n, j ≤ k ∧ k < j + r ∧ rdPiece (g k) = some (l, q, p, true, n)
  | 0, _, _, _, _, _, h => by cases h
  | r + 1, j, life, acc, l, ys, h => by
    unfold rdRec at h
    rcases hp : rdPiece (g j) with _ | ⟨l', q, p, last, n⟩
    · rw [hp] at h; cases h
    · rw [hp] at h
      simp only [] at h
      split at h
      · cases h
      · rename_i hc
        split at h
        · cases h
        · have hjl : 0 < j → l' = life := fun h0 => Decidable.byContradiction (fun hne => hc (.inr (.inr ⟨h0, hne⟩)))
          cases last
          · rw [if_neg (by simp)] at h
            obtain ⟨h1, h2, h3, k, q', p', n', h4, h5, h6⟩ := rdRec_facts r (j + 1) l' _ l ys h
            have e := h1 (by omega)
            subst e
            exact ⟨hjl, by omega, ⟨_, rfl, rfl⟩, k, q', p', n', by omega, by omega, h6⟩
          · rw [if_pos rfl] at h
            injection h with h
            injection h with h1 h2
            subst h1
            exact ⟨hjl, by omega, ⟨_, rfl, rfl⟩, j, q, p, n, Nat.le_refl _, by omega, hp⟩
/-- Sectors of another life change no record that is read. -/
theorem rdRec_same {g g' : Nat → List Int} {seq life' : Int} : ∀ (r j : Nat) (life : Int) (acc : List Int) (l : Int) (ys : List Int), (∀ k, j ≤ k → k < j + r → g' k = g k ∨ ∃ x, rdPiece (g' k) = some x ∧ x.1 = life') → l ≠ life' → rdRec g' seq r j life acc = some (l, ys) → rdRec g seq r j life acc = some (l, ys)
  | 0, _, _, _, _, _, _, _, h => by cases h
  | r + 1, j, life, acc, l, ys, hk, hne, h => by
    have hf := rdRec_facts (r + 1) j life acc l ys h
    obtain ⟨x, hx, hxl⟩ := hf.2.2.1
    have hgj : g' j = g j := by
      rcases hk j (Nat.le_refl _) (by omega) with e | ⟨x', e1, e2⟩
      · exact e
      · rw [hx] at e1
        injection e1 with e1
        subst e1
        exact absurd (hxl.symm.trans e2) hne
    unfold rdRec at h ⊢
    rw [← hgj]
    rcases hp : rdPiece (g' j) with _ | ⟨l', q, p, last, n⟩
    · rw [hp] at h; cases h
    · rw [hp] at h
      simp only [] at h ⊢
      split at h
      · cases h
      · rename_i hc
        rw [if_neg hc]
        split at h
        · cases h
        · rename_i hc2
          rw [if_neg hc2]
          cases last
          · rw [if_neg (by simp)] at h ⊢
            exact rdRec_same r (j + 1) l' _ l ys (fun k h1 h2 => hk k (by omega) (by omega)) hne h
          · rw [if_pos rfl] at h ⊢
            exact h
/-- What writes leave at a place. -/
theorem appl_or : ∀ (L : List (Int × List Int)) (G : Int → List Int) (i : Int), appl G L i = G i ∨ ∃ q ∈ L, q.1 = i ∧ appl G L i = q.2
  | [], _, _ => .inl rfl
  | x :: t, G, i => by
    have e : appl G (x :: t) = appl (fun k => if k = x.1 then x.2 else G k) t := rfl
    rw [e]
    rcases appl_or t (fun k => if k = x.1 then x.2 else G k) i with h | ⟨q, h1, h2, h3⟩
    · by_cases hi : i = x.1
      · exact .inr ⟨x, by simp, hi.symm, by rw [h]; simp [hi]⟩
      · exact .inl (by rw [h]; simp [hi])
    · exact .inr ⟨q, by simp [h1], h2, h3⟩
theorem life_piece {l q p : Int} {last : Bool} {ys : List Int} (l0 : 0 ≤ l) (l1 : l ≤ 1099511627776) {x : Int × Int × Int × Bool × Nat} (h : rdPiece (pieceB l q p last ys) = some x) : x.1 = l := by
  obtain ⟨R, hp⟩ : ∃ R, pieceB l q p last ys = be 6 l ++ (be 6 q ++ (be 2 p ++ (be 1 (if last then 1 else 0) ++ (be 1 (ys.length : Int) ++ R)))) := ⟨_, pieceB_parts l q p last ys⟩
  have e1 : hdAt (pieceB l q p last ys) 0 6 = l := by
    rw [hdAt_of (off := 0) (A := []) (B := be 6 l) (C := be 6 q ++ (be 2 p ++ (be 1 (if last then 1 else 0) ++ (be 1 (ys.length : Int) ++ R)))) hp rfl (be_len 6 l), num_be 6 l (by omega) (by omega)]
  unfold rdPiece at h
  split at h
  · injection h with h
    subst h
    exact e1
  · cases h
/-- What lies somewhere among records is a piece of one of them. -/
theorem Lies.piece {g : Nat → List Int} : ∀ {rs : List (Int × List Int)} {pos : Nat} {seq : Int}, Lies g pos seq rs → ∀ k, pos ≤ k → k < pos + total rs → ∃ q ∈ rs, ∃ s i, g k = recG q.1 s q.2 (secN q.2) i
  | [], pos, seq, _, k, h1, h2 => by simp only [total] at h2; omega
  | q :: t, pos, seq, h, k, h1, h2 => by
    by_cases hk : k < pos + secN q.2
    · refine ⟨q, by simp, seq, ((k - pos : Nat) : Int), ?_⟩
      have := h.1 (k - pos) (by omega)
      rwa [show pos + (k - pos) = k by omega] at this
    · simp only [total] at h2
      obtain ⟨x, hx, s, i, e⟩ := Lies.piece h.2 k (by omega) (by omega)
      exact ⟨x, by simp [hx], s, i, e⟩
theorem Rise.le {hl : Int} : ∀ {rs : List (Int × List Int)} {life : Int}, Rise hl life rs → ∀ q ∈ rs, q.1 ≤ hl
  | [], _, _, q, hq => by cases hq
  | x :: t, _, h, q, hq => by
    rcases List.mem_cons.1 hq with rfl | hq
    · exact h.2.1
    · exact Rise.le h.2.2 q hq
end Go.Proofs.Ytofgphiamllmdab

namespace Go.Proofs.Ytofgphiamllmdab
open Go.RowKit
set_option maxRecDepth 100000

/-- The sectors of a half. -/
def halfAt (G : Int → List Int) (hs hf : Nat) : Nat → List Int := fun k => G (2 + ((hf * hs : Nat) : Int) + (k : Int))
/-- A log's records stand in the half hf; behind them pieces of lives up to b; in the other half of lives up to c. -/
structure Good (G : Int → List Int) (hs : Nat) (life b c : Int) (hf : Nat) (first since : Int) (rs : List (Int × List Int)) : Prop where
  hd : G (life % 2) = headB life (hf : Int) first since
  ho : ∀ h, rdHead (G ((life - 1) % 2)) = some h → h.1 < life
  lies : Lies (halfAt G hs hf) 0 first rs
  fit : total rs ≤ hs
  rise : Rise life since rs
  ok : ∀ q ∈ rs, RecOk q.1 q.2
  gar : ∀ k, total rs ≤ k → k < hs → ∀ x, rdPiece (halfAt G hs hf k) = some x → x.1 ≤ b
  oth : ∀ k, k < hs → ∀ x, rdPiece (halfAt G hs (1 - hf) k) = some x → x.1 ≤ c
  stop : ∀ l ys, rdRec (fun k => halfAt G hs hf (total rs + k)) (first + (rs.length : Int)) (hs - total rs) 0 0 [] = some (l, ys) → l < lastLife since rs
  hb : b ≤ life
  hc : c ≤ life + 1
  l1 : 1 ≤ life
  f1 : 1 ≤ first
  s1 : 1 ≤ since
  sl : since ≤ life
  h1 : hf ≤ 1
theorem rdRec_congr {g g' : Nat → List Int} {seq : Int} {r j : Nat} {life : Int} {acc : List Int} {l : Int} {ys : List Int} (hk : ∀ k, j ≤ k → k < j + r → g' k = g k) (h : rdRec g' seq r j life acc = some (l, ys)) : rdRec g seq r j life acc = some (l, ys) :=
  rdRec_same (life' := l + 1) r j life acc l ys (fun k h1 h2 => .inl (hk k h1 h2)) (by omega) h
section
variable {G : Int → List Int} {hs : Nat} {life b c : Int} {hf : Nat} {first since : Int} {rs : List (Int × List Int)}
theorem Good.newer (h : Good G hs life b c hf first since rs) (hl : life ≤ 1099511627776) (hfi : first ≤ 1099511627776) : newer (rdHead (G 0)) (rdHead (G 1)) = some (life, (hf : Int), first, since) := by
  have h1 := h.h1
  have a0 := rdHead_head (l := life) (h := (hf : Int)) (f := first) (s := since) h.l1 hl (by omega) (by omega) h.f1 hfi h.s1 (Int.le_trans h.sl hl)
  rcases (show life % 2 = 0 ∨ life % 2 = 1 by omega) with e | e
  · have g0 := h.hd
    have g1 := h.ho
    rw [e] at g0
    rw [show (life - 1) % 2 = 1 by omega] at g1
    rw [g0, a0]
    rcases hr : rdHead (G 1) with _ | x
    · rfl
    · have := g1 x hr
      show (if life < x.1 then _ else _) = _
      rw [if_neg (by omega)]
  · have g0 := h.hd
    have g1 := h.ho
    rw [e] at g0
    rw [show (life - 1) % 2 = 0 by omega] at g1
    rw [g0, a0]
    rcases hr : rdHead (G 0) with _ | x
    · rfl
    · have := g1 x hr
      show (if x.1 < life then _ else _) = _
      rw [if_pos (by omega)]
theorem Good.log (h : Good G hs life b c hf first since rs) (hG : ∀ k, IsSec (G k)) {S : Nat} (hS : 2 + 2 * hs ≤ S) (hq : first + (rs.length : Int) ≤ 1099511627776) : rdLog (fun k => ch (catS G 0 S) (2 + hf * hs + k)) hs life (hs + 1) 0 first since [] = (rs.map (·.2), total rs, first + (rs.length : Int)) := by
  have hfit := h.fit
  have h1 := h.h1
  have f1 := h.f1
  have hh : hf * hs ≤ hs := by rcases Nat.le_one_iff_eq_zero_or_eq_one.1 h1 with rfl | rfl <;> omega
  have hg : ∀ k : Nat, k < hs → ch (catS G 0 S) (2 + hf * hs + k) = halfAt G hs hf k := fun k hk => by
    rw [ch_cat hG 0 S (2 + hf * hs + k) (by omega)]
    unfold halfAt
    congr 1
    push_cast
    omega
  have hlen := len_total h.ok
  have := rdLog_lies (g := fun k => ch (catS G 0 S) (2 + hf * hs + k)) (m := hs) (hl := life) rs 0 first since [] (hs + 1) h.ok (Lies.same h.lies (fun k _ hk => hg k (by omega))) h.rise (by omega) hq (by omega) (by omega) (by
    intro l ys hr
    left
    refine h.stop l ys (rdRec_congr (fun k _ hk => ?_) (by rw [Nat.zero_add] at hr; exact hr))
    show ch (catS G 0 S) (2 + hf * hs + (total rs + k)) = _
    rw [hg (total rs + k) (by omega)])
  simpa using this
theorem half_far {hs hf k : Nat} {i : Int} (hi : i < 2) : 2 + ((hf * hs : Nat) : Int) + (k : Int) ≠ i := by omega
theorem Good.opened (h : Good G hs life b c hf first since rs) (hl : life ≤ 1099511627776) (hfi : first ≤ 1099511627776) : Good (appl G [((life + 1) % 2, headB (life + 1) (hf : Int) first since)]) hs (life + 1) life (life + 1) hf first since rs := by
  have l1 := h.l1
  have h1 := h.h1
  have eG : ∀ i, i ≠ (life + 1) % 2 → appl G [((life + 1) % 2, headB (life + 1) (hf : Int) first since)] i = G i := fun i hi => by simp [appl, hi]
  have eH : ∀ hf' k, halfAt (appl G [((life + 1) % 2, headB (life + 1) (hf : Int) first since)]) hs hf' k = halfAt G hs hf' k := fun hf' k => eG _ (half_far (by omega))
  refine ⟨by simp [appl], ?_, Lies.same h.lies (fun k _ _ => eH hf k), h.fit, h.rise.more (by omega), h.ok, fun k h2 h3 x hx => ?_, fun k h2 x hx => ?_, fun l ys hr => ?_, by omega, by omega, by omega, h.f1, h.s1, by have := h.sl; omega, h.h1⟩
  · intro x hx
    rw [show life + 1 - 1 = life by omega, eG _ (by omega), h.hd, rdHead_head h.l1 hl (by omega) (by omega) h.f1 hfi h.s1 (Int.le_trans h.sl hl)] at hx
    injection hx with hx
    subst hx
    show life < life + 1
    omega
  · rw [eH] at hx
    exact Int.le_trans (h.gar k h2 h3 x hx) h.hb
  · rw [eH] at hx
    exact Int.le_trans (h.oth k h2 x hx) h.hc
  · exact h.stop l ys (rdRec_congr (fun k _ _ => (eH hf _)) hr)
/-- A record more. -/
theorem Good.appended (h : Good G hs life b c hf first since rs) (hbl : b < life) (hl : life ≤ 1099511627776) {ys : List Int} (y0 : 1 ≤ ys.length) (y1 : ys.length ≤ 60000) (hby : ∀ y ∈ ys, 0 ≤ y ∧ y < 256) {K : Nat} (hK : secN ys = K) (hfit : total rs + K ≤ hs) :
    Good (appl G (wsP (2 + ((hf * hs : Nat) : Int) + (total rs : Int)) (recB life (first + (rs.length : Int)) ys) (List.finRange K))) hs life b c hf first since (rs ++ [(life, ys)]) := by
  have l1 := h.l1
  have h1 := h.h1
  have hrec : ∀ k : Nat, k < K → ch (recB life (first + (rs.length : Int)) ys) k = recG life (first + (rs.length : Int)) ys (secN ys) (k : Int) := fun k hk => by
    unfold recB
    rw [show (ys.length + 111) / 112 = K from hK, hK, ch_cat (recG_sec life _ hby K) 0 K k hk, Int.zero_add]
  have eLow : ∀ i, i < 2 → appl G (wsP (2 + ((hf * hs : Nat) : Int) + (total rs : Int)) (recB life (first + (rs.length : Int)) ys) (List.finRange K)) i = G i := fun i hi => by rw [appl_write, if_neg (by omega)]
  have eH : ∀ k : Nat, k < total rs ∨ total rs + K ≤ k → halfAt (appl G (wsP (2 + ((hf * hs : Nat) : Int) + (total rs : Int)) (recB life (first + (rs.length : Int)) ys) (List.finRange K))) hs hf k = halfAt G hs hf k := fun k hk => by
    unfold halfAt
    rw [appl_write, if_neg (by omega)]
  have eN : ∀ k : Nat, k < K → halfAt (appl G (wsP (2 + ((hf * hs : Nat) : Int) + (total rs : Int)) (recB life (first + (rs.length : Int)) ys) (List.finRange K))) hs hf (total rs + k) = recG life (first + (rs.length : Int)) ys (secN ys) (k : Int) := fun k hk => by
    unfold halfAt
    rw [appl_write, if_pos (by omega), show (2 + ((hf * hs : Nat) : Int) + ((total rs + k : Nat) : Int) - (2 + ((hf * hs : Nat) : Int) + (total rs : Int))).toNat = k by omega, hrec k hk]
  have eO : ∀ k : Nat, k < hs → halfAt (appl G (wsP (2 + ((hf * hs : Nat) : Int) + (total rs : Int)) (recB life (first + (rs.length : Int)) ys) (List.finRange K))) hs (1 - hf) k = halfAt G hs (1 - hf) k := fun k hk => by
    unfold halfAt
    rw [appl_write, if_neg]
    rcases Nat.le_one_iff_eq_zero_or_eq_one.1 h1 with rfl | rfl <;> omega
  have hKs : secN ((life, ys) : Int × List Int).2 = K := hK
  refine ⟨by rw [eLow _ (by omega)]; exact h.hd, by rw [eLow _ (by omega)]; exact h.ho, ?_, by rw [total_snoc, hKs]; exact hfit, h.rise.snoc (h.rise.last h.sl) (Int.le_refl _), ?_, ?_, ?_, ?_, h.hb, h.hc, h.l1, h.f1, h.s1, h.sl, h.h1⟩
  · refine Lies.snoc (Lies.same h.lies (fun k _ hk => eH k (.inl (by omega)))) (fun k hk => ?_)
    rw [Nat.zero_add]
    exact eN k (by rw [hKs] at hk; exact hk)
  · intro q hq
    rcases List.mem_append.1 hq with hq | hq
    · exact h.ok q hq
    · simp only [List.mem_singleton] at hq
      subst hq
      exact ⟨by show 0 ≤ life; omega, hl, y0, y1, hby⟩
  · intro k h2 h3 x hx
    rw [total_snoc, hKs] at h2
    rw [eH k (.inr h2)] at hx
    exact h.gar k (by omega) h3 x hx
  · intro k h2 x hx
    rw [eO k h2] at hx
    exact h.oth k h2 x hx
  · intro l zs hr
    rw [lastLife_snoc]
    rw [total_snoc, hKs] at hr
    obtain ⟨_, h3, ⟨x, hx, e⟩, _⟩ := rdRec_facts _ _ _ _ _ _ hr
    simp only [Nat.add_zero] at hx
    rw [eH _ (.inr (Nat.le_refl _))] at hx
    have := h.gar (total rs + K) (by omega) (by omega) x hx
    show l < life
    omega
/-- Some of the sectors of a record that was being appended: it is not there. -/
theorem Good.lost (h : Good G hs life b c hf first since rs) (hbl : b < life) (hl : life ≤ 1099511627776) (hq : first + (rs.length : Int) ≤ 1099511627776) {ys : List Int} (y0 : 1 ≤ ys.length) (y1 : ys.length ≤ 60000) {K j : Nat} (hK : secN ys = K) (hfit : total rs + K ≤ hs) (hj : j < K) {G' : Int → List Int}
    (hG' : ∀ i, G' i = G i ∨ ∃ k : Nat, k < j ∧ i = 2 + ((hf * hs : Nat) : Int) + ((total rs + k : Nat) : Int) ∧ G' i = recG life (first + (rs.length : Int)) ys K (k : Int)) : Good G' hs life life c hf first since rs := by
  have l1 := h.l1
  have h1 := h.h1
  have f1 := h.f1
  have hKd : K = (ys.length + 111) / 112 := hK.symm
  have eLow : ∀ i, i < 2 → G' i = G i := fun i hi => by
    rcases hG' i with e | ⟨k, _, e, _⟩
    · exact e
    · omega
  have eH : ∀ k : Nat, k < total rs → halfAt G' hs hf k = halfAt G hs hf k := fun k hk => by
    rcases hG' (2 + ((hf * hs : Nat) : Int) + (k : Int)) with e | ⟨k', _, e, _⟩
    · exact e
    · omega
  have eO : ∀ k : Nat, k < hs → halfAt G' hs (1 - hf) k = halfAt G hs (1 - hf) k := fun k hk => by
    rcases hG' (2 + (((1 - hf) * hs : Nat) : Int) + (k : Int)) with e | ⟨k', hk', e, _⟩
    · exact e
    · exfalso
      rcases Nat.le_one_iff_eq_zero_or_eq_one.1 h1 with rfl | rfl <;> omega
  have eN : ∀ k : Nat, halfAt G' hs hf (total rs + k) = halfAt G hs hf (total rs + k) ∨ (k < j ∧ rdPiece (halfAt G' hs hf (total rs + k)) = some (life, first + (rs.length : Int), (k : Int), false, 112)) := fun k => by
    rcases hG' (2 + ((hf * hs : Nat) : Int) + ((total rs + k : Nat) : Int)) with e | ⟨k', hk', e, e2⟩
    · exact .inl e
    · have : k' = k := by omega
      subst this
      right
      refine ⟨hk', ?_⟩
      have hlen : ((ys.drop (112 * k')).take 112).length = 112 := by rw [List.length_take, List.length_drop]; omega
      show rdPiece (G' _) = _
      rw [e2]
      unfold recG
      rw [Int.toNat_natCast, rdPiece_piece (by omega) hl (by omega) hq (by omega) (by omega) (by rw [hlen]; decide) (by rw [hlen]; decide) (fun _ => hlen), hlen]
      rw [decide_eq_false (show ¬ k' = K - 1 by omega)]
  refine ⟨by rw [eLow _ (by omega)]; exact h.hd, by rw [eLow _ (by omega)]; exact h.ho, Lies.same h.lies (fun k _ hk => eH k (by omega)), h.fit, h.rise, h.ok, ?_, ?_, ?_, Int.le_refl _, h.hc, h.l1, h.f1, h.s1, h.sl, h.h1⟩
  · intro k h2 h3 x hx
    rcases eN (k - total rs) with e | ⟨_, e⟩
    · rw [show total rs + (k - total rs) = k by omega] at e
      rw [e] at hx
      have := h.gar k h2 h3 x hx
      omega
    · rw [show total rs + (k - total rs) = k by omega, hx] at e
      injection e with e
      subst e
      exact Int.le_refl _
  · intro k h2 x hx
    rw [eO k h2] at hx
    exact h.oth k h2 x hx
  · intro l zs hr
    obtain ⟨_, h3, _, k, q, p, n, h4, h5, h6⟩ := rdRec_facts _ _ _ _ _ _ hr
    have hne : l ≠ life := by
      rintro rfl
      rcases eN k with e | ⟨_, e⟩
      · rw [e] at h6
        have := h.gar (total rs + k) (by omega) (by omega) _ h6
        simp only at this
        omega
      · rw [e] at h6
        simp at h6
    exact h.stop l zs (rdRec_same (life' := life) _ _ _ _ _ _ (fun k' _ _ => by
      rcases eN k' with e | ⟨_, e⟩
      · exact .inl e
      · exact .inr ⟨_, e, rfl⟩) hne hr)
theorem appl_wsL_out : ∀ (ps : List (List Int)) (at' : Int) (G : Int → List Int) (i : Int), (i < at' ∨ at' + (secsL ps : Int) ≤ i) → appl G (wsL at' ps) i = G i
  | [], _, _, _, _ => rfl
  | xs :: t, at', G, i, h => by
    simp only [secsL] at h
    simp only [wsL]
    rw [appl_append, appl_wsL_out t _ _ i (by omega), appl_write, if_neg (by omega)]
theorem laid_lies (life : Int) : ∀ (recs : List (List Int)) (seq : Int) (pos : Nat) (at' : Int) (G : Int → List Int), (∀ ys ∈ recs, ∀ y ∈ ys, 0 ≤ y ∧ y < 256) → Lies (fun (k : Nat) => appl G (wsL (at' + (pos : Int)) (laidL life seq recs)) (at' + (k : Int))) pos seq (recs.map fun ys => (life, ys))
  | [], _, _, _, _, _ => trivial
  | ys :: t, seq, pos, at', G, hby => by
    have hb := hby ys (by simp)
    have hl : (recB life seq ys).length / 128 = secN ys := by rw [recB_len life seq hb]; unfold secN; omega
    simp only [laidL, wsL, hl, List.map_cons]
    refine ⟨fun k hk => ?_, ?_⟩
    · have hk' : k < secN ys := hk
      show appl G _ (at' + ((pos + k : Nat) : Int)) = _
      rw [appl_append, appl_wsL_out _ _ _ _ (.inl (by omega)), wsP_range, hl, appl_range, if_pos (by omega), show (at' + ((pos + k : Nat) : Int) - (at' + (pos : Int))).toNat = k by omega]
      unfold recB
      rw [show (ys.length + 111) / 112 = secN ys from rfl, ch_cat (recG_sec life _ hb (secN ys)) 0 (secN ys) k hk', Int.zero_add]
    · have ih := laid_lies life t (seq + 1) (pos + secN ys) at' (appl G (wsP (at' + (pos : Int)) (recB life seq ys) (List.finRange ((recB life seq ys).length / 128)))) (fun x hx => hby x (by simp [hx]))
      refine Lies.same ih (fun k _ _ => ?_)
      show appl G _ _ = _
      rw [appl_append, show at' + (pos : Int) + (secN ys : Int) = at' + ((pos + secN ys : Nat) : Int) by push_cast; omega]
theorem total_map (life : Int) : ∀ recs : List (List Int), total (recs.map fun ys => (life, ys)) = secR recs
  | [] => rfl
  | ys :: t => by simp only [List.map_cons, total, secR, total_map life t]; rfl
theorem rise_map (life : Int) : ∀ recs : List (List Int), Rise life life (recs.map fun ys => (life, ys))
  | [] => trivial
  | _ :: t => ⟨Int.le_refl _, Int.le_refl _, rise_map life t⟩
theorem last_map (life : Int) : ∀ recs : List (List Int), lastLife life (recs.map fun ys => (life, ys)) = life
  | [] => rfl
  | _ :: t => last_map life t
/-- Rewritten. -/
theorem Good.rewritten (h : Good G hs life b c hf first since rs) (hcl : c ≤ life) (hl : life < 1099511627776) (hfi : first ≤ 1099511627776) {recs : List (List Int)} (hr : ∀ ys ∈ recs, 1 ≤ ys.length ∧ ys.length ≤ 60000 ∧ ∀ y ∈ ys, 0 ≤ y ∧ y < 256) (hT : secR recs ≤ hs) :
    Good (appl (appl G (wsL (2 + (((1 - hf) * hs : Nat) : Int)) (laidL (life + 1) (first + (rs.length : Int)) recs))) [((life + 1) % 2, headB (life + 1) ((1 - hf : Nat) : Int) (first + (rs.length : Int)) (life + 1))]) hs (life + 1) life (life + 1) (1 - hf) (first + (rs.length : Int)) (life + 1) (recs.map fun ys => (life + 1, ys)) := by
  have l1 := h.l1
  have h1 := h.h1
  have f1 := h.f1
  have hsl := secsL_laid (life + 1) (first + (rs.length : Int)) recs (fun ys hy => (hr ys hy).2.2)
  obtain ⟨G1, hG1⟩ : ∃ X, Hid (appl G (wsL (2 + (((1 - hf) * hs : Nat) : Int)) (laidL (life + 1) (first + (rs.length : Int)) recs)) = X) := ⟨_, rfl⟩
  have out : ∀ i, (i < 2 + (((1 - hf) * hs : Nat) : Int) ∨ 2 + (((1 - hf) * hs : Nat) : Int) + (secR recs : Int) ≤ i) → G1 i = G i := fun i hi => by rw [← hG1.out]; exact appl_wsL_out _ _ _ _ (by rw [hsl]; exact hi)
  have hlie : Lies (halfAt G1 hs (1 - hf)) 0 (first + (rs.length : Int)) (recs.map fun ys => (life + 1, ys)) := by
    have := laid_lies (life + 1) recs (first + (rs.length : Int)) 0 (2 + (((1 - hf) * hs : Nat) : Int)) G (fun ys hy => (hr ys hy).2.2)
    refine Lies.same this (fun k _ _ => ?_)
    show G1 _ = _
    rw [← hG1.out, show 2 + (((1 - hf) * hs : Nat) : Int) + ((0 : Nat) : Int) = 2 + (((1 - hf) * hs : Nat) : Int) by omega]
  rw [hG1.out]
  have eG : ∀ i, i ≠ (life + 1) % 2 → appl G1 [((life + 1) % 2, headB (life + 1) ((1 - hf : Nat) : Int) (first + (rs.length : Int)) (life + 1))] i = G1 i := fun i hi => by simp [appl, hi]
  have eH : ∀ hf' k, halfAt (appl G1 [((life + 1) % 2, headB (life + 1) ((1 - hf : Nat) : Int) (first + (rs.length : Int)) (life + 1))]) hs hf' k = halfAt G1 hs hf' k := fun hf' k => eG _ (half_far (by omega))
  refine ⟨by simp [appl], ?_, Lies.same hlie (fun k _ _ => eH _ k), by rw [total_map]; exact hT, rise_map _ _, ?_, ?_, ?_, ?_, by omega, by omega, by omega, by omega, by omega, by omega, by omega⟩
  · intro x hx
    rw [show life + 1 - 1 = life by omega, eG _ (by omega), out _ (.inl (by omega)), h.hd, rdHead_head h.l1 (by omega) (by omega) (by omega) h.f1 hfi h.s1 (by have := h.sl; omega)] at hx
    injection hx with hx
    subst hx
    show life < life + 1
    omega
  · intro q hq
    obtain ⟨ys, hy, rfl⟩ := List.mem_map.1 hq
    exact ⟨by show 0 ≤ life + 1; omega, by show life + 1 ≤ _; omega, (hr ys hy).1, (hr ys hy).2.1, (hr ys hy).2.2⟩
  · intro k h2 h3 x hx
    rw [total_map] at h2
    rw [eH] at hx
    have e : halfAt G1 hs (1 - hf) k = halfAt G hs (1 - hf) k := out _ (.inr (by omega))
    rw [e] at hx
    exact Int.le_trans (h.oth k h3 x hx) hcl
  · intro k h2 x hx
    rw [eH] at hx
    have e11 : 1 - (1 - hf) = hf := by omega
    rw [e11] at hx
    have e : halfAt G1 hs hf k = halfAt G hs hf k := out _ (by
      rcases Nat.le_one_iff_eq_zero_or_eq_one.1 h1 with rfl | rfl <;> omega)
    rw [e] at hx
    by_cases hk : k < total rs
    · obtain ⟨q, hq, s', i', e2⟩ := h.lies.piece k (by omega) (by omega)
      rw [e2] at hx
      have hok := h.ok q hq
      have := life_piece hok.l0 hok.l1 hx
      have := h.rise.le q hq
      omega
    · have := h.gar k (by omega) h2 x hx
      have := h.hb
      omega
  · intro l zs hrr
    rw [last_map]
    rw [total_map] at hrr
    obtain ⟨_, h3, ⟨x, hx, e⟩, _⟩ := rdRec_facts _ _ _ _ _ _ hrr
    simp only [Nat.add_zero] at hx
    rw [eH] at hx
    have e2 : halfAt G1 hs (1 - hf) (secR recs) = halfAt G hs (1 - hf) (secR recs) := out _ (.inr (by omega))
    rw [e2] at hx
    have := h.oth (secR recs) (by omega) x hx
    omega
/-- Whatever was written to the other half. -/
theorem Good.spoiled (h : Good G hs life b c hf first since rs) (hcl : c ≤ life) (hl : life < 1099511627776) {G' : Int → List Int} (hG' : ∀ i, G' i = G i ∨ ∃ k : Nat, k < hs ∧ i = 2 + (((1 - hf) * hs : Nat) : Int) + (k : Int) ∧ ∃ s ys K j, G' i = recG (life + 1) s ys K j) : Good G' hs life b (life + 1) hf first since rs := by
  have l1 := h.l1
  have h1 := h.h1
  have eLow : ∀ i, i < 2 → G' i = G i := fun i hi => by
    rcases hG' i with e | ⟨k, _, e, _⟩
    · exact e
    · omega
  have eH : ∀ k : Nat, k < hs → halfAt G' hs hf k = halfAt G hs hf k := fun k hk => by
    rcases hG' (2 + ((hf * hs : Nat) : Int) + (k : Int)) with e | ⟨k', hk', e, _⟩
    · exact e
    · exfalso
      rcases Nat.le_one_iff_eq_zero_or_eq_one.1 h1 with rfl | rfl <;> omega
  have hfit := h.fit
  refine ⟨by rw [eLow _ (by omega)]; exact h.hd, by rw [eLow _ (by omega)]; exact h.ho, Lies.same h.lies (fun k _ hk => eH k (by omega)), h.fit, h.rise, h.ok, ?_, ?_, ?_, h.hb, by omega, h.l1, h.f1, h.s1, h.sl, h.h1⟩
  · intro k h2 h3 x hx
    rw [eH k h3] at hx
    exact h.gar k h2 h3 x hx
  · intro k h2 x hx
    rcases hG' (2 + (((1 - hf) * hs : Nat) : Int) + (k : Int)) with e | ⟨k', _, _, s', ys, K, j, e⟩
    · have e' : halfAt G' hs (1 - hf) k = halfAt G hs (1 - hf) k := e
      rw [e'] at hx
      have := h.oth k h2 x hx
      omega
    · have e' : halfAt G' hs (1 - hf) k = recG (life + 1) s' ys K j := e
      rw [e'] at hx
      have := life_piece (by omega) (by omega) hx
      omega
  · intro l zs hr
    exact h.stop l zs (rdRec_congr (fun k _ hk => eH _ (by omega)) hr)
/-- What is new. -/
theorem Good.fresh {G : Int → List Int} {hs : Nat} (g0 : G 0 = headB 2 0 1 1) (g1 : G 1 = headB 1 0 1 1) (g2 : ∀ i, 2 ≤ i → G i = z128) : Good G hs 2 1 2 0 1 1 [] := by
  have z : ∀ hf k, halfAt G hs hf k = z128 := fun hf k => g2 _ (by omega)
  refine ⟨g0, ?_, trivial, Nat.zero_le _, trivial, (fun q hq => by cases hq), ?_, ?_, ?_, by decide, by decide, by decide, by decide, by decide, by decide, by decide⟩
  · intro x hx
    rw [show ((2 : Int) - 1) % 2 = 1 by decide, g1, rdHead_head (by decide) (by decide) (by decide) (by decide) (by decide) (by decide) (by decide) (by decide)] at hx
    injection hx with hx
    subst hx
    decide
  · intro k _ _ x hx
    rw [z, rdPiece_zero] at hx
    cases hx
  · intro k _ x hx
    rw [z, rdPiece_zero] at hx
    cases hx
  · intro l ys hr
    rw [rdRec_none (g := fun k => halfAt G hs 0 (total [] + k)) (z 0 _)] at hr
    cases hr
end
end Go.Proofs.Ytofgphiamllmdab

namespace Go.Proofs.Ytofgphiamllmdab
open Go.RowKit
set_option maxRecDepth 100000

structure Live (w : World) (n₀ p bs bn lb S hs : Nat) (G : Int → List Int) (left life : Int) (hf : Nat) (first since : Int) (rs : List (Int × List Int)) : Prop where
  D : Dev w n₀ p bs bn (.slice none 0 0) (S : Int) G G [] left false
  L : w.heap[lb]? = some (logO p life (hf : Int) first since (first + (rs.length : Int)) (hs : Int) (total rs : Int) false)
  g : Good G hs life (life - 1) life hf first since rs
  lb0 : n₀ ≤ lb
  lf0 : 0 ≤ left
  lf1 : left ≤ 1000
/-- A device that died: whatever stays, the records are there. -/
structure Dying (w : World) (n₀ p bs bn S hs : Nat) (life : Int) (hf : Nat) (first since : Int) (rs : List (Int × List Int)) : Prop where
  D : ∃ pv G0 G1 L, Dev w n₀ p bs bn pv (S : Int) G0 G1 L 1 true ∧ (∀ i, G1 i = appl G0 L i) ∧ L.length ≤ 1000000 ∧ ∀ ks, Good (appl G0 (keptL L ks)) hs life life (life + 1) hf first since rs
theorem wsP_one {at' : Int} {xs : List Int} (h : xs.length = 128) : wsP at' xs (List.finRange 1) = [(at', xs)] := by
  rw [wsP_range]
  show [(at' + ((0 : Nat) : Int), ch xs 0)] = _
  rw [ch_one h]
  simp
theorem Good.weak {G : Int → List Int} {hs : Nat} {life b c b' c' : Int} {hf : Nat} {first since : Int} {rs : List (Int × List Int)} (h : Good G hs life b c hf first since rs) (h1 : b ≤ b') (h2 : b' ≤ life) (h3 : c ≤ c') (h4 : c' ≤ life + 1) : Good G hs life b' c' hf first since rs :=
  ⟨h.hd, h.ho, h.lies, h.fit, h.rise, h.ok, fun k a b x e => Int.le_trans (h.gar k a b x e) h1, fun k a x e => Int.le_trans (h.oth k a x e) h3, h.stop, h2, h4, h.l1, h.f1, h.s1, h.sl, h.h1⟩
section
variable {w : World} {n₀ p bs bn lb S hs : Nat} {G : Int → List Int} {left life b c : Int} {hf : Nat} {first since : Int} {rs : List (Int × List Int)}
theorem Live.below {w' : World} (h : Live w n₀ p bs bn lb S hs G left life hf first since rs) (B : Below w.heap.size w w') : Live w' n₀ p bs bn lb S hs G left life hf first since rs :=
  ⟨h.D.same (fun i hi => B.block i hi), (B.block lb (lt_of_block h.L)).trans h.L, h.g, h.lb0, h.lf0, h.lf1⟩
theorem open_live (D : Dev w n₀ p bs bn (.slice none 0 0) (S : Int) G G [] 0 false) (g : Good G hs life b c hf first since rs) (hS0 : 4 ≤ S) (hS1 : S ≤ 4096) (hhs : hs = (S - 2) / 2) (hl : life ≤ 1000000) (hq : first + (rs.length : Int) ≤ 1000000) :
    Calls Try.prog 42 #[.pointer (some ⟨p, 0, none⟩)] w fun e w' => ∃ lb v G', e = .returned (.tuple #[.pointer (some ⟨lb, 0, none⟩), v, .int .i64 0]) ∧ w.heap.size ≤ lb ∧ Live w' n₀ p bs bn lb S hs G' 0 (life + 1) hf first since rs ∧ Recs w' w.heap.size v (rs.map (·.2)) ∧ Fr p bs bn w (.slice none 0 0) w' (.slice none 0 0) := by
  have f1 := g.f1
  have l1 := g.l1
  have hG : ∀ k, IsSec (G k) := fun k => D.now.isSec k
  refine (open_ok (S := S) (hs := hs) D hS0 hS1 hhs (by simp) (g.newer (by omega) (by omega)) (by omega) (by omega) (hf := hf) rfl g.h1 (by omega) (by omega) (g.log hG (by omega) (by omega)) (by omega)).mono ?_
  rintro e w3 ⟨lb, v3, rfl, hlb, L3, RC3, D3, F3⟩
  rw [List.nil_append, wsP_one (headB_sec _ _ _ _).len] at D3
  exact ⟨lb, v3, _, rfl, hlb, ⟨D3, L3, (g.opened (by omega) (by omega)).weak (by omega) (by omega) (by omega) (by omega), by have := D.base; omega, by decide, by decide⟩, RC3, F3⟩
theorem keptL_mem {L : List (Int × List Int)} {ks : List Bool} {q : Int × List Int} (h : q ∈ keptL L ks) : q ∈ L := by
  unfold keptL at h
  obtain ⟨x, hx, rfl⟩ := List.mem_map.1 h
  have := (List.mem_filter.1 hx).1
  exact (List.mem_zipIdx' this).2 ▸ List.getElem_mem _
theorem take_mem {at' : Int} {xs : List Int} {m j : Nat} {q : Int × List Int} (h : q ∈ (wsP at' xs (List.finRange m)).take j) : ∃ k : Nat, k < j ∧ k < m ∧ q = (at' + (k : Int), ch xs k) := by
  rw [wsP_range] at h
  obtain ⟨k, hk, rfl⟩ := List.getElem_of_mem h
  rw [List.length_take, List.length_map, List.length_range] at hk
  exact ⟨k, by omega, by omega, by simp⟩
theorem append_live (h : Live w n₀ p bs bn lb S hs G left life hf first since rs) (hS0 : 4 ≤ S) (hS1 : S ≤ 4096) (hhs : hs = (S - 2) / 2) (hl : life ≤ 1000000) (hq : first + (rs.length : Int) ≤ 1000000) {v : Value} {ys : List Int} (hv : SlB w v ys) :
    Calls Try.prog 16 #[.pointer (some ⟨lb, 0, none⟩), v] w fun e w' =>
      (e = .returned (.int .i64 0) ∧ (∃ G' left', Live w' n₀ p bs bn lb S hs G' left' life hf first since (rs ++ [(life, ys)])) ∧ Fl lb p bs bn w (.slice none 0 0) w') ∨
      (e = .returned (.int .i64 4) ∧ Below w.heap.size w w') ∨
      (e = .returned (.int .i64 14) ∧ Dying w' n₀ p bs bn S hs life hf first since rs ∧ Fl lb p bs bn w (.slice none 0 0) w') := by
  obtain ⟨⟨gb, go, cc, rfl, hcc, hgb, hcell⟩, hby, y0, y1⟩ := hv
  have g := h.g
  have f1 := g.f1
  have l1 := g.l1
  have h1 := g.h1
  have hfit := g.fit
  have lf0 := h.lf0
  have lf1 := h.lf1
  have hlen := len_total g.ok
  have hKd : secN ys = (ys.length + 111) / 112 := rfl
  by_cases hroom : total rs + secN ys ≤ hs
  · refine (append_any (K := secN ys) (ys := ys) h.D h.L (by omega) (by simp) (by omega) (by omega) (by omega) (by omega) (by omega) (by omega) (by omega) (by omega) rfl (by omega) y1 hcc hgb hby hcell rfl (by omega) (2 + ((hf * hs : Nat) : Int) + (total rs : Int)) (by rw [Int.natCast_mul]) (by
      rcases Nat.le_one_iff_eq_zero_or_eq_one.1 h1 with rfl | rfl <;> omega)).mono ?_
    rintro e w' (⟨rfl, ho, D6, L6, F6⟩ | ⟨rfl, j, pv', hj, ho, D6, L6, F6⟩)
    · rw [List.nil_append] at D6
      refine .inl ⟨rfl, ⟨_, _, D6, ?_, g.appended (by omega) (by omega) y0 y1 hby rfl hroom, h.lb0, by omega, by omega⟩, F6⟩
      rw [total_snoc, List.length_append]
      simp only [List.length_cons, List.length_nil]
      rw [show first + ((rs.length + (0 + 1) : Nat) : Int) = first + (rs.length : Int) + 1 by omega, show ((total rs + secN ((life, ys) : Int × List Int).2 : Nat) : Int) = (total rs : Int) + (secN ys : Int) by push_cast; rfl]
      exact L6
    · rw [List.nil_append] at D6
      refine .inr (.inr ⟨rfl, ⟨_, _, _, _, D6, fun i => rfl, by rw [List.length_take]; omega, fun ks => ?_⟩, F6⟩)
      refine (g.lost (by omega) (by omega) (by omega) y0 y1 rfl hroom hj (fun i => ?_)).weak (Int.le_refl _) (Int.le_refl _) (by omega) (Int.le_refl _)
      rcases appl_or (keptL ((wsP (2 + ((hf * hs : Nat) : Int) + (total rs : Int)) (recB life (first + (rs.length : Int)) ys) (List.finRange (secN ys))).take j) ks) G i with e | ⟨q, hq1, rfl, e⟩
      · exact .inl e
      · obtain ⟨k, hk1, hk2, rfl⟩ := take_mem (keptL_mem hq1)
        refine .inr ⟨k, hk1, by show 2 + ((hf * hs : Nat) : Int) + (total rs : Int) + (k : Int) = _; omega, e.trans ?_⟩
        show ch (recB life (first + (rs.length : Int)) ys) k = _
        unfold recB
        rw [show (ys.length + 111) / 112 = secN ys from rfl, ch_cat (recG_sec life _ hby (secN ys)) 0 (secN ys) k hk2, Int.zero_add]
  · refine (append_full (K := secN ys) h.L (by omega) (by omega) (by omega) (by omega) (by omega) y1 rfl (by omega)).mono ?_
    rintro e w' ⟨rfl, B⟩
    exact .inr (.inl ⟨rfl, B⟩)
end
end Go.Proofs.Ytofgphiamllmdab

namespace Go.Proofs.Ytofgphiamllmdab
open Go.RowKit
set_option maxRecDepth 100000
section
variable {w : World} {n₀ p bs bn lb S hs : Nat} {G : Int → List Int} {left life : Int} {hf : Nat} {first since : Int} {rs : List (Int × List Int)}
set_option maxHeartbeats 4000000 in
theorem rewrite_full {half seq hs used : Int} (hl0 : w.heap[lb]? = some (logO p life half first since seq hs used false)) (hq0 : 0 ≤ seq) (hq1 : seq ≤ 1099511627776) {ra : Option Addr} {m rc : Nat} {recs : List (List Int)} (hrs : SlL w ra recs) (hm : recs.length = m) (hm1 : m ≤ 4096) {T : Nat} (hT : secR recs = T) (hT1 : T ≤ 10000000) (hTs : hs < (T : Int)) :
    Calls Try.prog 22 #[.pointer (some ⟨lb, 0, none⟩), .slice ra m rc] w fun e w' => e = .returned (.int .i64 4) ∧ w = w' := by
  have hws : IntKind.i64.wrap (seq + (m : Int)) = seq + (m : Int) := by rw [IntKind.wrap_i64]; omega
  replace hT : Hid (secR recs = T) := hT
  go_enter Try.func22, Try.ntmps22
  go_wp2_with fail
  refine (may_any (c := rc) hl0 hrs hm hm1).mono ?_
  rintro e w2 ⟨rfl, rfl⟩
  obtain ⟨c0, c1, c2, c3, c4, c5, c6, c7, c8, cf⟩ := log_cells hl0
  go_wp2
  go_loopw [6, 22] (fun uv iv wr => ∃ i : Nat, i ≤ m ∧ iv = .int .i64 (i : Int) ∧ uv = .int .i64 (secR (recs.take i) : Int) ∧ wr = w) (fun _ iv _ => m - (intOf iv).toNat)
  case atStart => exact ⟨0, by omega, rfl, by simp [secR], rfl⟩
  case round =>
    obtain ⟨i, hi, rfl, rfl, rfl⟩ := hrel
    by_cases him : i = m
    · have et : recs.take i = recs := List.take_of_length_le (by omega)
      rw [et, hT.out]
      have him' := him.symm
      clear him
      subst him'
      have hl2 : ¬ (m : Int) < (m : Int) := by omega
      have b2 : decide (hs < (T : Int)) = true := by simp [hTs]
      go_wp2
      go_ret
      exact ⟨rfl, rfl⟩
    · have hl2 : (i : Int) < (m : Int) := by omega
      obtain ⟨ys, hys⟩ : ∃ ys, recs[i]? = some ys := ⟨_, List.getElem?_eq_getElem (by omega)⟩
      obtain ⟨b, off, x, rfl, hb, hx, ⟨⟨g, o, cc, rfl, _⟩, _, y0, y1⟩⟩ := hrs.cell i ys hys
      have esum : secR (recs.take (i + 1)) = secR (recs.take i) + (ys.length + 111) / 112 := by
        rw [List.take_add_one, hys]
        exact secR_snoc _ _
      have hle := secR_take recs (i + 1)
      rw [hT.out] at hle
      obtain ⟨k, hk⟩ : ∃ k : Nat, Hid ((ys.length + 111) / 112 = k) := ⟨_, rfl⟩
      have hks : secs (ys.length : Int) = (k : Int) := by
        have := hk.out
        unfold secs
        rw [if_neg (by omega)]
        omega
      rw [hk.out] at esum
      obtain ⟨t, ht⟩ : ∃ t : Nat, Hid (secR (recs.take i) = t) := ⟨_, rfl⟩
      rw [ht.out] at esum ⊢
      have hw1 : IntKind.i64.wrap ((i : Int) + 1) = (i : Int) + 1 := by rw [IntKind.wrap_i64]; omega
      have hw2 : IntKind.i64.wrap ((t : Int) + (k : Int)) = (t : Int) + (k : Int) := by rw [IntKind.wrap_i64]; omega
      have fin : ∃ i' : Nat, i' ≤ m ∧ Value.int .i64 ((i : Int) + 1) = .int .i64 (i' : Int) ∧ Value.int .i64 ((t : Int) + (k : Int)) = .int .i64 (secR (recs.take i') : Int) := ⟨i + 1, by omega, by push_cast; rfl, by rw [esum]; push_cast; rfl⟩
      clear esum hle
      go_wp2_with fail
      refine (sectors_any (ys.length : Int) wr).mono ?_
      rintro e w1 ⟨rfl, rfl⟩
      rw [hks]
      go_wp2
      go_roundw
      case rel =>
        obtain ⟨i', h1, h2, h3⟩ := fin
        exact ⟨i', h1, h2, h3, trivial⟩
      case measure => simp [intOf]; omega
theorem wsL_mem (life : Int) : ∀ (recs : List (List Int)) (seq at' : Int) (q : Int × List Int), (∀ ys ∈ recs, ∀ y ∈ ys, 0 ≤ y ∧ y < 256) → q ∈ wsL at' (laidL life seq recs) → ∃ k : Nat, k < secR recs ∧ q.1 = at' + (k : Int) ∧ ∃ s ys K j, q.2 = recG life s ys K j
  | [], _, _, _, _, h => by cases h
  | ys :: t, seq, at', q, hby, h => by
    have hb := hby ys (by simp)
    have hl : (recB life seq ys).length / 128 = secN ys := by rw [recB_len life seq hb]; unfold secN; omega
    have hsn : secN ys = (ys.length + 111) / 112 := rfl
    simp only [laidL, wsL, secR] at h ⊢
    rcases List.mem_append.1 h with h | h
    · rw [wsP_range, hl] at h
      obtain ⟨k, hk, rfl⟩ := List.mem_map.1 h
      have hk' : k < secN ys := List.mem_range.1 hk
      refine ⟨k, by omega, rfl, seq, ys, secN ys, (k : Int), ?_⟩
      show ch (recB life seq ys) k = _
      unfold recB
      rw [show (ys.length + 111) / 112 = secN ys from rfl, ch_cat (recG_sec life _ hb (secN ys)) 0 (secN ys) k hk', Int.zero_add]
    · rw [hl] at h
      obtain ⟨k, hk, e, r⟩ := wsL_mem life t (seq + 1) _ q (fun x hx => hby x (by simp [hx])) h
      exact ⟨secN ys + k, by omega, by rw [e]; push_cast; omega, r⟩
theorem rewrite_live (h : Live w n₀ p bs bn lb S hs G left life hf first since rs) (hS0 : 4 ≤ S) (hS1 : S ≤ 4096) (hhs : hs = (S - 2) / 2) (hl : life ≤ 1000000) (hq : first + (rs.length : Int) ≤ 1000000) {ra : Option Addr} {m rc : Nat} {recs : List (List Int)} (hrs : SlL w ra recs) (hm : recs.length = m) (hm1 : m ≤ 4096) (hT1 : secR recs ≤ 10000000) :
    Calls Try.prog 22 #[.pointer (some ⟨lb, 0, none⟩), .slice ra m rc] w fun e w' =>
      (e = .returned (.int .i64 0) ∧ (∃ G' left', Live w' n₀ p bs bn lb S hs G' left' (life + 1) (1 - hf) (first + (rs.length : Int)) (life + 1) (recs.map fun ys => (life + 1, ys))) ∧ Fl lb p bs bn w (.slice none 0 0) w') ∨
      (e = .returned (.int .i64 4) ∧ w = w') ∨
      (e = .returned (.int .i64 14) ∧ Dying w' n₀ p bs bn S hs life hf first since rs ∧ Fl lb p bs bn w (.slice none 0 0) w') := by
  have g := h.g
  have f1 := g.f1
  have l1 := g.l1
  have h1 := g.h1
  have lf0 := h.lf0
  have lf1 := h.lf1
  have hr : ∀ ys ∈ recs, 1 ≤ ys.length ∧ ys.length ≤ 60000 ∧ ∀ y ∈ ys, 0 ≤ y ∧ y < 256 := fun ys hy => by
    obtain ⟨i, hi, rfl⟩ := List.getElem_of_mem hy
    obtain ⟨_, _, _, _, _, _, hB⟩ := hrs.cell i _ (List.getElem?_eq_getElem hi)
    exact ⟨hB.y0, hB.y1, hB.byte⟩
  have est : 2 + (1 - (hf : Int)) * (hs : Int) = 2 + (((1 - hf) * hs : Nat) : Int) := by
    rcases Nat.le_one_iff_eq_zero_or_eq_one.1 h1 with rfl | rfl <;> simp
  have ehf : 1 - (hf : Int) = ((1 - hf : Nat) : Int) := by omega
  have hsub : ∀ (L : List (Int × List Int)), (∀ q ∈ L, q ∈ wsL (2 + (((1 - hf) * hs : Nat) : Int)) (laidL (life + 1) (first + (rs.length : Int)) recs)) → secR recs ≤ hs → Good (appl G L) hs life life (life + 1) hf first since rs := fun L hL hT => by
    refine (g.spoiled (Int.le_refl _) (by omega) (fun i => ?_)).weak (by omega) (Int.le_refl _) (Int.le_refl _) (Int.le_refl _)
    rcases appl_or L G i with e | ⟨q, hq1, rfl, e⟩
    · exact .inl e
    · obtain ⟨k, hk, e1, s, ys, K, j, e2⟩ := wsL_mem (life + 1) recs _ _ q (fun ys hy => (hr ys hy).2.2) (hL q hq1)
      exact .inr ⟨k, by omega, e1, s, ys, K, j, e.trans e2⟩
  by_cases hroom : secR recs ≤ hs
  · refine (rewrite_any (rc := rc) h.D h.L (by omega) (by omega) (by simp) lf0 (by omega) (by omega) (by omega) (by omega) (by omega) (by omega) (by omega) hrs hm hm1 (by omega) rfl (by omega) (by
      rw [est]
      rcases Nat.le_one_iff_eq_zero_or_eq_one.1 h1 with rfl | rfl <;> omega)).mono ?_
    rintro e w' (⟨rfl, ho, D6, L6, F6⟩ | ⟨rfl, ⟨j, hj, ho, pv', D6⟩, F6⟩ | ⟨rfl, ho, ⟨pv', D6⟩, F6⟩)
    · rw [List.nil_append, est, ehf] at D6
      rw [ehf] at L6
      refine .inl ⟨rfl, ⟨_, _, D6, ?_, (g.rewritten (Int.le_refl _) (by omega) (by omega) hr hroom).weak (by omega) (by omega) (by omega) (by omega), h.lb0, by omega, by omega⟩, F6⟩
      rw [total_map, List.length_map, hm]
      exact L6
    · rw [List.nil_append, est] at D6
      refine .inr (.inr ⟨rfl, ⟨_, _, _, _, D6, fun i => rfl, by rw [List.length_take]; omega, fun ks => ?_⟩, F6⟩)
      exact hsub _ (fun q hq1 => List.mem_of_mem_take (keptL_mem hq1)) hroom
    · rw [List.nil_append, est] at D6
      refine .inr (.inr ⟨rfl, ⟨_, _, _, _, D6, fun i => rfl, by simp, fun ks => ?_⟩, F6⟩)
      show Good (appl (appl G _) []) _ _ _ _ _ _ _ _
      rw [appl_nil]
      exact hsub _ (fun q hq1 => hq1) hroom
  · refine (rewrite_full h.L (by omega) (by omega) hrs hm hm1 rfl hT1 (by omega)).mono ?_
    rintro e w' ⟨rfl, rfl⟩
    exact .inr (.inl ⟨rfl, rfl⟩)
end
end Go.Proofs.Ytofgphiamllmdab
