/- A record's bytes, read again. -/
import Derived.Test.YtjfaflmmanjjbaaGetR
import Derived.Test.YtjfaflmmanjjbaaBack
import Derived.Test.YtjfaflmmanjjbaaRPutR
namespace Go.Proofs.Ytjfaflmmanjjbaa
open Go.RowKit
set_option maxRecDepth 100000
theorem tR_textL {bs : List Int} (h : bs.length ≤ 60000) (ys : List Int) : tR (some (textB bs ++ ys)) = (bs, some ys) := by
  have := rtx_text bs ys h
  unfold tR
  rw [Option.getD_some, this]
  simp
theorem objR_objYL {c : Int} {vs : List (Int × Int)} {bs : List Int} (h : okO c vs bs.length = true) (ys : List Int) : objR (some (objY c vs bs ++ ys)) = (c, vs, bs, some ys) := by
  obtain ⟨hc, hn, hbn, hvs⟩ := okO_parts h
  have e0 : objY c vs bs ++ ys = uvar c.toNat ++ (uvar vs.length ++ (valsB vs ++ (textB bs ++ ys))) := by unfold objY; simp only [List.append_assoc]
  have e1 : nR 4096 (some (objY c vs bs ++ ys)) = (c.toNat, some (uvar vs.length ++ (valsB vs ++ (textB bs ++ ys)))) := by rw [e0]; exact nR_uvar (by omega) (by omega) _
  have e2 : nR 256 (some (uvar vs.length ++ (valsB vs ++ (textB bs ++ ys)))) = (vs.length, some (valsB vs ++ (textB bs ++ ys))) := nR_uvar (by omega) hn _
  unfold objR
  rw [e1]
  dsimp only
  rw [e2]
  dsimp only
  rw [slotsR_vals hvs]
  dsimp only
  rw [tR_textL (by omega), Int.toNat_of_nonneg (by omega)]
theorem okCh_gone {c : Int} {vs : List (Int × Int)} {bs : List Int} (h : okCh true c vs bs = true) : c = 0 ∧ vs = [] ∧ bs = [] := by
  simpa [okCh, alike, and_assoc] using h
theorem chR_chB {x : Ch} (ho : 0 < x.oop ∧ x.oop ≤ 4096) (h : okCh x.gone x.cls x.vs x.bs = true) (ys : List Int) : chR (some (chB x.oop x.gone x.cls x.vs x.bs ++ ys)) = (x, some ys) := by
  obtain ⟨o, g, c, vs, bs⟩ := x
  dsimp only at ho h ⊢
  have ht : ((o.toNat : Nat) : Int) = o := Int.toNat_of_nonneg (by omega)
  cases g with
  | true =>
    obtain ⟨rfl, rfl, rfl⟩ := okCh_gone h
    have e0 : chB o true 0 [] [] ++ ys = uvar o.toNat ++ (1 :: ys) := by unfold chB; simp
    have e1 : nR 4096 (some (chB o true 0 [] [] ++ ys)) = (o.toNat, some (1 :: ys)) := by rw [e0]; exact nR_uvar (by omega) (by omega) _
    unfold chR
    rw [e1]
    dsimp only
    rw [show oR (some (1 :: ys)) = (1, some ys) from rfl, ht]
    rfl
  | false =>
    have h' : okO c vs bs.length = true := h
    have e0 : chB o false c vs bs ++ ys = uvar o.toNat ++ (0 :: (objY c vs bs ++ ys)) := by unfold chB; simp
    have e1 : nR 4096 (some (chB o false c vs bs ++ ys)) = (o.toNat, some (0 :: (objY c vs bs ++ ys))) := by rw [e0]; exact nR_uvar (by omega) (by omega) _
    unfold chR
    rw [e1]
    dsimp only
    rw [show oR (some (0 :: (objY c vs bs ++ ys))) = (0, some (objY c vs bs ++ ys)) from rfl, ht]
    dsimp only
    rw [objR_objYL h']
    rfl
theorem chsR_chsB : ∀ (xs : List Ch) (ys : List Int), (∀ x ∈ xs, 0 < x.oop ∧ x.oop ≤ 4096 ∧ okCh x.gone x.cls x.vs x.bs = true) → chsR xs.length (some (chsB xs ++ ys)) = (xs, some ys)
  | [], ys, _ => rfl
  | x :: t, ys, h => by
    have hx := h x (by simp)
    have e : chsB (x :: t) ++ ys = chB x.oop x.gone x.cls x.vs x.bs ++ (chsB t ++ ys) := by
      show (chB x.oop x.gone x.cls x.vs x.bs ++ chsB t) ++ ys = _
      rw [List.append_assoc]
    rw [e, List.length_cons, chsR_go (chR_chB ⟨hx.1, hx.2.1⟩ hx.2.2 _), chsR_chsB t ys (fun z hz => h z (by simp [hz]))]
theorem recR_recY {c : Int} {xs : List Ch} (h : okR c xs = true) : recR (some (recY c xs)) = (c, xs, some []) := by
  obtain ⟨hc, hn, hl⟩ := okR_parts h
  have hx := okL_all hl (by omega)
  have e0 : recY c xs = uvar c.toNat ++ (uvar xs.length ++ (chsB xs ++ [])) := by unfold recY; simp
  have e1 : nR 1099511627776 (some (recY c xs)) = (c.toNat, some (uvar xs.length ++ (chsB xs ++ []))) := by rw [e0]; exact nR_uvar (by omega) (by omega) _
  have e2 : nR 4096 (some (uvar xs.length ++ (chsB xs ++ []))) = (xs.length, some (chsB xs ++ [])) := nR_uvar (by omega) (by omega) _
  unfold recR
  rw [e1]
  dsimp only
  rw [e2]
  dsimp only
  rw [chsR_chsB xs [] hx, Int.toNat_of_nonneg (by omega)]
theorem okGR_recY {c : Int} {xs : List Ch} (h : okR c xs = true) : okGR (recY c xs) = true := by
  unfold okGR
  rw [recR_recY h]
  simp [h]
end Go.Proofs.Ytjfaflmmanjjbaa
