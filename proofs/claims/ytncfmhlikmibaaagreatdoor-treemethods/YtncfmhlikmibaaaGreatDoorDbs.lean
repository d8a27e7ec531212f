/- A block and a pattern as the document's parser meets them. -/
import Derived.Test.YtncfmhlikmibaaaGreatDoorRxP
import Derived.WalkKit
import Derived.Laws.AppendOwn
import Derived.Below
namespace Go.Proofs.YtncfmhlikmibaaaGreatDoor
open Go.RowKit
set_option maxRecDepth 100000
set_option maxHeartbeats 16000000
section
variable {W : List Tk} {i j k l d e' : Nat} {e : Int} {x y z m a : Nd} {r : Rs} {b c b' c' : Qy} {s t u : Rs}
theorem Zaa.s0 (f : ∀ q, Zam W q b = some r) : Zaa W b r := ⟨1, f _⟩
theorem Zaa.s1 (h : Zaa W c s) (f : ∀ q, q c = some s → Zam W q b = some r) : Zaa W b r := by
 obtain ⟨n, e⟩ := h
 exact ⟨n + 1, f _ e⟩
theorem Zaa.s2 (h : Zaa W c s) (h' : Zaa W b' t) (f : ∀ q, q c = some s → q b' = some t → Zam W q b = some r) : Zaa W b r := by
 obtain ⟨n, e⟩ := h
 obtain ⟨o, e'⟩ := h'
 exact ⟨n + o + 1, f _ (Zgx W (Nat.le_add_right n o) _ _ e) (Zgx W (Nat.le_add_left o n) _ _ e')⟩
theorem Zaa.s3 (h : Zaa W c s) (h' : Zaa W b' t) (h'' : Zaa W c' u) (f : ∀ q, q c = some s → q b' = some t → q c' = some u → Zam W q b = some r) : Zaa W b r := by
 obtain ⟨n, e⟩ := h
 obtain ⟨o, e'⟩ := h'
 obtain ⟨p, e''⟩ := h''
 exact ⟨n + o + p + 1, f _ (Zgx W (by omega) _ _ e) (Zgx W (by omega) _ _ e') (Zgx W (by omega) _ _ e'')⟩
theorem Zbs (h1 : Zaa W (.casc i d) (r)) (c1 : ¬ (kdW W i = 1 ∧ kdW W (i + 1) = 7)) : Zaa W (.expr i d) (r) :=
 h1.s1 fun q e1 => by simp [Zam, e1, c1]
theorem Zh2 (c1 : kdW W i = 1) (c2 : kdW W (i + 1) = 7) (c3 : d = 40) : Zaa W (.expr i d) (.er (i + 1) 3) :=
 Zaa.s0 fun q => by simp [Zam, c1, c2, c3]
theorem Zjq (h1 : Zaa W (.expr (i + 2) (d + 1)) (.ok x j)) (c1 : kdW W i = 1) (c2 : kdW W (i + 1) = 7) (c3 : d ≠ 40) : Zaa W (.expr i d) (.ok (.mk 6 (txW W i) (psW W i) 0 [] [x]) j) :=
 h1.s1 fun q e1 => by simp [Zam, Rs.bind, e1, c1, c2, c3]
theorem Zl4 (h1 : Zaa W (.expr (i + 2) (d + 1)) (.er j e)) (c1 : kdW W i = 1) (c2 : kdW W (i + 1) = 7) (c3 : d ≠ 40) : Zaa W (.expr i d) (.er j e) :=
 h1.s1 fun q e1 => by simp [Zam, Rs.bind, e1, c1, c2, c3]
theorem Zf0 (h1 : Zaa W (.prim i d) (.er j e)) : Zaa W (.casc i d) (.er j e) :=
 h1.s1 fun q e1 => by simp [Zam, Rs.bind, e1]
theorem Zjy (h1 : Zaa W (.prim i d) (.ok x j)) (h2 : Zaa W (.keyOf j d x) (.er k e)) : Zaa W (.casc i d) (.er k e) :=
 h1.s2 h2 fun q e1 e2 => by simp [Zam, Rs.bind, e1, e2]
theorem Zl5 (h1 : Zaa W (.prim i d) (.ok x j)) (h2 : Zaa W (.keyOf j d x) (.ok y k)) (c1 : kdW W k ≠ 15) : Zaa W (.casc i d) (.ok y k) :=
 h1.s2 h2 fun q e1 e2 => by simp [Zam, Rs.bind, e1, e2, c1]
theorem Zjz (h1 : Zaa W (.prim i d) (.ok x j)) (h2 : Zaa W (.keyOf j d x) (.ok y j)) (c1 : kdW W j = 15) : Zaa W (.casc i d) (.er j 20) :=
 h1.s2 h2 fun q e1 e2 => by simp [Zam, Rs.bind, e1, e2, c1]
theorem Zd8 (h1 : Zaa W (.prim i d) (.ok x j)) (h2 : Zaa W (.keyOf j d x) (.ok y k)) (h3 : Zaa W (.others k d (Zcw y)) (r)) (c1 : k ≠ j) (c2 : kdW W k = 15) : Zaa W (.casc i d) (r) :=
 h1.s3 h2 h3 fun q e1 e2 e3 => by simp [Zam, Rs.bind, e1, e2, e3, c1, c2]
theorem Zf8 (c1 : kdW W i ≠ 15) : Zaa W (.others i d x) (.ok x i) :=
 Zaa.s0 fun q => by simp [Zam, c1]
theorem Zhy (h1 : Zaa W (.msg (i + 1) d) (.er j e)) (c1 : kdW W i = 15) : Zaa W (.others i d x) (.er j e) :=
 h1.s1 fun q e1 => by simp [Zam, Rs.bind, e1, c1]
theorem Zhx (h1 : Zaa W (.msg (i + 1) d) (.ok m j)) (h2 : Zaa W (.others j d (x.kid m)) (r)) (c1 : kdW W i = 15) : Zaa W (.others i d x) (r) :=
 h1.s2 h2 fun q e1 e2 => by simp [Zam, Rs.bind, e1, e2, c1]
theorem Zd6 (c1 : kdW W i = 1) : Zaa W (.msg i d) (.ok (Zda (txW W i) (psW W i) []) (i + 1)) :=
 Zaa.s0 fun q => by simp [Zam, c1]
theorem Zjk (h1 : Zaa W (.una (i + 1) d) (.ok x j)) (c1 : kdW W i = 3) : Zaa W (.msg i d) (.ok (Zda (txW W i) (psW W i) [x]) j) :=
 h1.s1 fun q e1 => by simp [Zam, Rs.bind, e1, c1]
theorem Zf9 (h1 : Zaa W (.una (i + 1) d) (.er j e)) (c1 : kdW W i = 3) : Zaa W (.msg i d) (.er j e) :=
 h1.s1 fun q e1 => by simp [Zam, Rs.bind, e1, c1]
theorem Zd7 (h1 : Zaa W (.keys i d (Zda [] (psW W i) [])) (r)) (c1 : kdW W i = 2) : Zaa W (.msg i d) (r) :=
 h1.s1 fun q e1 => by simp [Zam, e1, c1]
theorem Zlz (c1 : kdW W i ≠ 1) (c2 : kdW W i ≠ 2) (c3 : kdW W i ≠ 3) : Zaa W (.msg i d) (.er i 20) :=
 Zaa.s0 fun q => by simp [Zam, c1, c2, c3]
theorem Zjl (c1 : kdW W i ≠ 2) : Zaa W (.keys i d x) (.ok x i) :=
 Zaa.s0 fun q => by simp [Zam, c1]
theorem Zl2 (h1 : Zaa W (.bin (i + 1) d) (.er j e)) (c1 : kdW W i = 2) : Zaa W (.keys i d x) (.er j e) :=
 h1.s1 fun q e1 => by simp [Zam, Rs.bind, e1, c1]
theorem Zl1 (h1 : Zaa W (.bin (i + 1) d) (.ok y j)) (h2 : Zaa W (.keys j d ((x.say (txW W i)).kid y)) (r)) (c1 : kdW W i = 2) : Zaa W (.keys i d x) (r) :=
 h1.s2 h2 fun q e1 e2 => by simp [Zam, Rs.bind, e1, e2, c1]
theorem Zh1 (h1 : Zaa W (.unaOf i d x) (.ok y j)) (h2 : Zaa W (.binOf j d y) (.er k e)) : Zaa W (.keyOf i d x) (.er k e) :=
 h1.s2 h2 fun q e1 e2 => by simp [Zam, Rs.bind, e1, e2]
theorem Zjo (h1 : Zaa W (.unaOf i d x) (.ok y j)) (h2 : Zaa W (.binOf j d y) (.ok m k)) (c1 : kdW W k ≠ 2) : Zaa W (.keyOf i d x) (.ok m k) :=
 h1.s2 h2 fun q e1 e2 => by simp [Zam, Rs.bind, e1, e2, c1]
theorem Zh0 (h1 : Zaa W (.unaOf i d x) (.ok y j)) (h2 : Zaa W (.binOf j d y) (.ok m k)) (h3 : Zaa W (.keys k d (Zda [] (psW W k) [])) (.er l e)) (c1 : kdW W k = 2) : Zaa W (.keyOf i d x) (.er l e) :=
 h1.s3 h2 h3 fun q e1 e2 e3 => by simp [Zam, Rs.bind, e1, e2, e3, c1]
theorem Zjp (h1 : Zaa W (.unaOf i d x) (.ok y j)) (h2 : Zaa W (.binOf j d y) (.ok m k)) (h3 : Zaa W (.keys k d (Zda [] (psW W k) [])) (.ok z l)) (c1 : kdW W k = 2) : Zaa W (.keyOf i d x) (.ok (Zat m z) l) :=
 h1.s3 h2 h3 fun q e1 e2 e3 => by simp [Zam, Rs.bind, e1, e2, e3, c1]
theorem Zhq (c1 : kdW W i ≠ 1) : Zaa W (.unaOf i d x) (.ok x i) :=
 Zaa.s0 fun q => by simp [Zam, c1]
theorem Zi9 (h1 : Zaa W (.unaOf (i + 1) d (Zat x (Zda (txW W i) (psW W i) []))) (r)) (c1 : kdW W i = 1) : Zaa W (.unaOf i d x) (r) :=
 h1.s1 fun q e1 => by simp [Zam, e1, c1]
theorem Zh8 (c1 : kdW W i ≠ 3) : Zaa W (.binOf i d x) (.ok x i) :=
 Zaa.s0 fun q => by simp [Zam, c1]
theorem Zj3 (h1 : Zaa W (.una (i + 1) d) (.er j e)) (c1 : kdW W i = 3) : Zaa W (.binOf i d x) (.er j e) :=
 h1.s1 fun q e1 => by simp [Zam, Rs.bind, e1, c1]
theorem Zj2 (h1 : Zaa W (.una (i + 1) d) (.ok y j)) (h2 : Zaa W (.binOf j d (Zat x (Zda (txW W i) (psW W i) [y]))) (r)) (c1 : kdW W i = 3) : Zaa W (.binOf i d x) (r) :=
 h1.s2 h2 fun q e1 e2 => by simp [Zam, Rs.bind, e1, e2, c1]
theorem Zno (h1 : Zaa W (.una i d) (.er j e)) : Zaa W (.bin i d) (.er j e) :=
 h1.s1 fun q e1 => by simp [Zam, Rs.bind, e1]
theorem Zkw (h1 : Zaa W (.una i d) (.ok x j)) (h2 : Zaa W (.binOf j d x) (r)) : Zaa W (.bin i d) (r) :=
 h1.s2 h2 fun q e1 e2 => by simp [Zam, Rs.bind, e1, e2]
theorem Znn (h1 : Zaa W (.prim i d) (.er j e)) : Zaa W (.una i d) (.er j e) :=
 h1.s1 fun q e1 => by simp [Zam, Rs.bind, e1]
theorem Znm (h1 : Zaa W (.prim i d) (.ok x j)) (h2 : Zaa W (.unaOf j d x) (r)) : Zaa W (.una i d) (r) :=
 h1.s2 h2 fun q e1 e2 => by simp [Zam, Rs.bind, e1, e2]
theorem Zje (c1 : kdW W i = 1) : Zaa W (.prim i d) (.ok (Zbr W 5 i) (i + 1)) :=
 Zaa.s0 fun q => by simp [Zam, c1]
theorem Zhw (c1 : kdW W i = 8) (c2 : d = 40) : Zaa W (.prim i d) (.er i 3) :=
 Zaa.s0 fun q => by simp [Zam, c1, c2]
theorem Zhu (h1 : Zaa W (.expr (i + 1) (d + 1)) (.er j e)) (c1 : kdW W i = 8) (c2 : d ≠ 40) : Zaa W (.prim i d) (.er j e) :=
 h1.s1 fun q e1 => by simp [Zam, Rs.bind, e1, c1, c2]
theorem Zhv (h1 : Zaa W (.expr (i + 1) (d + 1)) (.ok x j)) (c1 : kdW W i = 8) (c2 : d ≠ 40) (c3 : kdW W j = 9) : Zaa W (.prim i d) (.ok x (j + 1)) :=
 h1.s1 fun q e1 => by simp [Zam, Rs.bind, e1, c1, c2, c3]
theorem Zlx (h1 : Zaa W (.expr (i + 1) (d + 1)) (.ok x j)) (c1 : kdW W i = 8) (c2 : d ≠ 40) (c3 : kdW W j ≠ 9) : Zaa W (.prim i d) (.er j 20) :=
 h1.s1 fun q e1 => by simp [Zam, Rs.bind, e1, c1, c2, c3]
theorem Zc7 (h1 : Zaa W (.block i d) (r)) (c1 : kdW W i = 10) : Zaa W (.prim i d) (r) :=
 h1.s1 fun q e1 => by simp [Zam, e1, c1]
theorem Zjh (c1 : kdW W i = 4) : Zaa W (.prim i d) (.ok (Zbr W 1 i) (i + 1)) :=
 Zaa.s0 fun q => by simp [Zam, Zkn, c1]
theorem Zjg (c1 : kdW W i = 5) : Zaa W (.prim i d) (.ok (Zbr W 2 i) (i + 1)) :=
 Zaa.s0 fun q => by simp [Zam, Zkn, c1]
theorem Zjf (c1 : kdW W i = 6) : Zaa W (.prim i d) (.ok (Zbr W 3 i) (i + 1)) :=
 Zaa.s0 fun q => by simp [Zam, Zkn, c1]
theorem Zeu (h1 : Zaa W (.list i d) (r)) (c1 : kdW W i = 17) : Zaa W (.prim i d) (r) :=
 h1.s1 fun q e1 => by simp [Zam, Zkn, e1, c1]
theorem Zjv (c1 : kdW W i = 4) : Zaa W (.elem i d) (.ok (Zbr W 1 i) (i + 1)) :=
 Zaa.s0 fun q => by simp [Zam, Zkn, c1]
theorem Zju (c1 : kdW W i = 5) : Zaa W (.elem i d) (.ok (Zbr W 2 i) (i + 1)) :=
 Zaa.s0 fun q => by simp [Zam, Zkn, c1]
theorem Zjt (c1 : kdW W i = 6) : Zaa W (.elem i d) (.ok (Zbr W 3 i) (i + 1)) :=
 Zaa.s0 fun q => by simp [Zam, Zkn, c1]
theorem Zev (h1 : Zaa W (.list i d) (r)) (c1 : kdW W i = 17) : Zaa W (.elem i d) (r) :=
 h1.s1 fun q e1 => by simp [Zam, Zkn, e1, c1]
theorem Zfy (c1 : kdW W i ≠ 1) (c2 : kdW W i ≠ 8) (c3 : kdW W i ≠ 10) (c4 : kdW W i ≠ 4) (c5 : kdW W i ≠ 5) (c6 : kdW W i ≠ 6) (c7 : kdW W i ≠ 17) : Zaa W (.prim i d) (.er i 20) :=
 Zaa.s0 fun q => by simp [Zam, Zkn, c1, c2, c3, c4, c5, c6, c7]
theorem Zjx (c1 : kdW W i ≠ 1) (c2 : kdW W i ≠ 2) (c3 : kdW W i ≠ 3) (c4 : kdW W i ≠ 8) (c5 : kdW W i ≠ 4) (c6 : kdW W i ≠ 5) (c7 : kdW W i ≠ 6) (c8 : kdW W i ≠ 17) : Zaa W (.elem i d) (.er i 20) :=
 Zaa.s0 fun q => by simp [Zam, Zkn, c1, c2, c3, c4, c5, c6, c7, c8]
theorem Zcg (c1 : kdW W i = 1) (c2 : txW W i = Zel ∨ txW W i = Zcv ∨ txW W i = Zmf) : Zaa W (.elem i d) (.ok (Zbr W 13 i) (i + 1)) :=
 Zaa.s0 fun q => by simp [Zam, c1, c2]
theorem Zh5 (c1 : kdW W i = 1) (c2 : ¬ (txW W i = Zel ∨ txW W i = Zcv ∨ txW W i = Zmf)) : Zaa W (.elem i d) (.ok (Zbr W 3 i) (i + 1)) :=
 Zaa.s0 fun q => by simp [Zam, c1, c2]
theorem Zjw (c1 : kdW W i = 2) : Zaa W (.elem i d) (.ok (Zbr W 3 i) (i + 1)) :=
 Zaa.s0 fun q => by simp [Zam, c1]
theorem Zh4 (c1 : kdW W i = 3) : Zaa W (.elem i d) (.ok (Zbr W 3 i) (i + 1)) :=
 Zaa.s0 fun q => by simp [Zam, c1]
theorem Zdi (h1 : Zaa W (.list i d) (r)) (c1 : kdW W i = 8) : Zaa W (.elem i d) (r) :=
 h1.s1 fun q e1 => by simp [Zam, e1, c1]
theorem Zhz (c1 : d = 40) : Zaa W (.list i d) (.er i 3) :=
 Zaa.s0 fun q => by simp [Zam, c1]
theorem Zl0 (h1 : Zaa W (.elems (i + 1) (d + 1) (.mk 4 [] (psW W i) 0 [] [])) (r)) (c1 : d ≠ 40) : Zaa W (.list i d) (r) :=
 h1.s1 fun q e1 => by simp [Zam, e1, c1]
theorem Zh3 (c1 : kdW W i = 9) : Zaa W (.elems i d x) (.ok x (i + 1)) :=
 Zaa.s0 fun q => by simp [Zam, c1]
theorem Zjs (h1 : Zaa W (.elem i d) (.er j e)) (c1 : kdW W i ≠ 9) : Zaa W (.elems i d x) (.er j e) :=
 h1.s1 fun q e1 => by simp [Zam, Rs.bind, e1, c1]
theorem Zjr (h1 : Zaa W (.elem i d) (.ok y j)) (h2 : Zaa W (.elems j d (x.kid y)) (r)) (c1 : kdW W i ≠ 9) : Zaa W (.elems i d x) (r) :=
 h1.s2 h2 fun q e1 e2 => by simp [Zam, Rs.bind, e1, e2, c1]
theorem Zga (c1 : d = 40) : Zaa W (.block i d) (.er i 3) :=
 Zaa.s0 fun q => by simp [Zam, c1]
theorem Zex (h1 : Zaa W (.args (i + 1) (d + 1) (.mk 10 [] (psW W i) 0 [] [])) (.er j e)) (c1 : d ≠ 40) : Zaa W (.block i d) (.er j e) :=
 h1.s1 fun q e1 => by simp [Zam, Rs.bind, e1, c1]
theorem Zew (h1 : Zaa W (.args (i + 1) (d + 1) (.mk 10 [] (psW W i) 0 [] [])) (.ok x j)) (h2 : Zaa W (.body j (d + 1) x) (.er k e)) (c1 : d ≠ 40) : Zaa W (.block i d) (.er k e) :=
 h1.s2 h2 fun q e1 e2 => by simp [Zam, Rs.bind, e1, e2, c1]
theorem Zj0 (h1 : Zaa W (.args (i + 1) (d + 1) (.mk 10 [] (psW W i) 0 [] [])) (.ok x j)) (h2 : Zaa W (.body j (d + 1) x) (.ok y k)) (c1 : d ≠ 40) (c2 : kdW W k ≠ 11) : Zaa W (.block i d) (.er k 20) :=
 h1.s2 h2 fun q e1 e2 => by simp [Zam, Rs.bind, e1, e2, c1, c2]
theorem Zj1 (h1 : Zaa W (.args (i + 1) (d + 1) (.mk 10 [] (psW W i) 0 [] [])) (.ok x j)) (h2 : Zaa W (.body j (d + 1) x) (.ok y k)) (c1 : d ≠ 40) (c2 : kdW W k = 11) : Zaa W (.block i d) (.ok y (k + 1)) :=
 h1.s2 h2 fun q e1 e2 => by simp [Zam, Rs.bind, e1, e2, c1, c2]
theorem Zl7 (h1 : Zaa W (.args (i + 2) d (x.arg (txW W (i + 1)))) (r)) (c1 : kdW W i = 16) (c2 : kdW W (i + 1) = 1) : Zaa W (.args i d x) (r) :=
 h1.s1 fun q e1 => by simp [Zam, e1, c1, c2]
theorem Zj6 (c1 : kdW W i = 16) (c2 : kdW W (i + 1) ≠ 1) : Zaa W (.args i d x) (.er (i + 1) 20) :=
 Zaa.s0 fun q => by simp [Zam, c1, c2]
theorem Zh9 (c1 : kdW W i ≠ 16) (c2 : x.n = 0) : Zaa W (.args i d x) (.ok x i) :=
 Zaa.s0 fun q => by simp [Zam, c1, c2]
theorem Zj4 (c1 : kdW W i = 11) : Zaa W (.args i d x) (.ok x i) :=
 Zaa.s0 fun q => by simp [Zam, c1]
theorem Zj5 (c1 : x.n ≠ 0) (c2 : kdW W i = 12) : Zaa W (.args i d x) (.ok x (i + 1)) :=
 Zaa.s0 fun q => by simp [Zam, c1, c2]
theorem Zl6 (c1 : kdW W i ≠ 16) (c2 : x.n ≠ 0) (c3 : kdW W i ≠ 11) (c4 : kdW W i ≠ 12) : Zaa W (.args i d x) (.er i 20) :=
 Zaa.s0 fun q => by simp [Zam, c1, c2, c3, c4]
theorem Zja (h1 : Zaa W (.temps (i + 1) d (x.tmp (txW W i))) (r)) (c1 : kdW W i = 1) : Zaa W (.temps i d x) (r) :=
 h1.s1 fun q e1 => by simp [Zam, e1, c1]
theorem Zhr (c1 : kdW W i = 12) : Zaa W (.temps i d x) (.ok x (i + 1)) :=
 Zaa.s0 fun q => by simp [Zam, c1]
theorem Zhs (c1 : kdW W i ≠ 1) (c2 : kdW W i ≠ 12) : Zaa W (.temps i d x) (.er i 20) :=
 Zaa.s0 fun q => by simp [Zam, c1, c2]
theorem Zd1 (h1 : Zaa W (.stmts i d x) (r)) (c1 : kdW W i ≠ 12) : Zaa W (.body i d x) (r) :=
 h1.s1 fun q e1 => by simp [Zam, e1, c1]
theorem Zh7 (h1 : Zaa W (.temps (i + 1) d x) (.er j e)) (c1 : kdW W i = 12) : Zaa W (.body i d x) (.er j e) :=
 h1.s1 fun q e1 => by simp [Zam, Rs.bind, e1, c1]
theorem Zh6 (h1 : Zaa W (.temps (i + 1) d x) (.ok y j)) (h2 : Zaa W (.stmts j d y) (r)) (c1 : kdW W i = 12) : Zaa W (.body i d x) (r) :=
 h1.s2 h2 fun q e1 e2 => by simp [Zam, Rs.bind, e1, e2, c1]
theorem Zet (c1 : kdW W i = 0) : Zaa W (.stmts i d x) (.ok x i) :=
 Zaa.s0 fun q => by simp [Zam, c1]
theorem Zes (c1 : kdW W i = 11) : Zaa W (.stmts i d x) (.ok x i) :=
 Zaa.s0 fun q => by simp [Zam, c1]
theorem Zjc (h1 : Zaa W (.stmt i d) (.er j e)) (c1 : kdW W i ≠ 0) (c2 : kdW W i ≠ 11) : Zaa W (.stmts i d x) (.er j e) :=
 h1.s1 fun q e1 => by simp [Zam, Rs.bind, e1, c1, c2]
theorem Zf6 (h1 : Zaa W (.stmt i d) (.ok y j)) (c1 : kdW W i ≠ 0) (c2 : kdW W i ≠ 11) (c3 : kdW W j ≠ 14) : Zaa W (.stmts i d x) (.ok (x.kid y) j) :=
 h1.s1 fun q e1 => by simp [Zam, Rs.bind, e1, c1, c2, c3]
theorem Zht (h1 : Zaa W (.stmt i d) (.ok y j)) (c1 : kdW W i ≠ 0) (c2 : kdW W i ≠ 11) (c3 : kdW W j = 14) (c4 : y.kind = 11) : Zaa W (.stmts i d x) (.ok (x.kid y) (j + 1)) :=
 h1.s1 fun q e1 => by simp [Zam, Rs.bind, e1, c1, c2, c3, c4]
theorem Zjb (h1 : Zaa W (.stmt i d) (.ok y j)) (h2 : Zaa W (.stmts (j + 1) d (x.kid y)) (r)) (c1 : kdW W i ≠ 0) (c2 : kdW W i ≠ 11) (c3 : kdW W j = 14) (c4 : y.kind ≠ 11) : Zaa W (.stmts i d x) (r) :=
 h1.s2 h2 fun q e1 e2 => by simp [Zam, Rs.bind, e1, e2, c1, c2, c3, c4]
theorem Zc6 (h1 : Zaa W (.expr i d) (r)) (c1 : kdW W i ≠ 13) : Zaa W (.stmt i d) (r) :=
 h1.s1 fun q e1 => by simp [Zam, e1, c1]
theorem Zjd (h1 : Zaa W (.expr (i + 1) d) (.ok x j)) (c1 : kdW W i = 13) : Zaa W (.stmt i d) (.ok (.mk 11 [] (psW W i) 0 [] [x]) j) :=
 h1.s1 fun q e1 => by simp [Zam, Rs.bind, e1, c1]
theorem Zlw (h1 : Zaa W (.expr (i + 1) d) (.er j e)) (c1 : kdW W i = 13) : Zaa W (.stmt i d) (.er j e) :=
 h1.s1 fun q e1 => by simp [Zam, Rs.bind, e1, c1]
theorem Zjj (c1 : kdW W i = 1) : Zaa W (.pat i d x) (.ok (x.say (txW W i)) (i + 1)) :=
 Zaa.s0 fun q => by simp [Zam, c1]
theorem Zji (c1 : kdW W i = 3) (c2 : kdW W (i + 1) = 1) : Zaa W (.pat i d x) (.ok ((x.say (txW W i)).arg (txW W (i + 1))) (i + 2)) :=
 Zaa.s0 fun q => by simp [Zam, c1, c2]
theorem Zf7 (c1 : kdW W i = 3) (c2 : kdW W (i + 1) ≠ 1) : Zaa W (.pat i d x) (.er (i + 1) 20) :=
 Zaa.s0 fun q => by simp [Zam, c1, c2]
theorem Zfz (h1 : Zaa W (.keyP i d x) (r)) (c1 : kdW W i = 2) : Zaa W (.pat i d x) (r) :=
 h1.s1 fun q e1 => by simp [Zam, e1, c1]
theorem Zly (c1 : kdW W i ≠ 1) (c2 : kdW W i ≠ 2) (c3 : kdW W i ≠ 3) : Zaa W (.pat i d x) (.er i 20) :=
 Zaa.s0 fun q => by simp [Zam, c1, c2, c3]
theorem Zl3 (h1 : Zaa W (.keyP (i + 2) d ((x.say (txW W i)).arg (txW W (i + 1)))) (r)) (c1 : kdW W i = 2) (c2 : kdW W (i + 1) = 1) : Zaa W (.keyP i d x) (r) :=
 h1.s1 fun q e1 => by simp [Zam, e1, c1, c2]
theorem Zjn (c1 : kdW W i = 2) (c2 : kdW W (i + 1) ≠ 1) : Zaa W (.keyP i d x) (.er (i + 1) 20) :=
 Zaa.s0 fun q => by simp [Zam, c1, c2]
theorem Zjm (c1 : kdW W i ≠ 2) : Zaa W (.keyP i d x) (.ok x i) :=
 Zaa.s0 fun q => by simp [Zam, c1]
end
section
theorem Za7 (b off i : Nat) : (⟨b, off, none⟩ : Addr).add i = ⟨b, off + i, none⟩ := by unfold Addr.add; split <;> simp_all
structure SlF (A : Nat → Prop) (w : World) (a : Option Addr) (n c : Nat) (fl : List Value) : Prop where
 room : n ≤ c
 most : c ≤ maxLen
 nil0 : a = none → c = 0
 cells : 0 < fl.length → ∃ b off, a = some ⟨b, off, none⟩ ∧ A b ∧ ∀ j u, fl[j]? = some u → w.cell? ⟨b, off + j, none⟩ = some u
theorem SlF.nil (A : Nat → Prop) (w : World) : SlF A w none 0 0 [] := ⟨Nat.le_refl _, by decide, fun _ => rfl, fun h => absurd h (by decide)⟩
variable {A A' : Nat → Prop} {B B' n p : Nat} {v : Value} {w w' : World} {x : Nd} {xs : List Nd}
theorem SlF.imp {a : Option Addr} {c : Nat} {fl : List Value} (h : ∀ b, b < w.heap.size → A b → A' b ∧ w'.heap[b]? = w.heap[b]?) (s : SlF A w a n c fl) : SlF A' w' a n c fl :=
 ⟨s.room, s.most, s.nil0, fun h0 => by
  obtain ⟨b, off, ha, hA, hc⟩ := s.cells h0
  have hb : b < w.heap.size := block_lt_of_cell (hc 0 _ (List.getElem?_eq_getElem h0))
  exact ⟨b, off, ha, (h b hb hA).1, fun j u hj => (World.cell?_of_block (a := ⟨b, off + j, none⟩) (h b hb hA).2).trans (hc j u hj)⟩⟩
def Zcr (s : List Int) : Value := .string (strOfNums s)
mutual
def NdV (A : Nat → Prop) (w : World) : Nd → Value → Prop
 | .mk k t p n l kids, v => ∃ na nc ka kc fl, v = .agg #[.int .i64 k, .string (strOfNums t), .int .i64 (p : Int), .int .i64 (n : Int), .slice na l.length nc, .slice ka kids.length kc] ∧ SlF A w na l.length nc (l.map Zcr) ∧ SlF A w ka kids.length kc fl ∧ KsF A w kids fl ∧ l.length ≤ 100000 ∧ kids.length ≤ 100000 ∧ t.length ≤ 100000000
def KsF (A : Nat → Prop) (w : World) : List Nd → List Value → Prop
 | [], fl => fl = []
 | x :: xs, fl => ∃ v0 v1 v2 v3 v4 v5 r, fl = v0 :: v1 :: v2 :: v3 :: v4 :: v5 :: r ∧ NdV A w x (.agg #[v0, v1, v2, v3, v4, v5]) ∧ KsF A w xs r
end
mutual
theorem NdV.imp (h : ∀ b, b < w.heap.size → A b → A' b ∧ w'.heap[b]? = w.heap[b]?) : ∀ (x : Nd) (v : Value), NdV A w x v → NdV A' w' x v
 | .mk k t p n l kids, v, hx => by
  simp only [NdV] at hx ⊢
  obtain ⟨na, nc, ka, kc, fl, e, s1, s2, hk, b1, b2, b3⟩ := hx
  exact ⟨na, nc, ka, kc, fl, e, s1.imp h, s2.imp h, KsF.imp h kids fl hk, b1, b2, b3⟩
theorem KsF.imp (h : ∀ b, b < w.heap.size → A b → A' b ∧ w'.heap[b]? = w.heap[b]?) : ∀ (xs : List Nd) (fl : List Value), KsF A w xs fl → KsF A' w' xs fl
 | [], fl, hx => by
  simp only [KsF] at hx ⊢
  exact hx
 | x :: xs, fl, hx => by
  simp only [KsF] at hx ⊢
  obtain ⟨v0, v1, v2, v3, v4, v5, r, e, h1, h2⟩ := hx
  exact ⟨v0, v1, v2, v3, v4, v5, r, e, NdV.imp h x _ h1, KsF.imp h xs r h2⟩
end
theorem KsF.len : ∀ {xs : List Nd} {fl : List Value}, KsF A w xs fl → fl.length = xs.length * 6
 | [], fl, h => by simp only [KsF] at h; subst h; rfl
 | x :: xs, fl, h => by
  simp only [KsF] at h
  obtain ⟨v0, v1, v2, v3, v4, v5, r, rfl, _, h2⟩ := h
  have := KsF.len h2
  simp only [List.length_cons]
  omega
theorem KsF.app : ∀ {xs : List Nd} {fl : List Value} {ys : List Nd} {gl : List Value}, KsF A w xs fl → KsF A w ys gl → KsF A w (xs ++ ys) (fl ++ gl)
 | [], fl, ys, gl, h, k => by simp only [KsF] at h; subst h; exact k
 | x :: xs, fl, ys, gl, h, k => by
  simp only [KsF, List.cons_append] at h ⊢
  obtain ⟨v0, v1, v2, v3, v4, v5, r, rfl, h1, h2⟩ := h
  exact ⟨v0, v1, v2, v3, v4, v5, r ++ gl, rfl, h1, KsF.app h2 k⟩
theorem KsF.nil (A : Nat → Prop) (w : World) : KsF A w [] [] := by simp only [KsF]
theorem KsF.one {v0 v1 v2 v3 v4 v5 : Value} (h : NdV A w x (.agg #[v0, v1, v2, v3, v4, v5])) : KsF A w [x] [v0, v1, v2, v3, v4, v5] := by
 simp only [KsF]
 exact ⟨v0, v1, v2, v3, v4, v5, [], rfl, h, rfl⟩
theorem NdV.parts (h : NdV A w x v) : ∃ na nc ka kc fl, v = .agg #[.int .i64 x.kind, .string (strOfNums x.text), .int .i64 (x.pos : Int), .int .i64 (x.n : Int), .slice na x.names.length nc, .slice ka x.kids.length kc] ∧ SlF A w na x.names.length nc (x.names.map Zcr) ∧ SlF A w ka x.kids.length kc fl ∧ KsF A w x.kids fl ∧ x.names.length ≤ 100000 ∧ x.kids.length ≤ 100000 ∧ x.text.length ≤ 100000000 := by
 cases x
 simp only [NdV] at h
 exact h
theorem NdV.mk_ {k : Int} {t : List Int} {l : List (List Int)} {kids : List Nd} {na : Option Addr} {nc : Nat} {ka : Option Addr} {kc : Nat} {fl : List Value} (s1 : SlF A w na l.length nc (l.map Zcr)) (s2 : SlF A w ka kids.length kc fl) (hk : KsF A w kids fl) (b1 : l.length ≤ 100000) (b2 : kids.length ≤ 100000) (b3 : t.length ≤ 100000000) : NdV A w (.mk k t p n l kids) (.agg #[.int .i64 k, .string (strOfNums t), .int .i64 (p : Int), .int .i64 (n : Int), .slice na l.length nc, .slice ka kids.length kc]) := by
 simp only [NdV]
 exact ⟨na, nc, ka, kc, fl, rfl, s1, s2, hk, b1, b2, b3⟩
theorem NdV.leaf {k : Int} {t : List Int} (b3 : t.length ≤ 100000000) : NdV A w (.mk k t p 0 [] []) (.agg #[.int .i64 k, .string (strOfNums t), .int .i64 (p : Int), .int .i64 0, .slice none 0 0, .slice none 0 0]) := by
 have h := NdV.mk_ (A := A) (w := w) (k := k) (t := t) (p := p) (n := 0) (l := []) (kids := []) (SlF.nil A w) (SlF.nil A w) (KsF.nil A w) (by decide) (by decide) b3
 exact h
def zNd : Nd := .mk 0 [] 0 0 [] []
theorem NdV.zero : NdV A w zNd (.agg #[.int .i64 0, .string ⟨#[]⟩, .int .i64 0, .int .i64 0, .slice none 0 0, .slice none 0 0]) := NdV.leaf (t := []) (p := 0) (by decide)
theorem KsF.flat : ∀ {xs : List Nd} {fl : List Value}, KsF A w xs fl → ∀ u ∈ fl, u.oneCell' = true
 | [], fl, h, u, hu => by simp only [KsF] at h; subst h; simp at hu
 | x :: xs, fl, h, u, hu => by
  simp only [KsF] at h
  obtain ⟨v0, v1, v2, v3, v4, v5, r, rfl, h1, h2⟩ := h
  obtain ⟨na, nc, ka, kc, gl, e, _⟩ := h1.parts
  simp only [Value.agg.injEq, Array.mk.injEq, List.cons.injEq, and_true] at e
  obtain ⟨rfl, rfl, rfl, rfl, rfl, rfl⟩ := e
  simp only [List.mem_cons] at hu
  rcases hu with rfl | rfl | rfl | rfl | rfl | rfl | hu
  ·rfl
  ·rfl
  ·rfl
  ·rfl
  ·rfl
  ·rfl
  exact KsF.flat h2 u hu
theorem KsF.at_ : ∀ {xs : List Nd} {fl : List Value} (i : Nat) (x : Nd), KsF A w xs fl → xs[i]? = some x → ∃ v0 v1 v2 v3 v4 v5, NdV A w x (.agg #[v0, v1, v2, v3, v4, v5]) ∧ fl[i * 6]? = some v0 ∧ fl[i * 6 + 1]? = some v1 ∧ fl[i * 6 + 2]? = some v2 ∧ fl[i * 6 + 3]? = some v3 ∧ fl[i * 6 + 4]? = some v4 ∧ fl[i * 6 + 5]? = some v5
 | [], fl, i, x, h, hi => by simp at hi
 | y :: xs, fl, 0, x, h, hi => by
  simp at hi
  subst hi
  simp only [KsF] at h
  obtain ⟨v0, v1, v2, v3, v4, v5, r, rfl, h1, h2⟩ := h
  exact ⟨v0, v1, v2, v3, v4, v5, h1, rfl, rfl, rfl, rfl, rfl, rfl⟩
 | y :: xs, fl, i + 1, x, h, hi => by
  simp only [KsF] at h
  obtain ⟨v0, v1, v2, v3, v4, v5, r, rfl, h1, h2⟩ := h
  have := KsF.at_ i x h2 (by simpa using hi)
  rw [show (i + 1) * 6 = i * 6 + 6 by omega]
  exact this
structure Fr (p B : Nat) (w w' : World) : Prop where
 os : w'.os = w.os
 tape : w'.tape = w.tape
 output : w'.output = w.output
 size : w.heap.size ≤ w'.heap.size
 block : ∀ b, b < B → b ≠ p → w'.heap[b]? = w.heap[b]?
theorem Fr.refl (p B : Nat) (w : World) : Fr p B w w := ⟨rfl, rfl, rfl, Nat.le_refl _, fun _ _ _ => rfl⟩
theorem Fr.of_below (h : Below B w w') : Fr p B w w' := ⟨h.os, h.tape, h.output, h.size, fun b hb _ => h.block b hb⟩
theorem Fr.trans {w1 w2 : World} (h : Fr p B w w1) (k : Fr p B' w1 w2) (hB : B ≤ B') : Fr p B w w2 :=
 ⟨k.os.trans h.os, k.tape.trans h.tape, k.output.trans h.output, Nat.le_trans h.size k.size, fun b hb hn => (k.block b (by omega) hn).trans (h.block b hb hn)⟩
theorem Fr.low (h : Fr p B w w') (hB : B' ≤ B) : Fr p B' w w' := ⟨h.os, h.tape, h.output, h.size, fun b hb hn => h.block b (by omega) hn⟩
theorem Fr.below (h : Fr p B w w') (hB : B' ≤ B) (hp : B' ≤ p) : Below B' w w' := ⟨h.os, h.tape, h.output, h.size, fun b hb => h.block b (by omega) (by omega)⟩
theorem NdV.fr (h : NdV A w x v) (k : Fr p B w w') (hA : ∀ b, A b → b < w.heap.size → b < B ∧ b ≠ p) : NdV A w' x v :=
 h.imp (fun b hb hb' => ⟨hb', k.block b (hA b hb' hb).1 (hA b hb' hb).2⟩) x v
theorem NdV.mono (h : NdV A w x v) (hA : ∀ b, b < w.heap.size → A b → A' b) : NdV A' w x v := h.imp (fun b hb hb' => ⟨hA b hb hb', rfl⟩) x v
def Zdm (w : World) (A : Nat → Prop) (v : Value) (xs : List Nd) : Prop :=
 ∃ fl, w.ownsRow 0 25 6 v xs.length fl ∧ (∀ g, v.ownBlock = some g → A g) ∧ KsF (fun b => A b ∧ ∀ g, v.ownBlock = some g → b ≠ g) w xs fl
theorem Zdm.nil (w : World) (A : Nat → Prop) : Zdm w A (.slice none 0 0) [] := ⟨[], World.ownsRow_nil w 0 25 6, fun g hg => by simp [Value.ownBlock] at hg, KsF.nil _ _⟩
theorem Zdm.shape (h : Zdm w A v xs) : ∃ a c, v = .slice a xs.length c := by
 obtain ⟨fl, h1, _⟩ := h
 rcases h1.2 with ⟨rfl, h0⟩ | ⟨g, cap, cur, rfl, _⟩
 ·exact ⟨none, 0, by rw [h0]⟩
 exact ⟨_, _, rfl⟩
theorem Zdm.sl {a : Option Addr} {c : Nat} (h : Zdm w A (.slice a n c) xs) : n = xs.length ∧ ∃ fl, SlF A w a n c fl ∧ KsF A w xs fl := by
 obtain ⟨fl, h1, hA, h2⟩ := h
 have h3 := h1.2
 have hs := h1.1
 rcases h3 with ⟨e, h0⟩ | ⟨g, cap, cur, e, _, hg, hn, hm, hc, ht⟩
 ·simp only [Value.slice.injEq] at e
  obtain ⟨rfl, rfl, rfl⟩ := e
  rw [h0] at hs
  have : fl = [] := List.eq_nil_of_length_eq_zero (by omega)
  subst this
  exact ⟨h0.symm, [], SlF.nil _ _, h2.imp (fun b _ hb => ⟨hb.1, rfl⟩) _ _⟩
 simp only [Value.slice.injEq] at e
 obtain ⟨rfl, rfl, rfl⟩ := e
 refine ⟨rfl, fl, ⟨hn, hm, by simp, fun _ => ⟨g, 0, rfl, hA g rfl, fun j u hj => ?_⟩⟩, h2.imp (fun b _ hb => ⟨hb.1, rfl⟩) _ _⟩
 have := h1.cells (g := g) rfl j u hj
 rw [Za7] at this
 exact this
theorem Zdm.keep (h : Zdm w A v xs) (hk : ∀ b, A b → b < w.heap.size → w'.heap[b]? = w.heap[b]?) : Zdm w' A v xs := by
 obtain ⟨fl, h1, hA, h2⟩ := h
 refine ⟨fl, ⟨h1.1, ?_⟩, hA, h2.imp (fun b hb hA => ⟨hA, hk b hA.1 hb⟩) _ _⟩
 rcases h1.2 with h | ⟨g, cap, cur, e, hB, hg, rest⟩
 ·exact .inl h
 exact .inr ⟨g, cap, cur, e, hB, (hk g (hA g (by rw [e]; rfl)) (lt_of_block hg)).trans hg, rest⟩
end
section
def wt (k : Int) : Int := if k = 8 ∨ k = 17 then 1 else if k = 9 then -1 else 0
def pc (W : List Tk) : Nat → Int
 | 0 => 0
 | m + 1 => pc W m + wt (kdW W m)
variable {W : List Tk} {j : Nat}
theorem pcA {m : Nat} {c v : Int} (h : kdW W m = c) (hw : wt c = v) : pc W (m + 1) = pc W m + v := by
 show pc W m + wt (kdW W m) = _
 rw [h, hw]
def BalQ (W : List Tk) (m : Nat) (q : Qy) : Rs → Prop
 | .er _ _ => True
 | .ok _ j => match q with
  | .list i _ => pc W (i + 1) = pc W i + 1 → i < j ∧ pc W j = pc W i ∧ (i ≤ m → m ≤ j → pc W i ≤ pc W m)
  | .block i _ => pc W (i + 1) = pc W i + 0 → i ≤ j ∧ pc W j = pc W i ∧ (i ≤ m → m ≤ j → pc W i ≤ pc W m)
  | .elems i _ _ => i < j ∧ pc W j = pc W i - 1 ∧ (i ≤ m → m < j → pc W i ≤ pc W m)
  | q => q.place ≤ j ∧ pc W j = pc W q.place ∧ (q.place ≤ m → m ≤ j → pc W q.place ≤ pc W m)
theorem bal_run (m : Nat) (f : Nat) : ∀ a r, Zdt W f a = some r → BalQ W m a r := by
 induction f with
 | zero => intro a r e; cases e
 | succ f ih =>
  intro a r e
  have e : Zam W (Zdt W f) a = some r := e
  cases r with
  | er j c => trivial
  | ok x0 j0 =>
  cases a
  all_goals simp only [Zam, Zkn] at e
  all_goals repeat' first
   | (have hx := ih _ _ e; clear e)
   | (obtain ⟨x, hx, e'⟩ := Zgd e; clear e; have hx' := ih _ _ hx; clear hx; rcases rsE e' with ⟨j, c, rfl, hr⟩ | ⟨y, j, rfl, e⟩ <;> clear e' <;> (try (cases hr)))
   | (split at e <;> rename_i hc <;> (try have hl := pcA (v := 0) hc (by decide)) <;> (try have hl := pcA (v := 1) hc (by decide)) <;> (try have hl := pcA (v := -1) hc (by decide)) <;> (try have hl1 := pcA (v := 0) hc.1 (by decide)) <;> (try have hl2 := pcA (v := 0) hc.2 (by decide)) <;> (try have hl3 := hc.elim (fun h => pcA (v := 0) h (by decide)) (fun h => pcA (v := 0) h (by decide))))
   | (have e' := Option.some.inj e; clear e; cases e')
  all_goals clear ih
  all_goals simp only [BalQ, Qy.place] at *
  all_goals have hz : ∀ a b : Nat, a = b → pc W a = pc W b := fun a b h => by rw [h]
  all_goals first
   | omega
   | (have h1 := hz m; grind)
   | skip
theorem Zpz {i d : Nat} {x : Nd} (h : Zaa W (.prim i d) (.ok x j)) (hk : kdW W i = 8) : i + 1 < j ∧ pc W j = pc W i ∧ ∀ m, i < m → m < j → pc W i < pc W m := by
 obtain ⟨f, hf⟩ := h.back
 simp only [Zam] at hf
 rw [if_neg (by rw [hk]; decide), if_pos hk] at hf
 split at hf
 ·cases Option.some.inj hf
 obtain ⟨r, hx, e⟩ := Zgd hf
 rcases rsE e with ⟨j', c, rfl, e'⟩ | ⟨y, j', rfl, e2⟩
 ·cases e'
 split at e2
 ·rename_i h9
  cases Option.some.inj e2
  have h1 := pcA (v := 1) hk (by decide)
  have h2 := pcA (v := -1) h9 (by decide)
  have hb : ∀ m, BalQ W m (.expr (i + 1) (d + 1)) (.ok x j') := fun m => bal_run m f _ _ hx
  simp only [BalQ, Qy.place] at hb
  have hb0 := hb 0
  have hne : i + 1 ≠ j' ∨ i + 1 = j' := by omega
  refine ⟨by omega, by omega, fun m h3 h4 => ?_⟩
  have := hb m
  omega
 cases Option.some.inj e2
def whF (W : List Tk) (z : Nat) : Nat → Nat → Int → Bool
 | 0, _, _ => false
 | f + 1, i, n => if n + wt (kdW W i) = 0 then decide (i + 1 = z) else whF W z f (i + 1) (n + wt (kdW W i))
theorem whF_run {a z : Nat} (haj : a < j) (hj : pc W j = pc W a) (hin : ∀ m, a < m → m < j → pc W a < pc W m) (hz : j ≤ z) : ∀ (f i : Nat), a ≤ i → i < j → f + i = z → whF W z f i (pc W i - pc W a) = decide (j = z) := by
 intro f
 induction f with
 | zero => intro i h1 h2 h3; omega
 | succ f ih =>
  intro i h1 h2 h3
  have hp : pc W i - pc W a + wt (kdW W i) = pc W (i + 1) - pc W a := by show _ = pc W i + wt (kdW W i) - pc W a; omega
  simp only [whF, hp]
  rcases Nat.lt_or_ge (i + 1) j with h | h
  ·have := hin (i + 1) (by omega) h
   rw [if_neg (by omega)]
   exact ih (i + 1) (by omega) h (by omega)
  obtain rfl : i + 1 = j := by omega
  rw [if_pos (by omega)]
theorem Zip {i d z : Nat} {x : Nd} (h : Zaa W (.prim i d) (.ok x j)) (hk : kdW W i = 8) (hz : j ≤ z) : whF W z (z - i) i 0 = decide (j = z) := by
 obtain ⟨h1, h2, h3⟩ := Zpz h hk
 have := whF_run (by omega) h2 h3 hz (z - i) i (Nat.le_refl _) (by omega) (by omega)
 rwa [Int.sub_self] at this
end
theorem Zns {W : List Tk} (f : Nat) : ∀ {i d : Nat} {x y : Nd} {j : Nat}, Zdt W f (.unaOf i d x) = some (.ok y j) → (y = x ∧ j = i) ∨ (y.kind = 7 ∧ i < j) := by
 induction f with
 | zero => intro i d x y j e; cases e
 | succ f ih =>
  intro i d x y j e
  have e : Zam W (Zdt W f) (.unaOf i d x) = some (.ok y j) := e
  simp only [Zam] at e
  split at e
  ·rcases ih e with ⟨rfl, rfl⟩ | ⟨h1, h2⟩
   ·exact .inr ⟨rfl, by omega⟩
   exact .inr ⟨h1, by omega⟩
  cases Option.some.inj e
  exact .inl ⟨rfl, rfl⟩
theorem Zor {W : List Tk} {E : Nat} (hE : Zim W E) (f : Nat) : ∀ {i d : Nat} {x y : Nd} {j : Nat}, Zdt W f (.binOf i d x) = some (.ok y j) → (y = x ∧ j = i) ∨ (y.kind = 7 ∧ i < j) := by
 induction f with
 | zero => intro i d x y j e; cases e
 | succ f ih =>
  intro i d x y j e
  have e : Zam W (Zdt W f) (.binOf i d x) = some (.ok y j) := e
  simp only [Zam] at e
  split at e
  ·rename_i hk
   have hl : i < E := hE.lt (by rw [hk]; decide)
   obtain ⟨r, hx, e2⟩ := Zgd e
   rcases rsE e2 with ⟨j', c, rfl, e'⟩ | ⟨a, j', rfl, e3⟩
   ·cases e'
   have hadv := Zfp hE f _ _ hx
   simp only [Adv, Qy.place, Qy.takes, Qy.asks] at hadv
   have := hadv (by omega)
   rcases ih e3 with ⟨rfl, rfl⟩ | ⟨h1, h2⟩
   ·exact .inr ⟨rfl, by omega⟩
   exact .inr ⟨h1, by omega⟩
  cases Option.some.inj e
  exact .inl ⟨rfl, rfl⟩
theorem Zn8 {W : List Tk} {E : Nat} (hE : Zim W E) {i d : Nat} {x y : Nd} {j : Nat} (h : Zaa W (.keyOf i d x) (.ok y j)) (hi : i ≤ E) : (y = x ∧ j = i) ∨ (y.kind = 7 ∧ i < j) := by
 obtain ⟨f, hf⟩ := h.back
 simp only [Zam] at hf
 obtain ⟨r, h1, e⟩ := Zgd hf
 rcases rsE e with ⟨_, _, rfl, e'⟩ | ⟨y1, j1, rfl, e2⟩
 ·cases e'
 obtain ⟨r2, h2, e3⟩ := Zgd e2
 rcases rsE e3 with ⟨_, _, rfl, e'⟩ | ⟨y2, j2, rfl, e4⟩
 ·cases e'
 have k1 := Zns f h1
 have k2 := Zor hE f h2
 have a1 := Zfp hE f _ _ h1
 have a2 := Zfp hE f _ _ h2
 simp only [Adv, Qy.place, Qy.takes, Qy.asks] at a1 a2
 have b1 := a1 (by omega)
 have b2 := a2 (by omega)
 split at e4
 ·rename_i hk
  have hl : j2 < E := hE.lt (by rw [hk]; decide)
  obtain ⟨r3, h3, e5⟩ := Zgd e4
  rcases rsE e5 with ⟨_, _, rfl, e'⟩ | ⟨y3, j3, rfl, e6⟩
  ·cases e'
  cases Option.some.inj e6
  have h3' : Zaa W (.keys j2 d (Zda [] (psW W j2) [])) (.ok y3 j) := ⟨f, h3⟩
  obtain ⟨g, hg⟩ := h3'.back
  simp only [Zam] at hg
  rw [if_pos hk] at hg
  obtain ⟨r4, h4, e7⟩ := Zgd hg
  rcases rsE e7 with ⟨_, _, rfl, e'⟩ | ⟨y4, j4, rfl, e8⟩
  ·cases e'
  have a4 := Zfp hE g _ _ h4
  have a5 := Zfp hE g _ _ e8
  simp only [Adv, Qy.place, Qy.takes, Qy.asks] at a4 a5
  have b4 := a4 (by omega)
  have b5 := a5 (by omega)
  exact .inr ⟨rfl, by omega⟩
 cases Option.some.inj e4
 rcases k1 with ⟨rfl, rfl⟩ | ⟨k1, l1⟩
 ·exact k2
 rcases k2 with ⟨rfl, rfl⟩ | ⟨k2, l2⟩
 ·exact .inr ⟨k1, l1⟩
 exact .inr ⟨k2, by omega⟩
def KindQ : Qy → Rs → Prop
 | _, .er _ _ => True
 | .elems _ _ x, .ok y _ | .args _ _ x, .ok y _ | .temps _ _ x, .ok y _ | .body _ _ x, .ok y _ | .stmts _ _ x, .ok y _ | .others _ _ x, .ok y _ => y.kind = x.kind
 | .list _ _, .ok y _ => y.kind = 4
 | .block _ _, .ok y _ => y.kind = 10
 | .expr _ _, .ok y _ | .casc _ _, .ok y _ | .prim _ _, .ok y _ => y.kind ≠ 11
 | .unaOf _ _ x, .ok y _ | .binOf _ _ x, .ok y _ | .keyOf _ _ x, .ok y _ => y.kind = x.kind ∨ y.kind = 7
 | _, .ok _ _ => True
theorem kd_mk (k : Int) (t : List Int) (p n : Nat) (l : List (List Int)) (m : List Nd) : (Nd.mk k t p n l m).kind = k := rfl
theorem kd_kid (x y : Nd) : (x.kid y).kind = x.kind := rfl
theorem kd_tmp (x : Nd) (t : List Int) : (x.tmp t).kind = x.kind := rfl
theorem kd_arg (x : Nd) (t : List Int) : (x.arg t).kind = x.kind := rfl
theorem kd_sent (x y : Nd) : (Zat x y).kind = 7 := rfl
theorem kd_casc (x : Nd) : (Zcw x).kind = 8 := rfl
theorem kd_leaf (W : List Tk) (k : Int) (i : Nat) : (Zbr W k i).kind = k := rfl
theorem Zne {W : List Tk} (f : Nat) : ∀ a r, Zdt W f a = some r → KindQ a r := by
 induction f with
 | zero => intro a r e; cases e
 | succ f ih =>
  intro a r e
  have e : Zam W (Zdt W f) a = some r := e
  cases r with
  | er j c => cases a <;> trivial
  | ok x0 j0 =>
  cases a
  all_goals simp only [Zam, Zkn] at e
  all_goals repeat' first
   | (have hx := ih _ _ e; clear e)
   | (obtain ⟨x, hx, e'⟩ := Zgd e; clear e; have hx' := ih _ _ hx; clear hx; rcases rsE e' with ⟨j, c, rfl, hr⟩ | ⟨y, j, rfl, e⟩ <;> clear e' <;> (try (cases hr)))
   | (split at e <;> rename_i hc)
   | (have e' := Option.some.inj e; clear e; cases e')
  all_goals clear ih
  all_goals simp only [KindQ, kd_mk, kd_kid, kd_tmp, kd_arg, kd_sent, kd_casc, kd_leaf] at *
  all_goals first
   | trivial
   | exact .inl trivial
   | exact .inr trivial
   | omega
   | (split <;> omega)
   | grind
theorem Zaa.kind {W : List Tk} {a : Qy} {r : Rs} (h : Zaa W a r) : KindQ a r := by
 obtain ⟨f, hf⟩ := h
 exact Zne f a r hf
theorem Zp0 {W : List Tk} {i d : Nat} {x : Nd} {j : Nat} (h : Zaa W (.prim i d) (.ok x j)) (hk : kdW W i ≠ 8) : x.kind ≠ 7 := by
 obtain ⟨f, hf⟩ := h.back
 simp only [Zam, Zkn] at hf
 rw [if_neg hk] at hf
 repeat' split at hf
 all_goals first
  | (cases Option.some.inj hf; simp [Zbr, Nd.kind]; done)
  | (have := Zne f _ _ hf; simp only [KindQ] at this; omega)
  | (cases Option.some.inj hf; done)
section
variable {E d i iz j n0 : Nat} {W : List Tk} {endk : Int} {x x0 y : Nd}
theorem Znh (h : kdW W i = 0 ∨ kdW W i = 11) : Zaa W (.expr i d) (.er i 20) :=
 Zbs (Zf0 (Zfy (by omega) (by omega) (by omega) (by omega) (by omega) (by omega) (by omega))) (by omega)
def StE (W : List Tk) (endk : Int) (n0 d : Nat) (x0 : Nd) (ez : Int) (tz : Nat) : Prop :=
 ∃ j, tz = psW W j ∧ (Zaa W (.stmts n0 d x0) (.er j ez) ∨ (ez = 20 ∧ ∃ z, Zaa W (.stmts n0 d x0) (.ok z j) ∧ kdW W j ≠ endk))
def Zot (W : List Tk) (endk : Int) (n0 d : Nat) (x0 y : Nd) (iz : Nat) (ez : Int) (tz : Nat) : Prop :=
 (ez = 0 → tz = 0 ∧ kdW W iz = endk ∧ Zaa W (.stmts n0 d x0) (.ok y iz)) ∧ (ez ≠ 0 → StE W endk n0 d x0 ez tz)
def StG (W : List Tk) (n0 d : Nat) (x0 : Nd) (i : Nat) (x : Nd) : Prop := ∀ r, Zaa W (.stmts i d x) r → Zaa W (.stmts n0 d x0) r
def StL (W : List Tk) (E : Nat) (endk : Int) (n0 d : Nat) (x0 : Nd) (i : Nat) (x y : Nd) (iz : Nat) (ez : Int) (tz : Nat) : Prop :=
 (ez = 0 → tz = 0 ∧ i < iz ∧ iz ≤ E ∧ kdW W i ≠ 0 ∧ kdW W i ≠ 11 ∧ Zaa W (.stmt i d) (.ok y iz) ∧ ((y.kind == 11) = (kdW W i == 13)) ∧ StG W n0 d x0 i x) ∧ (ez ≠ 0 → StE W endk n0 d x0 ez tz)
theorem StG.end_ (h : StG W n0 d x0 i x) (hk : kdW W i = endk) (he : endk = 0 ∨ endk = 11) : Zot W endk n0 d x0 x i 0 0 :=
 ⟨fun _ => ⟨rfl, hk, h _ (he.elim (fun e => Zet (hk.trans e)) (fun e => Zes (hk.trans e)))⟩, fun h => absurd rfl h⟩
theorem StL.er {c : Int} (h : StG W n0 d x0 i x) (hk : kdW W i ≠ endk) (hc : c ≠ 0) (h13 : kdW W i = 13 → Zaa W (.expr (i + 1) d) (.er j c)) (hp : kdW W i ≠ 13 → Zaa W (.expr i d) (.er j c)) : StL W E endk n0 d x0 i x y iz c (psW W j) := by
 refine ⟨fun h => absurd h hc, fun _ => ⟨j, rfl, ?_⟩⟩
 by_cases hb : kdW W i = 0 ∨ kdW W i = 11
 ·have e := (hp (by omega)).det (Znh hb)
  simp only [Rs.er.injEq] at e
  obtain ⟨rfl, rfl⟩ := e
  exact .inr ⟨rfl, x, h _ (hb.elim Zet Zes), hk⟩
 refine .inl (h _ (Zjc ?_ (by omega) (by omega)))
 by_cases h1 : kdW W i = 13
 ·exact Zlw (h13 h1) h1
 exact Zc6 (hp h1) h1
theorem StL.ret (hE : Zim W E) (h : StG W n0 d x0 i x) (h13 : kdW W i = 13) (hr : Zaa W (.expr (i + 1) d) (.ok y j)) : StL W E endk n0 d x0 i x (.mk 11 [] (psW W i) 0 [] [y]) j 0 0 := by
 have hi : i < E := hE.lt (by rw [h13]; decide)
 have hj := hr.adv hE
 simp only [Adv, Qy.place, Qy.takes, Qy.asks] at hj
 replace hj := hj (by omega)
 refine ⟨fun _ => ⟨rfl, by omega, hj.2, by omega, by omega, Zjd hr h13, ?_, h⟩, fun h => absurd rfl h⟩
 rw [h13]; rfl
theorem StL.plain (hE : Zim W E) (hi : i ≤ E) (h : StG W n0 d x0 i x) (h13 : kdW W i ≠ 13) (hr : Zaa W (.expr i d) (.ok y j)) : StL W E endk n0 d x0 i x y j 0 0 := by
 have hj := hr.adv hE
 simp only [Adv, Qy.place, Qy.takes, Qy.asks] at hj
 replace hj := hj (by omega)
 have hb : ¬ (kdW W i = 0 ∨ kdW W i = 11) := fun hb => by have e := hr.det (Znh hb); cases e
 have hk : y.kind ≠ 11 := hr.kind
 refine ⟨fun _ => ⟨rfl, by omega, hj.2, by omega, by omega, Zc6 hr h13, ?_, h⟩, fun h => absurd rfl h⟩
 exact (beq_eq_false_iff_ne.mpr hk).trans (beq_eq_false_iff_ne.mpr h13).symm
theorem StL.go {tz : Nat} (h : StL W E endk n0 d x0 i x y iz 0 tz) (h14 : kdW W iz = 14) (hl : (kdW W i == 13) = false) : StG W n0 d x0 (iz + 1) (x.kid y) := by
 obtain ⟨_, _, _, h1, h2, h3, h4, h5⟩ := h.1 rfl
 intro r hr
 exact h5 r (Zjb h3 hr h1 h2 h14 (fun e => by rw [e, hl] at h4; cases h4))
theorem StL.out {tz : Nat} (h : StL W E endk n0 d x0 i x y iz 0 tz) (hj : (kdW W iz ≠ 14 ∧ j = iz) ∨ (kdW W iz = 14 ∧ j = iz + 1 ∧ (kdW W i == 13) = true)) : Zaa W (.stmts n0 d x0) (.ok (x.kid y) j) := by
 obtain ⟨_, _, _, h1, h2, h3, h4, h5⟩ := h.1 rfl
 rcases hj with ⟨ha, rfl⟩ | ⟨ha, rfl, hb⟩
 ·exact h5 _ (Zf6 h3 h1 h2 ha)
 exact h5 _ (Zht h3 h1 h2 ha (by rw [hb] at h4; simpa using h4))
theorem Zot.yes (h : Zaa W (.stmts n0 d x0) (.ok y j)) (hk : kdW W j = endk) : Zot W endk n0 d x0 y j 0 0 := ⟨fun _ => ⟨rfl, hk, h⟩, fun h => absurd rfl h⟩
theorem Zot.no (h : Zaa W (.stmts n0 d x0) (.ok y j)) (hk : kdW W j ≠ endk) : Zot W endk n0 d x0 y iz 20 (psW W j) :=
 ⟨fun h => absurd h (by decide), fun _ => ⟨j, rfl, .inr ⟨rfl, y, h, hk⟩⟩⟩
end
section
def gA (x : Nd) : Nd := .mk x.kind x.text x.pos x.names.length x.names x.kids
theorem Zqr (x : Nd) (t : List Int) : gA (x.tmp t) = (gA x).arg t := by simp [gA, Nd.tmp, Nd.arg, Nd.kind, Nd.text, Nd.pos, Nd.n, Nd.names, Nd.kids]
def blk0 (W : List Tk) (n0 : Nat) : Nd := .mk 10 [] (psW W n0) 0 [] []
def QSt (W : List Tk) (q : Qy) (G : Prop) (ei : Int) (ti : Nat) : Prop :=
 (ei = 0 → ti = 0 ∧ G) ∧ (ei ≠ 0 → ∃ j, ti = psW W j ∧ Zaa W q (.er j ei))
variable {G : Prop} {W : List Tk} {d i j n0 : Nat} {q : Qy} {x x0 : Nd}
theorem QSt.live (h : G) : QSt W q G 0 0 := ⟨fun _ => ⟨rfl, h⟩, fun h => absurd rfl h⟩
theorem QSt.dead {ei : Int} (h : Zaa W q (.er j ei)) (he : ei ≠ 0) : QSt W q G ei (psW W j) := ⟨fun h => absurd h he, fun _ => ⟨j, rfl, h⟩⟩
theorem QSt.pass {G' : Prop} {ei : Int} {ti : Nat} (h : QSt W q G ei ti) (he : ei ≠ 0) : QSt W q G' ei ti := ⟨fun h => absurd h he, h.2⟩
def BG1 (W : List Tk) (n0 d i : Nat) (x : Nd) : Prop := d < 40 ∧ ∀ r, Zaa W (.args i (d + 1) (gA x)) r → Zaa W (.args (n0 + 1) (d + 1) (blk0 W n0)) r
def BG2 (W : List Tk) (n0 d i : Nat) (x : Nd) : Prop := d < 40 ∧ Zaa W (.args (n0 + 1) (d + 1) (blk0 W n0)) (.ok x i)
def BG3 (W : List Tk) (n0 d i : Nat) (y : Nd) : Prop := d < 40 ∧ ∃ x j, Zaa W (.args (n0 + 1) (d + 1) (blk0 W n0)) (.ok x j) ∧ ∀ r, Zaa W (.stmts i (d + 1) y) r → Zaa W (.body j (d + 1) x) r
def BG4 (W : List Tk) (n0 d i : Nat) (y : Nd) : Prop := kdW W i = 11 ∧ Zaa W (.block n0 d) (.ok y (i + 1))
theorem BG1.bad (h : BG1 W n0 d i x) (c1 : kdW W i = 16) (c2 : kdW W (i + 1) ≠ 1) : Zaa W (.block n0 d) (.er (i + 1) 20) :=
 Zex (h.2 _ (Zj6 c1 c2)) (by have := h.1; omega)
theorem BG1.go (h : BG1 W n0 d i x) (c1 : kdW W i = 16) (c2 : kdW W (i + 1) = 1) : BG1 W n0 d (i + 2) (x.tmp (txW W (i + 1))) :=
 ⟨h.1, fun r hr => h.2 r (Zl7 (by rw [← Zqr]; exact hr) c1 c2)⟩
theorem BG1.none (h : BG1 W n0 d i x) (c1 : kdW W i ≠ 16) (c2 : x.names.length = 0 ∨ kdW W i = 11) : BG2 W n0 d i (gA x) :=
 ⟨h.1, h.2 _ (c2.elim (fun e => Zh9 c1 e) Zj4)⟩
theorem BG1.bar (h : BG1 W n0 d i x) (c1 : x.names.length ≠ 0) (c2 : kdW W i = 12) : BG2 W n0 d (i + 1) (gA x) :=
 ⟨h.1, h.2 _ (Zj5 c1 c2)⟩
theorem BG1.no (h : BG1 W n0 d i x) (c1 : kdW W i ≠ 16) (c2 : x.names.length ≠ 0) (c3 : kdW W i ≠ 11) (c4 : kdW W i ≠ 12) : Zaa W (.block n0 d) (.er i 20) :=
 Zex (h.2 _ (Zl6 c1 c2 c3 c4)) (by have := h.1; omega)
theorem BG2.plain (h : BG2 W n0 d i x) (hk : kdW W i ≠ 12) : BG3 W n0 d i x := ⟨h.1, x, i, h.2, fun _ hr => Zd1 hr hk⟩
theorem BG2.temps {y : Nd} (h : BG2 W n0 d i x) (hk : kdW W i = 12) (hr : Zaa W (.temps (i + 1) (d + 1) x) (.ok y j)) : BG3 W n0 d j y := ⟨h.1, x, i, h.2, fun _ hs => Zh6 hr hs hk⟩
theorem BG2.er {e : Int} (h : BG2 W n0 d i x) (hk : kdW W i = 12) (hr : Zaa W (.temps (i + 1) (d + 1) x) (.er j e)) : Zaa W (.block n0 d) (.er j e) :=
 Zew h.2 (Zh7 hr hk) (by have := h.1; omega)
theorem BG3.stm {y : Nd} {iz tz : Nat} {ez : Int} (h : BG3 W n0 d i x) (hs : Zot W 11 i (d + 1) x y iz ez tz) : QSt W (.block n0 d) (BG4 W n0 d iz y) ez tz := by
 obtain ⟨hd, x0, j, h1, h2⟩ := h
 refine ⟨fun e => ⟨(hs.1 e).1, (hs.1 e).2.1, Zj1 h1 (h2 _ (hs.1 e).2.2) (by omega) (hs.1 e).2.1⟩, fun e => ?_⟩
 obtain ⟨k, hk, h3 | ⟨rfl, z, h3, h4⟩⟩ := hs.2 e
 ·exact ⟨k, hk, Zew h1 (h2 _ h3) (by omega)⟩
 exact ⟨k, hk, Zj0 h1 (h2 _ h3) (by omega) h4⟩
def PG1 (W : List Tk) (n0 d : Nat) (x0 : Nd) (i : Nat) (x : Nd) : Prop := ∀ r, Zaa W (.keyP i d (gA x)) r → Zaa W (.pat n0 d x0) r
theorem gA_say (x : Nd) (t : List Int) : gA (x.say t) = (gA x).say t := rfl
theorem PG1.go (h : PG1 W n0 d x0 i x) (c1 : kdW W i = 2) (c2 : kdW W (i + 1) = 1) : PG1 W n0 d x0 (i + 2) ((x.say (txW W i)).tmp (txW W (i + 1))) :=
 fun r hr => h r (Zl3 (by rw [Zqr, gA_say] at hr; exact hr) c1 c2)
theorem PG1.bad (h : PG1 W n0 d x0 i x) (c1 : kdW W i = 2) (c2 : kdW W (i + 1) ≠ 1) : Zaa W (.pat n0 d x0) (.er (i + 1) 20) := h _ (Zjn c1 c2)
theorem PG1.fin (h : PG1 W n0 d x0 i x) (c1 : kdW W i ≠ 2) : Zaa W (.pat n0 d x0) (.ok (gA x) i) := h _ (Zjm c1)
end
end Go.Proofs.YtncfmhlikmibaaaGreatDoor
