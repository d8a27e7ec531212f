/- The grammar, step by step: from what is asked for to what is read. -/
import Derived.Test.YtoghhjljmhdioaaTreM
namespace Go.Proofs.Ytoghhjljmhdioaa
theorem R_expr_casc {W : List Tk} {i : Nat} {d : Nat} {r : Rs} (h1 : Reads W (.casc i d) (r)) (c1 : ¬ (kdW W i = 1 ∧ kdW W (i + 1) = 7)) : Reads W (.expr i d) (r) := by
  obtain ⟨f1, e1⟩ := h1
  replace e1 := run_le W (Nat.le_refl f1) _ _ e1
  refine ⟨f1 + 1, ?_⟩
  show stepW W (runW W f1) (.expr i d) = some (r)
  generalize f1 = f at *
  simp [stepW, e1, c1]
theorem R_expr_deep {W : List Tk} {i : Nat} {d : Nat}  (c1 : kdW W i = 1) (c2 : kdW W (i + 1) = 7) (c3 : d = 40) : Reads W (.expr i d) (.er (i + 1) 3) := by
  refine ⟨0 + 1, ?_⟩
  show stepW W (runW W 0) (.expr i d) = some (.er (i + 1) 3)
  simp [stepW, c1, c2, c3]
theorem R_expr_set {W : List Tk} {i : Nat} {j : Nat} {d : Nat} {x : Nd} (h1 : Reads W (.expr (i + 2) (d + 1)) (.ok x j)) (c1 : kdW W i = 1) (c2 : kdW W (i + 1) = 7) (c3 : d ≠ 40) : Reads W (.expr i d) (.ok (.mk 6 (txW W i) (psW W i) 0 [] [x]) j) := by
  obtain ⟨f1, e1⟩ := h1
  replace e1 := run_le W (Nat.le_refl f1) _ _ e1
  refine ⟨f1 + 1, ?_⟩
  show stepW W (runW W f1) (.expr i d) = some (.ok (.mk 6 (txW W i) (psW W i) 0 [] [x]) j)
  generalize f1 = f at *
  simp [stepW, Rs.bind, e1, c1, c2, c3]
theorem R_expr_er {W : List Tk} {i : Nat} {j : Nat} {d : Nat} {e : Int} (h1 : Reads W (.expr (i + 2) (d + 1)) (.er j e)) (c1 : kdW W i = 1) (c2 : kdW W (i + 1) = 7) (c3 : d ≠ 40) : Reads W (.expr i d) (.er j e) := by
  obtain ⟨f1, e1⟩ := h1
  replace e1 := run_le W (Nat.le_refl f1) _ _ e1
  refine ⟨f1 + 1, ?_⟩
  show stepW W (runW W f1) (.expr i d) = some (.er j e)
  generalize f1 = f at *
  simp [stepW, Rs.bind, e1, c1, c2, c3]
theorem R_casc_er1 {W : List Tk} {i : Nat} {j : Nat} {d : Nat} {e : Int} (h1 : Reads W (.prim i d) (.er j e))  : Reads W (.casc i d) (.er j e) := by
  obtain ⟨f1, e1⟩ := h1
  replace e1 := run_le W (Nat.le_refl f1) _ _ e1
  refine ⟨f1 + 1, ?_⟩
  show stepW W (runW W f1) (.casc i d) = some (.er j e)
  generalize f1 = f at *
  simp [stepW, Rs.bind, e1]
theorem R_casc_er2 {W : List Tk} {i : Nat} {j : Nat} {k : Nat} {d : Nat} {e : Int} {x : Nd} (h1 : Reads W (.prim i d) (.ok x j)) (h2 : Reads W (.keyOf j d x) (.er k e))  : Reads W (.casc i d) (.er k e) := by
  obtain ⟨f1, e1⟩ := h1; obtain ⟨f2, e2⟩ := h2
  replace e1 := run_le W (Nat.le_add_right f1 f2) _ _ e1
  replace e2 := run_le W (Nat.le_add_left f2 f1) _ _ e2
  refine ⟨(f1 + f2) + 1, ?_⟩
  show stepW W (runW W (f1 + f2)) (.casc i d) = some (.er k e)
  generalize (f1 + f2) = f at *
  simp [stepW, Rs.bind, e1, e2]
theorem R_casc_no {W : List Tk} {i : Nat} {j : Nat} {k : Nat} {d : Nat} {x : Nd} {y : Nd} (h1 : Reads W (.prim i d) (.ok x j)) (h2 : Reads W (.keyOf j d x) (.ok y k)) (c1 : kdW W k ≠ 15) : Reads W (.casc i d) (.ok y k) := by
  obtain ⟨f1, e1⟩ := h1; obtain ⟨f2, e2⟩ := h2
  replace e1 := run_le W (Nat.le_add_right f1 f2) _ _ e1
  replace e2 := run_le W (Nat.le_add_left f2 f1) _ _ e2
  refine ⟨(f1 + f2) + 1, ?_⟩
  show stepW W (runW W (f1 + f2)) (.casc i d) = some (.ok y k)
  generalize (f1 + f2) = f at *
  simp [stepW, Rs.bind, e1, e2, c1]
theorem R_casc_bad {W : List Tk} {i : Nat} {j : Nat} {d : Nat} {x : Nd} {y : Nd} (h1 : Reads W (.prim i d) (.ok x j)) (h2 : Reads W (.keyOf j d x) (.ok y j)) (c1 : kdW W j = 15) : Reads W (.casc i d) (.er j 20) := by
  obtain ⟨f1, e1⟩ := h1; obtain ⟨f2, e2⟩ := h2
  replace e1 := run_le W (Nat.le_add_right f1 f2) _ _ e1
  replace e2 := run_le W (Nat.le_add_left f2 f1) _ _ e2
  refine ⟨(f1 + f2) + 1, ?_⟩
  show stepW W (runW W (f1 + f2)) (.casc i d) = some (.er j 20)
  generalize (f1 + f2) = f at *
  simp [stepW, Rs.bind, e1, e2, c1]
theorem R_casc_oth {W : List Tk} {i : Nat} {j : Nat} {k : Nat} {d : Nat} {x : Nd} {y : Nd} {r : Rs} (h1 : Reads W (.prim i d) (.ok x j)) (h2 : Reads W (.keyOf j d x) (.ok y k)) (h3 : Reads W (.others k d (cascN y)) (r)) (c1 : k ≠ j) (c2 : kdW W k = 15) : Reads W (.casc i d) (r) := by
  obtain ⟨f1, e1⟩ := h1; obtain ⟨f2, e2⟩ := h2; obtain ⟨f3, e3⟩ := h3
  replace e1 := run_le W (Nat.le_trans (Nat.le_add_right f1 f2) (Nat.le_add_right _ f3)) _ _ e1
  replace e2 := run_le W (Nat.le_trans (Nat.le_add_left f2 f1) (Nat.le_add_right _ f3)) _ _ e2
  replace e3 := run_le W (Nat.le_add_left f3 (f1 + f2)) _ _ e3
  refine ⟨(f1 + f2 + f3) + 1, ?_⟩
  show stepW W (runW W (f1 + f2 + f3)) (.casc i d) = some (r)
  generalize (f1 + f2 + f3) = f at *
  simp [stepW, Rs.bind, e1, e2, e3, c1, c2]
theorem R_others_end {W : List Tk} {i : Nat} {d : Nat} {x : Nd}  (c1 : kdW W i ≠ 15) : Reads W (.others i d x) (.ok x i) := by
  refine ⟨0 + 1, ?_⟩
  show stepW W (runW W 0) (.others i d x) = some (.ok x i)
  simp [stepW, c1]
theorem R_others_er {W : List Tk} {i : Nat} {j : Nat} {d : Nat} {e : Int} {x : Nd} (h1 : Reads W (.msg (i + 1) d) (.er j e)) (c1 : kdW W i = 15) : Reads W (.others i d x) (.er j e) := by
  obtain ⟨f1, e1⟩ := h1
  replace e1 := run_le W (Nat.le_refl f1) _ _ e1
  refine ⟨f1 + 1, ?_⟩
  show stepW W (runW W f1) (.others i d x) = some (.er j e)
  generalize f1 = f at *
  simp [stepW, Rs.bind, e1, c1]
theorem R_others_go {W : List Tk} {i : Nat} {j : Nat} {d : Nat} {x : Nd} {m : Nd} {r : Rs} (h1 : Reads W (.msg (i + 1) d) (.ok m j)) (h2 : Reads W (.others j d (x.kid m)) (r)) (c1 : kdW W i = 15) : Reads W (.others i d x) (r) := by
  obtain ⟨f1, e1⟩ := h1; obtain ⟨f2, e2⟩ := h2
  replace e1 := run_le W (Nat.le_add_right f1 f2) _ _ e1
  replace e2 := run_le W (Nat.le_add_left f2 f1) _ _ e2
  refine ⟨(f1 + f2) + 1, ?_⟩
  show stepW W (runW W (f1 + f2)) (.others i d x) = some (r)
  generalize (f1 + f2) = f at *
  simp [stepW, Rs.bind, e1, e2, c1]
theorem R_msg_name {W : List Tk} {i : Nat} {d : Nat}  (c1 : kdW W i = 1) : Reads W (.msg i d) (.ok (msgN (txW W i) (psW W i) []) (i + 1)) := by
  refine ⟨0 + 1, ?_⟩
  show stepW W (runW W 0) (.msg i d) = some (.ok (msgN (txW W i) (psW W i) []) (i + 1))
  simp [stepW, c1]
theorem R_msg_sign {W : List Tk} {i : Nat} {j : Nat} {d : Nat} {x : Nd} (h1 : Reads W (.una (i + 1) d) (.ok x j)) (c1 : kdW W i = 3) : Reads W (.msg i d) (.ok (msgN (txW W i) (psW W i) [x]) j) := by
  obtain ⟨f1, e1⟩ := h1
  replace e1 := run_le W (Nat.le_refl f1) _ _ e1
  refine ⟨f1 + 1, ?_⟩
  show stepW W (runW W f1) (.msg i d) = some (.ok (msgN (txW W i) (psW W i) [x]) j)
  generalize f1 = f at *
  simp [stepW, Rs.bind, e1, c1]
theorem R_msg_signer {W : List Tk} {i : Nat} {j : Nat} {d : Nat} {e : Int} (h1 : Reads W (.una (i + 1) d) (.er j e)) (c1 : kdW W i = 3) : Reads W (.msg i d) (.er j e) := by
  obtain ⟨f1, e1⟩ := h1
  replace e1 := run_le W (Nat.le_refl f1) _ _ e1
  refine ⟨f1 + 1, ?_⟩
  show stepW W (runW W f1) (.msg i d) = some (.er j e)
  generalize f1 = f at *
  simp [stepW, Rs.bind, e1, c1]
theorem R_msg_keys {W : List Tk} {i : Nat} {d : Nat} {r : Rs} (h1 : Reads W (.keys i d (msgN [] (psW W i) [])) (r)) (c1 : kdW W i = 2) : Reads W (.msg i d) (r) := by
  obtain ⟨f1, e1⟩ := h1
  replace e1 := run_le W (Nat.le_refl f1) _ _ e1
  refine ⟨f1 + 1, ?_⟩
  show stepW W (runW W f1) (.msg i d) = some (r)
  generalize f1 = f at *
  simp [stepW, e1, c1]
theorem R_msg_bad {W : List Tk} {i : Nat} {d : Nat}  (c1 : kdW W i ≠ 1) (c2 : kdW W i ≠ 2) (c3 : kdW W i ≠ 3) : Reads W (.msg i d) (.er i 20) := by
  refine ⟨0 + 1, ?_⟩
  show stepW W (runW W 0) (.msg i d) = some (.er i 20)
  simp [stepW, c1, c2, c3]
theorem R_keys_end {W : List Tk} {i : Nat} {d : Nat} {x : Nd}  (c1 : kdW W i ≠ 2) : Reads W (.keys i d x) (.ok x i) := by
  refine ⟨0 + 1, ?_⟩
  show stepW W (runW W 0) (.keys i d x) = some (.ok x i)
  simp [stepW, c1]
theorem R_keys_er {W : List Tk} {i : Nat} {j : Nat} {d : Nat} {e : Int} {x : Nd} (h1 : Reads W (.bin (i + 1) d) (.er j e)) (c1 : kdW W i = 2) : Reads W (.keys i d x) (.er j e) := by
  obtain ⟨f1, e1⟩ := h1
  replace e1 := run_le W (Nat.le_refl f1) _ _ e1
  refine ⟨f1 + 1, ?_⟩
  show stepW W (runW W f1) (.keys i d x) = some (.er j e)
  generalize f1 = f at *
  simp [stepW, Rs.bind, e1, c1]
theorem R_keys_go {W : List Tk} {i : Nat} {j : Nat} {d : Nat} {x : Nd} {y : Nd} {r : Rs} (h1 : Reads W (.bin (i + 1) d) (.ok y j)) (h2 : Reads W (.keys j d ((x.say (txW W i)).kid y)) (r)) (c1 : kdW W i = 2) : Reads W (.keys i d x) (r) := by
  obtain ⟨f1, e1⟩ := h1; obtain ⟨f2, e2⟩ := h2
  replace e1 := run_le W (Nat.le_add_right f1 f2) _ _ e1
  replace e2 := run_le W (Nat.le_add_left f2 f1) _ _ e2
  refine ⟨(f1 + f2) + 1, ?_⟩
  show stepW W (runW W (f1 + f2)) (.keys i d x) = some (r)
  generalize (f1 + f2) = f at *
  simp [stepW, Rs.bind, e1, e2, c1]
theorem R_keyOf_er1 {W : List Tk} {i : Nat} {j : Nat} {k : Nat} {d : Nat} {e : Int} {x : Nd} {y : Nd} (h1 : Reads W (.unaOf i d x) (.ok y j)) (h2 : Reads W (.binOf j d y) (.er k e))  : Reads W (.keyOf i d x) (.er k e) := by
  obtain ⟨f1, e1⟩ := h1; obtain ⟨f2, e2⟩ := h2
  replace e1 := run_le W (Nat.le_add_right f1 f2) _ _ e1
  replace e2 := run_le W (Nat.le_add_left f2 f1) _ _ e2
  refine ⟨(f1 + f2) + 1, ?_⟩
  show stepW W (runW W (f1 + f2)) (.keyOf i d x) = some (.er k e)
  generalize (f1 + f2) = f at *
  simp [stepW, Rs.bind, e1, e2]
theorem R_keyOf_no {W : List Tk} {i : Nat} {j : Nat} {k : Nat} {d : Nat} {x : Nd} {y : Nd} {m : Nd} (h1 : Reads W (.unaOf i d x) (.ok y j)) (h2 : Reads W (.binOf j d y) (.ok m k)) (c1 : kdW W k ≠ 2) : Reads W (.keyOf i d x) (.ok m k) := by
  obtain ⟨f1, e1⟩ := h1; obtain ⟨f2, e2⟩ := h2
  replace e1 := run_le W (Nat.le_add_right f1 f2) _ _ e1
  replace e2 := run_le W (Nat.le_add_left f2 f1) _ _ e2
  refine ⟨(f1 + f2) + 1, ?_⟩
  show stepW W (runW W (f1 + f2)) (.keyOf i d x) = some (.ok m k)
  generalize (f1 + f2) = f at *
  simp [stepW, Rs.bind, e1, e2, c1]
theorem R_keyOf_er2 {W : List Tk} {i : Nat} {j : Nat} {k : Nat} {l : Nat} {d : Nat} {e : Int} {x : Nd} {y : Nd} {m : Nd} (h1 : Reads W (.unaOf i d x) (.ok y j)) (h2 : Reads W (.binOf j d y) (.ok m k)) (h3 : Reads W (.keys k d (msgN [] (psW W k) [])) (.er l e)) (c1 : kdW W k = 2) : Reads W (.keyOf i d x) (.er l e) := by
  obtain ⟨f1, e1⟩ := h1; obtain ⟨f2, e2⟩ := h2; obtain ⟨f3, e3⟩ := h3
  replace e1 := run_le W (Nat.le_trans (Nat.le_add_right f1 f2) (Nat.le_add_right _ f3)) _ _ e1
  replace e2 := run_le W (Nat.le_trans (Nat.le_add_left f2 f1) (Nat.le_add_right _ f3)) _ _ e2
  replace e3 := run_le W (Nat.le_add_left f3 (f1 + f2)) _ _ e3
  refine ⟨(f1 + f2 + f3) + 1, ?_⟩
  show stepW W (runW W (f1 + f2 + f3)) (.keyOf i d x) = some (.er l e)
  generalize (f1 + f2 + f3) = f at *
  simp [stepW, Rs.bind, e1, e2, e3, c1]
theorem R_keyOf_go {W : List Tk} {i : Nat} {j : Nat} {k : Nat} {l : Nat} {d : Nat} {x : Nd} {y : Nd} {m : Nd} {z : Nd} (h1 : Reads W (.unaOf i d x) (.ok y j)) (h2 : Reads W (.binOf j d y) (.ok m k)) (h3 : Reads W (.keys k d (msgN [] (psW W k) [])) (.ok z l)) (c1 : kdW W k = 2) : Reads W (.keyOf i d x) (.ok (sentN m z) l) := by
  obtain ⟨f1, e1⟩ := h1; obtain ⟨f2, e2⟩ := h2; obtain ⟨f3, e3⟩ := h3
  replace e1 := run_le W (Nat.le_trans (Nat.le_add_right f1 f2) (Nat.le_add_right _ f3)) _ _ e1
  replace e2 := run_le W (Nat.le_trans (Nat.le_add_left f2 f1) (Nat.le_add_right _ f3)) _ _ e2
  replace e3 := run_le W (Nat.le_add_left f3 (f1 + f2)) _ _ e3
  refine ⟨(f1 + f2 + f3) + 1, ?_⟩
  show stepW W (runW W (f1 + f2 + f3)) (.keyOf i d x) = some (.ok (sentN m z) l)
  generalize (f1 + f2 + f3) = f at *
  simp [stepW, Rs.bind, e1, e2, e3, c1]
theorem R_unaOf_end {W : List Tk} {i : Nat} {d : Nat} {x : Nd}  (c1 : kdW W i ≠ 1) : Reads W (.unaOf i d x) (.ok x i) := by
  refine ⟨0 + 1, ?_⟩
  show stepW W (runW W 0) (.unaOf i d x) = some (.ok x i)
  simp [stepW, c1]
theorem R_unaOf_go {W : List Tk} {i : Nat} {d : Nat} {x : Nd} {r : Rs} (h1 : Reads W (.unaOf (i + 1) d (sentN x (msgN (txW W i) (psW W i) []))) (r)) (c1 : kdW W i = 1) : Reads W (.unaOf i d x) (r) := by
  obtain ⟨f1, e1⟩ := h1
  replace e1 := run_le W (Nat.le_refl f1) _ _ e1
  refine ⟨f1 + 1, ?_⟩
  show stepW W (runW W f1) (.unaOf i d x) = some (r)
  generalize f1 = f at *
  simp [stepW, e1, c1]
theorem R_binOf_end {W : List Tk} {i : Nat} {d : Nat} {x : Nd}  (c1 : kdW W i ≠ 3) : Reads W (.binOf i d x) (.ok x i) := by
  refine ⟨0 + 1, ?_⟩
  show stepW W (runW W 0) (.binOf i d x) = some (.ok x i)
  simp [stepW, c1]
theorem R_binOf_er {W : List Tk} {i : Nat} {j : Nat} {d : Nat} {e : Int} {x : Nd} (h1 : Reads W (.una (i + 1) d) (.er j e)) (c1 : kdW W i = 3) : Reads W (.binOf i d x) (.er j e) := by
  obtain ⟨f1, e1⟩ := h1
  replace e1 := run_le W (Nat.le_refl f1) _ _ e1
  refine ⟨f1 + 1, ?_⟩
  show stepW W (runW W f1) (.binOf i d x) = some (.er j e)
  generalize f1 = f at *
  simp [stepW, Rs.bind, e1, c1]
theorem R_binOf_go {W : List Tk} {i : Nat} {j : Nat} {d : Nat} {x : Nd} {y : Nd} {r : Rs} (h1 : Reads W (.una (i + 1) d) (.ok y j)) (h2 : Reads W (.binOf j d (sentN x (msgN (txW W i) (psW W i) [y]))) (r)) (c1 : kdW W i = 3) : Reads W (.binOf i d x) (r) := by
  obtain ⟨f1, e1⟩ := h1; obtain ⟨f2, e2⟩ := h2
  replace e1 := run_le W (Nat.le_add_right f1 f2) _ _ e1
  replace e2 := run_le W (Nat.le_add_left f2 f1) _ _ e2
  refine ⟨(f1 + f2) + 1, ?_⟩
  show stepW W (runW W (f1 + f2)) (.binOf i d x) = some (r)
  generalize (f1 + f2) = f at *
  simp [stepW, Rs.bind, e1, e2, c1]
theorem R_bin_er {W : List Tk} {i : Nat} {j : Nat} {d : Nat} {e : Int} (h1 : Reads W (.una i d) (.er j e))  : Reads W (.bin i d) (.er j e) := by
  obtain ⟨f1, e1⟩ := h1
  replace e1 := run_le W (Nat.le_refl f1) _ _ e1
  refine ⟨f1 + 1, ?_⟩
  show stepW W (runW W f1) (.bin i d) = some (.er j e)
  generalize f1 = f at *
  simp [stepW, Rs.bind, e1]
theorem R_bin_go {W : List Tk} {i : Nat} {j : Nat} {d : Nat} {x : Nd} {r : Rs} (h1 : Reads W (.una i d) (.ok x j)) (h2 : Reads W (.binOf j d x) (r))  : Reads W (.bin i d) (r) := by
  obtain ⟨f1, e1⟩ := h1; obtain ⟨f2, e2⟩ := h2
  replace e1 := run_le W (Nat.le_add_right f1 f2) _ _ e1
  replace e2 := run_le W (Nat.le_add_left f2 f1) _ _ e2
  refine ⟨(f1 + f2) + 1, ?_⟩
  show stepW W (runW W (f1 + f2)) (.bin i d) = some (r)
  generalize (f1 + f2) = f at *
  simp [stepW, Rs.bind, e1, e2]
theorem R_una_er {W : List Tk} {i : Nat} {j : Nat} {d : Nat} {e : Int} (h1 : Reads W (.prim i d) (.er j e))  : Reads W (.una i d) (.er j e) := by
  obtain ⟨f1, e1⟩ := h1
  replace e1 := run_le W (Nat.le_refl f1) _ _ e1
  refine ⟨f1 + 1, ?_⟩
  show stepW W (runW W f1) (.una i d) = some (.er j e)
  generalize f1 = f at *
  simp [stepW, Rs.bind, e1]
theorem R_una_go {W : List Tk} {i : Nat} {j : Nat} {d : Nat} {x : Nd} {r : Rs} (h1 : Reads W (.prim i d) (.ok x j)) (h2 : Reads W (.unaOf j d x) (r))  : Reads W (.una i d) (r) := by
  obtain ⟨f1, e1⟩ := h1; obtain ⟨f2, e2⟩ := h2
  replace e1 := run_le W (Nat.le_add_right f1 f2) _ _ e1
  replace e2 := run_le W (Nat.le_add_left f2 f1) _ _ e2
  refine ⟨(f1 + f2) + 1, ?_⟩
  show stepW W (runW W (f1 + f2)) (.una i d) = some (r)
  generalize (f1 + f2) = f at *
  simp [stepW, Rs.bind, e1, e2]
theorem R_prim_var {W : List Tk} {i : Nat} {d : Nat}  (c1 : kdW W i = 1) : Reads W (.prim i d) (.ok (leafW W 5 i) (i + 1)) := by
  refine ⟨0 + 1, ?_⟩
  show stepW W (runW W 0) (.prim i d) = some (.ok (leafW W 5 i) (i + 1))
  simp [stepW, c1]
theorem R_prim_deep {W : List Tk} {i : Nat} {d : Nat}  (c1 : kdW W i = 8) (c2 : d = 40) : Reads W (.prim i d) (.er i 3) := by
  refine ⟨0 + 1, ?_⟩
  show stepW W (runW W 0) (.prim i d) = some (.er i 3)
  simp [stepW, c1, c2]
theorem R_prim_oper {W : List Tk} {i : Nat} {j : Nat} {d : Nat} {e : Int} (h1 : Reads W (.expr (i + 1) (d + 1)) (.er j e)) (c1 : kdW W i = 8) (c2 : d ≠ 40) : Reads W (.prim i d) (.er j e) := by
  obtain ⟨f1, e1⟩ := h1
  replace e1 := run_le W (Nat.le_refl f1) _ _ e1
  refine ⟨f1 + 1, ?_⟩
  show stepW W (runW W f1) (.prim i d) = some (.er j e)
  generalize f1 = f at *
  simp [stepW, Rs.bind, e1, c1, c2]
theorem R_prim_open {W : List Tk} {i : Nat} {j : Nat} {d : Nat} {x : Nd} (h1 : Reads W (.expr (i + 1) (d + 1)) (.ok x j)) (c1 : kdW W i = 8) (c2 : d ≠ 40) (c3 : kdW W j = 9) : Reads W (.prim i d) (.ok x (j + 1)) := by
  obtain ⟨f1, e1⟩ := h1
  replace e1 := run_le W (Nat.le_refl f1) _ _ e1
  refine ⟨f1 + 1, ?_⟩
  show stepW W (runW W f1) (.prim i d) = some (.ok x (j + 1))
  generalize f1 = f at *
  simp [stepW, Rs.bind, e1, c1, c2, c3]
theorem R_prim_no {W : List Tk} {i : Nat} {j : Nat} {d : Nat} {x : Nd} (h1 : Reads W (.expr (i + 1) (d + 1)) (.ok x j)) (c1 : kdW W i = 8) (c2 : d ≠ 40) (c3 : kdW W j ≠ 9) : Reads W (.prim i d) (.er j 20) := by
  obtain ⟨f1, e1⟩ := h1
  replace e1 := run_le W (Nat.le_refl f1) _ _ e1
  refine ⟨f1 + 1, ?_⟩
  show stepW W (runW W f1) (.prim i d) = some (.er j 20)
  generalize f1 = f at *
  simp [stepW, Rs.bind, e1, c1, c2, c3]
theorem R_prim_block {W : List Tk} {i : Nat} {d : Nat} {r : Rs} (h1 : Reads W (.block i d) (r)) (c1 : kdW W i = 10) : Reads W (.prim i d) (r) := by
  obtain ⟨f1, e1⟩ := h1
  replace e1 := run_le W (Nat.le_refl f1) _ _ e1
  refine ⟨f1 + 1, ?_⟩
  show stepW W (runW W f1) (.prim i d) = some (r)
  generalize f1 = f at *
  simp [stepW, e1, c1]
theorem R_prim_num {W : List Tk} {i : Nat} {d : Nat}  (c1 : kdW W i = 4) : Reads W (.prim i d) (.ok (leafW W 1 i) (i + 1)) := by
  refine ⟨0 + 1, ?_⟩
  show stepW W (runW W 0) (.prim i d) = some (.ok (leafW W 1 i) (i + 1))
  simp [stepW, litW, c1]
theorem R_prim_str {W : List Tk} {i : Nat} {d : Nat}  (c1 : kdW W i = 5) : Reads W (.prim i d) (.ok (leafW W 2 i) (i + 1)) := by
  refine ⟨0 + 1, ?_⟩
  show stepW W (runW W 0) (.prim i d) = some (.ok (leafW W 2 i) (i + 1))
  simp [stepW, litW, c1]
theorem R_prim_sym {W : List Tk} {i : Nat} {d : Nat}  (c1 : kdW W i = 6) : Reads W (.prim i d) (.ok (leafW W 3 i) (i + 1)) := by
  refine ⟨0 + 1, ?_⟩
  show stepW W (runW W 0) (.prim i d) = some (.ok (leafW W 3 i) (i + 1))
  simp [stepW, litW, c1]
theorem R_prim_list {W : List Tk} {i : Nat} {d : Nat} {r : Rs} (h1 : Reads W (.list i d) (r)) (c1 : kdW W i = 17) : Reads W (.prim i d) (r) := by
  obtain ⟨f1, e1⟩ := h1
  replace e1 := run_le W (Nat.le_refl f1) _ _ e1
  refine ⟨f1 + 1, ?_⟩
  show stepW W (runW W f1) (.prim i d) = some (r)
  generalize f1 = f at *
  simp [stepW, litW, e1, c1]
theorem R_elem_num {W : List Tk} {i : Nat} {d : Nat}  (c1 : kdW W i = 4) : Reads W (.elem i d) (.ok (leafW W 1 i) (i + 1)) := by
  refine ⟨0 + 1, ?_⟩
  show stepW W (runW W 0) (.elem i d) = some (.ok (leafW W 1 i) (i + 1))
  simp [stepW, litW, c1]
theorem R_elem_str {W : List Tk} {i : Nat} {d : Nat}  (c1 : kdW W i = 5) : Reads W (.elem i d) (.ok (leafW W 2 i) (i + 1)) := by
  refine ⟨0 + 1, ?_⟩
  show stepW W (runW W 0) (.elem i d) = some (.ok (leafW W 2 i) (i + 1))
  simp [stepW, litW, c1]
theorem R_elem_sym {W : List Tk} {i : Nat} {d : Nat}  (c1 : kdW W i = 6) : Reads W (.elem i d) (.ok (leafW W 3 i) (i + 1)) := by
  refine ⟨0 + 1, ?_⟩
  show stepW W (runW W 0) (.elem i d) = some (.ok (leafW W 3 i) (i + 1))
  simp [stepW, litW, c1]
theorem R_elem_list {W : List Tk} {i : Nat} {d : Nat} {r : Rs} (h1 : Reads W (.list i d) (r)) (c1 : kdW W i = 17) : Reads W (.elem i d) (r) := by
  obtain ⟨f1, e1⟩ := h1
  replace e1 := run_le W (Nat.le_refl f1) _ _ e1
  refine ⟨f1 + 1, ?_⟩
  show stepW W (runW W f1) (.elem i d) = some (r)
  generalize f1 = f at *
  simp [stepW, litW, e1, c1]
theorem R_prim_bad {W : List Tk} {i : Nat} {d : Nat}  (c1 : kdW W i ≠ 1) (c2 : kdW W i ≠ 8) (c3 : kdW W i ≠ 10) (c4 : kdW W i ≠ 4) (c5 : kdW W i ≠ 5) (c6 : kdW W i ≠ 6) (c7 : kdW W i ≠ 17) : Reads W (.prim i d) (.er i 20) := by
  refine ⟨0 + 1, ?_⟩
  show stepW W (runW W 0) (.prim i d) = some (.er i 20)
  simp [stepW, litW, c1, c2, c3, c4, c5, c6, c7]
theorem R_elem_bad {W : List Tk} {i : Nat} {d : Nat}  (c1 : kdW W i ≠ 1) (c2 : kdW W i ≠ 2) (c3 : kdW W i ≠ 3) (c4 : kdW W i ≠ 8) (c5 : kdW W i ≠ 4) (c6 : kdW W i ≠ 5) (c7 : kdW W i ≠ 6) (c8 : kdW W i ≠ 17) : Reads W (.elem i d) (.er i 20) := by
  refine ⟨0 + 1, ?_⟩
  show stepW W (runW W 0) (.elem i d) = some (.er i 20)
  simp [stepW, litW, c1, c2, c3, c4, c5, c6, c7, c8]
theorem R_elem_word {W : List Tk} {i : Nat} {d : Nat}  (c1 : kdW W i = 1) (c2 : txW W i = trueT ∨ txW W i = falseT ∨ txW W i = nilT) : Reads W (.elem i d) (.ok (leafW W 13 i) (i + 1)) := by
  refine ⟨0 + 1, ?_⟩
  show stepW W (runW W 0) (.elem i d) = some (.ok (leafW W 13 i) (i + 1))
  simp [stepW, c1, c2]
theorem R_elem_name {W : List Tk} {i : Nat} {d : Nat}  (c1 : kdW W i = 1) (c2 : ¬ (txW W i = trueT ∨ txW W i = falseT ∨ txW W i = nilT)) : Reads W (.elem i d) (.ok (leafW W 3 i) (i + 1)) := by
  refine ⟨0 + 1, ?_⟩
  show stepW W (runW W 0) (.elem i d) = some (.ok (leafW W 3 i) (i + 1))
  simp [stepW, c1, c2]
theorem R_elem_key {W : List Tk} {i : Nat} {d : Nat}  (c1 : kdW W i = 2) : Reads W (.elem i d) (.ok (leafW W 3 i) (i + 1)) := by
  refine ⟨0 + 1, ?_⟩
  show stepW W (runW W 0) (.elem i d) = some (.ok (leafW W 3 i) (i + 1))
  simp [stepW, c1]
theorem R_elem_sign {W : List Tk} {i : Nat} {d : Nat}  (c1 : kdW W i = 3) : Reads W (.elem i d) (.ok (leafW W 3 i) (i + 1)) := by
  refine ⟨0 + 1, ?_⟩
  show stepW W (runW W 0) (.elem i d) = some (.ok (leafW W 3 i) (i + 1))
  simp [stepW, c1]
theorem R_elem_open {W : List Tk} {i : Nat} {d : Nat} {r : Rs} (h1 : Reads W (.list i d) (r)) (c1 : kdW W i = 8) : Reads W (.elem i d) (r) := by
  obtain ⟨f1, e1⟩ := h1
  replace e1 := run_le W (Nat.le_refl f1) _ _ e1
  refine ⟨f1 + 1, ?_⟩
  show stepW W (runW W f1) (.elem i d) = some (r)
  generalize f1 = f at *
  simp [stepW, e1, c1]
theorem R_list_deep {W : List Tk} {i : Nat} {d : Nat}  (c1 : d = 40) : Reads W (.list i d) (.er i 3) := by
  refine ⟨0 + 1, ?_⟩
  show stepW W (runW W 0) (.list i d) = some (.er i 3)
  simp [stepW, c1]
theorem R_list_go {W : List Tk} {i : Nat} {d : Nat} {r : Rs} (h1 : Reads W (.elems (i + 1) (d + 1) (.mk 4 [] (psW W i) 0 [] [])) (r)) (c1 : d ≠ 40) : Reads W (.list i d) (r) := by
  obtain ⟨f1, e1⟩ := h1
  replace e1 := run_le W (Nat.le_refl f1) _ _ e1
  refine ⟨f1 + 1, ?_⟩
  show stepW W (runW W f1) (.list i d) = some (r)
  generalize f1 = f at *
  simp [stepW, e1, c1]
theorem R_elems_end {W : List Tk} {i : Nat} {d : Nat} {x : Nd}  (c1 : kdW W i = 9) : Reads W (.elems i d x) (.ok x (i + 1)) := by
  refine ⟨0 + 1, ?_⟩
  show stepW W (runW W 0) (.elems i d x) = some (.ok x (i + 1))
  simp [stepW, c1]
theorem R_elems_er {W : List Tk} {i : Nat} {j : Nat} {d : Nat} {e : Int} {x : Nd} (h1 : Reads W (.elem i d) (.er j e)) (c1 : kdW W i ≠ 9) : Reads W (.elems i d x) (.er j e) := by
  obtain ⟨f1, e1⟩ := h1
  replace e1 := run_le W (Nat.le_refl f1) _ _ e1
  refine ⟨f1 + 1, ?_⟩
  show stepW W (runW W f1) (.elems i d x) = some (.er j e)
  generalize f1 = f at *
  simp [stepW, Rs.bind, e1, c1]
theorem R_elems_go {W : List Tk} {i : Nat} {j : Nat} {d : Nat} {x : Nd} {y : Nd} {r : Rs} (h1 : Reads W (.elem i d) (.ok y j)) (h2 : Reads W (.elems j d (x.kid y)) (r)) (c1 : kdW W i ≠ 9) : Reads W (.elems i d x) (r) := by
  obtain ⟨f1, e1⟩ := h1; obtain ⟨f2, e2⟩ := h2
  replace e1 := run_le W (Nat.le_add_right f1 f2) _ _ e1
  replace e2 := run_le W (Nat.le_add_left f2 f1) _ _ e2
  refine ⟨(f1 + f2) + 1, ?_⟩
  show stepW W (runW W (f1 + f2)) (.elems i d x) = some (r)
  generalize (f1 + f2) = f at *
  simp [stepW, Rs.bind, e1, e2, c1]
theorem R_block_deep {W : List Tk} {i : Nat} {d : Nat}  (c1 : d = 40) : Reads W (.block i d) (.er i 3) := by
  refine ⟨0 + 1, ?_⟩
  show stepW W (runW W 0) (.block i d) = some (.er i 3)
  simp [stepW, c1]
theorem R_block_er1 {W : List Tk} {i : Nat} {j : Nat} {d : Nat} {e : Int} (h1 : Reads W (.args (i + 1) (d + 1) (.mk 10 [] (psW W i) 0 [] [])) (.er j e)) (c1 : d ≠ 40) : Reads W (.block i d) (.er j e) := by
  obtain ⟨f1, e1⟩ := h1
  replace e1 := run_le W (Nat.le_refl f1) _ _ e1
  refine ⟨f1 + 1, ?_⟩
  show stepW W (runW W f1) (.block i d) = some (.er j e)
  generalize f1 = f at *
  simp [stepW, Rs.bind, e1, c1]
theorem R_block_er2 {W : List Tk} {i : Nat} {j : Nat} {k : Nat} {d : Nat} {e : Int} {x : Nd} (h1 : Reads W (.args (i + 1) (d + 1) (.mk 10 [] (psW W i) 0 [] [])) (.ok x j)) (h2 : Reads W (.body j (d + 1) x) (.er k e)) (c1 : d ≠ 40) : Reads W (.block i d) (.er k e) := by
  obtain ⟨f1, e1⟩ := h1; obtain ⟨f2, e2⟩ := h2
  replace e1 := run_le W (Nat.le_add_right f1 f2) _ _ e1
  replace e2 := run_le W (Nat.le_add_left f2 f1) _ _ e2
  refine ⟨(f1 + f2) + 1, ?_⟩
  show stepW W (runW W (f1 + f2)) (.block i d) = some (.er k e)
  generalize (f1 + f2) = f at *
  simp [stepW, Rs.bind, e1, e2, c1]
theorem R_block_no {W : List Tk} {i : Nat} {j : Nat} {k : Nat} {d : Nat} {x : Nd} {y : Nd} (h1 : Reads W (.args (i + 1) (d + 1) (.mk 10 [] (psW W i) 0 [] [])) (.ok x j)) (h2 : Reads W (.body j (d + 1) x) (.ok y k)) (c1 : d ≠ 40) (c2 : kdW W k ≠ 11) : Reads W (.block i d) (.er k 20) := by
  obtain ⟨f1, e1⟩ := h1; obtain ⟨f2, e2⟩ := h2
  replace e1 := run_le W (Nat.le_add_right f1 f2) _ _ e1
  replace e2 := run_le W (Nat.le_add_left f2 f1) _ _ e2
  refine ⟨(f1 + f2) + 1, ?_⟩
  show stepW W (runW W (f1 + f2)) (.block i d) = some (.er k 20)
  generalize (f1 + f2) = f at *
  simp [stepW, Rs.bind, e1, e2, c1, c2]
theorem R_block_go {W : List Tk} {i : Nat} {j : Nat} {k : Nat} {d : Nat} {x : Nd} {y : Nd} (h1 : Reads W (.args (i + 1) (d + 1) (.mk 10 [] (psW W i) 0 [] [])) (.ok x j)) (h2 : Reads W (.body j (d + 1) x) (.ok y k)) (c1 : d ≠ 40) (c2 : kdW W k = 11) : Reads W (.block i d) (.ok y (k + 1)) := by
  obtain ⟨f1, e1⟩ := h1; obtain ⟨f2, e2⟩ := h2
  replace e1 := run_le W (Nat.le_add_right f1 f2) _ _ e1
  replace e2 := run_le W (Nat.le_add_left f2 f1) _ _ e2
  refine ⟨(f1 + f2) + 1, ?_⟩
  show stepW W (runW W (f1 + f2)) (.block i d) = some (.ok y (k + 1))
  generalize (f1 + f2) = f at *
  simp [stepW, Rs.bind, e1, e2, c1, c2]
theorem R_args_go {W : List Tk} {i : Nat} {d : Nat} {x : Nd} {r : Rs} (h1 : Reads W (.args (i + 2) d (x.arg (txW W (i + 1)))) (r)) (c1 : kdW W i = 16) (c2 : kdW W (i + 1) = 1) : Reads W (.args i d x) (r) := by
  obtain ⟨f1, e1⟩ := h1
  replace e1 := run_le W (Nat.le_refl f1) _ _ e1
  refine ⟨f1 + 1, ?_⟩
  show stepW W (runW W f1) (.args i d x) = some (r)
  generalize f1 = f at *
  simp [stepW, e1, c1, c2]
theorem R_args_bad {W : List Tk} {i : Nat} {d : Nat} {x : Nd}  (c1 : kdW W i = 16) (c2 : kdW W (i + 1) ≠ 1) : Reads W (.args i d x) (.er (i + 1) 20) := by
  refine ⟨0 + 1, ?_⟩
  show stepW W (runW W 0) (.args i d x) = some (.er (i + 1) 20)
  simp [stepW, c1, c2]
theorem R_args_none {W : List Tk} {i : Nat} {d : Nat} {x : Nd}  (c1 : kdW W i ≠ 16) (c2 : x.n = 0) : Reads W (.args i d x) (.ok x i) := by
  refine ⟨0 + 1, ?_⟩
  show stepW W (runW W 0) (.args i d x) = some (.ok x i)
  simp [stepW, c1, c2]
theorem R_args_fin {W : List Tk} {i : Nat} {d : Nat} {x : Nd}  (c1 : kdW W i = 11) : Reads W (.args i d x) (.ok x i) := by
  refine ⟨0 + 1, ?_⟩
  show stepW W (runW W 0) (.args i d x) = some (.ok x i)
  simp [stepW, c1]
theorem R_args_bar {W : List Tk} {i : Nat} {d : Nat} {x : Nd}  (c1 : x.n ≠ 0) (c2 : kdW W i = 12) : Reads W (.args i d x) (.ok x (i + 1)) := by
  refine ⟨0 + 1, ?_⟩
  show stepW W (runW W 0) (.args i d x) = some (.ok x (i + 1))
  simp [stepW, c1, c2]
theorem R_args_no {W : List Tk} {i : Nat} {d : Nat} {x : Nd}  (c1 : kdW W i ≠ 16) (c2 : x.n ≠ 0) (c3 : kdW W i ≠ 11) (c4 : kdW W i ≠ 12) : Reads W (.args i d x) (.er i 20) := by
  refine ⟨0 + 1, ?_⟩
  show stepW W (runW W 0) (.args i d x) = some (.er i 20)
  simp [stepW, c1, c2, c3, c4]
theorem R_temps_go {W : List Tk} {i : Nat} {d : Nat} {x : Nd} {r : Rs} (h1 : Reads W (.temps (i + 1) d (x.tmp (txW W i))) (r)) (c1 : kdW W i = 1) : Reads W (.temps i d x) (r) := by
  obtain ⟨f1, e1⟩ := h1
  replace e1 := run_le W (Nat.le_refl f1) _ _ e1
  refine ⟨f1 + 1, ?_⟩
  show stepW W (runW W f1) (.temps i d x) = some (r)
  generalize f1 = f at *
  simp [stepW, e1, c1]
theorem R_temps_end {W : List Tk} {i : Nat} {d : Nat} {x : Nd}  (c1 : kdW W i = 12) : Reads W (.temps i d x) (.ok x (i + 1)) := by
  refine ⟨0 + 1, ?_⟩
  show stepW W (runW W 0) (.temps i d x) = some (.ok x (i + 1))
  simp [stepW, c1]
theorem R_temps_bad {W : List Tk} {i : Nat} {d : Nat} {x : Nd}  (c1 : kdW W i ≠ 1) (c2 : kdW W i ≠ 12) : Reads W (.temps i d x) (.er i 20) := by
  refine ⟨0 + 1, ?_⟩
  show stepW W (runW W 0) (.temps i d x) = some (.er i 20)
  simp [stepW, c1, c2]
theorem R_body_plain {W : List Tk} {i : Nat} {d : Nat} {x : Nd} {r : Rs} (h1 : Reads W (.stmts i d x) (r)) (c1 : kdW W i ≠ 12) : Reads W (.body i d x) (r) := by
  obtain ⟨f1, e1⟩ := h1
  replace e1 := run_le W (Nat.le_refl f1) _ _ e1
  refine ⟨f1 + 1, ?_⟩
  show stepW W (runW W f1) (.body i d x) = some (r)
  generalize f1 = f at *
  simp [stepW, e1, c1]
theorem R_body_er {W : List Tk} {i : Nat} {j : Nat} {d : Nat} {e : Int} {x : Nd} (h1 : Reads W (.temps (i + 1) d x) (.er j e)) (c1 : kdW W i = 12) : Reads W (.body i d x) (.er j e) := by
  obtain ⟨f1, e1⟩ := h1
  replace e1 := run_le W (Nat.le_refl f1) _ _ e1
  refine ⟨f1 + 1, ?_⟩
  show stepW W (runW W f1) (.body i d x) = some (.er j e)
  generalize f1 = f at *
  simp [stepW, Rs.bind, e1, c1]
theorem R_body_go {W : List Tk} {i : Nat} {j : Nat} {d : Nat} {x : Nd} {y : Nd} {r : Rs} (h1 : Reads W (.temps (i + 1) d x) (.ok y j)) (h2 : Reads W (.stmts j d y) (r)) (c1 : kdW W i = 12) : Reads W (.body i d x) (r) := by
  obtain ⟨f1, e1⟩ := h1; obtain ⟨f2, e2⟩ := h2
  replace e1 := run_le W (Nat.le_add_right f1 f2) _ _ e1
  replace e2 := run_le W (Nat.le_add_left f2 f1) _ _ e2
  refine ⟨(f1 + f2) + 1, ?_⟩
  show stepW W (runW W (f1 + f2)) (.body i d x) = some (r)
  generalize (f1 + f2) = f at *
  simp [stepW, Rs.bind, e1, e2, c1]
theorem R_stmts_end {W : List Tk} {i : Nat} {d : Nat} {x : Nd}  (c1 : kdW W i = 0) : Reads W (.stmts i d x) (.ok x i) := by
  refine ⟨0 + 1, ?_⟩
  show stepW W (runW W 0) (.stmts i d x) = some (.ok x i)
  simp [stepW, c1]
theorem R_stmts_fin {W : List Tk} {i : Nat} {d : Nat} {x : Nd}  (c1 : kdW W i = 11) : Reads W (.stmts i d x) (.ok x i) := by
  refine ⟨0 + 1, ?_⟩
  show stepW W (runW W 0) (.stmts i d x) = some (.ok x i)
  simp [stepW, c1]
theorem R_stmts_er {W : List Tk} {i : Nat} {j : Nat} {d : Nat} {e : Int} {x : Nd} (h1 : Reads W (.stmt i d) (.er j e)) (c1 : kdW W i ≠ 0) (c2 : kdW W i ≠ 11) : Reads W (.stmts i d x) (.er j e) := by
  obtain ⟨f1, e1⟩ := h1
  replace e1 := run_le W (Nat.le_refl f1) _ _ e1
  refine ⟨f1 + 1, ?_⟩
  show stepW W (runW W f1) (.stmts i d x) = some (.er j e)
  generalize f1 = f at *
  simp [stepW, Rs.bind, e1, c1, c2]
theorem R_stmts_last {W : List Tk} {i : Nat} {j : Nat} {d : Nat} {x : Nd} {y : Nd} (h1 : Reads W (.stmt i d) (.ok y j)) (c1 : kdW W i ≠ 0) (c2 : kdW W i ≠ 11) (c3 : kdW W j ≠ 14) : Reads W (.stmts i d x) (.ok (x.kid y) j) := by
  obtain ⟨f1, e1⟩ := h1
  replace e1 := run_le W (Nat.le_refl f1) _ _ e1
  refine ⟨f1 + 1, ?_⟩
  show stepW W (runW W f1) (.stmts i d x) = some (.ok (x.kid y) j)
  generalize f1 = f at *
  simp [stepW, Rs.bind, e1, c1, c2, c3]
theorem R_stmts_ret {W : List Tk} {i : Nat} {j : Nat} {d : Nat} {x : Nd} {y : Nd} (h1 : Reads W (.stmt i d) (.ok y j)) (c1 : kdW W i ≠ 0) (c2 : kdW W i ≠ 11) (c3 : kdW W j = 14) (c4 : y.kind = 11) : Reads W (.stmts i d x) (.ok (x.kid y) (j + 1)) := by
  obtain ⟨f1, e1⟩ := h1
  replace e1 := run_le W (Nat.le_refl f1) _ _ e1
  refine ⟨f1 + 1, ?_⟩
  show stepW W (runW W f1) (.stmts i d x) = some (.ok (x.kid y) (j + 1))
  generalize f1 = f at *
  simp [stepW, Rs.bind, e1, c1, c2, c3, c4]
theorem R_stmts_go {W : List Tk} {i : Nat} {j : Nat} {d : Nat} {x : Nd} {y : Nd} {r : Rs} (h1 : Reads W (.stmt i d) (.ok y j)) (h2 : Reads W (.stmts (j + 1) d (x.kid y)) (r)) (c1 : kdW W i ≠ 0) (c2 : kdW W i ≠ 11) (c3 : kdW W j = 14) (c4 : y.kind ≠ 11) : Reads W (.stmts i d x) (r) := by
  obtain ⟨f1, e1⟩ := h1; obtain ⟨f2, e2⟩ := h2
  replace e1 := run_le W (Nat.le_add_right f1 f2) _ _ e1
  replace e2 := run_le W (Nat.le_add_left f2 f1) _ _ e2
  refine ⟨(f1 + f2) + 1, ?_⟩
  show stepW W (runW W (f1 + f2)) (.stmts i d x) = some (r)
  generalize (f1 + f2) = f at *
  simp [stepW, Rs.bind, e1, e2, c1, c2, c3, c4]
theorem R_stmt_plain {W : List Tk} {i : Nat} {d : Nat} {r : Rs} (h1 : Reads W (.expr i d) (r)) (c1 : kdW W i ≠ 13) : Reads W (.stmt i d) (r) := by
  obtain ⟨f1, e1⟩ := h1
  replace e1 := run_le W (Nat.le_refl f1) _ _ e1
  refine ⟨f1 + 1, ?_⟩
  show stepW W (runW W f1) (.stmt i d) = some (r)
  generalize f1 = f at *
  simp [stepW, e1, c1]
theorem R_stmt_ret {W : List Tk} {i : Nat} {j : Nat} {d : Nat} {x : Nd} (h1 : Reads W (.expr (i + 1) d) (.ok x j)) (c1 : kdW W i = 13) : Reads W (.stmt i d) (.ok (.mk 11 [] (psW W i) 0 [] [x]) j) := by
  obtain ⟨f1, e1⟩ := h1
  replace e1 := run_le W (Nat.le_refl f1) _ _ e1
  refine ⟨f1 + 1, ?_⟩
  show stepW W (runW W f1) (.stmt i d) = some (.ok (.mk 11 [] (psW W i) 0 [] [x]) j)
  generalize f1 = f at *
  simp [stepW, Rs.bind, e1, c1]
theorem R_stmt_er {W : List Tk} {i : Nat} {j : Nat} {d : Nat} {e : Int} (h1 : Reads W (.expr (i + 1) d) (.er j e)) (c1 : kdW W i = 13) : Reads W (.stmt i d) (.er j e) := by
  obtain ⟨f1, e1⟩ := h1
  replace e1 := run_le W (Nat.le_refl f1) _ _ e1
  refine ⟨f1 + 1, ?_⟩
  show stepW W (runW W f1) (.stmt i d) = some (.er j e)
  generalize f1 = f at *
  simp [stepW, Rs.bind, e1, c1]
theorem R_pat_name {W : List Tk} {i : Nat} {d : Nat} {x : Nd}  (c1 : kdW W i = 1) : Reads W (.pat i d x) (.ok (x.say (txW W i)) (i + 1)) := by
  refine ⟨0 + 1, ?_⟩
  show stepW W (runW W 0) (.pat i d x) = some (.ok (x.say (txW W i)) (i + 1))
  simp [stepW, c1]
theorem R_pat_sign {W : List Tk} {i : Nat} {d : Nat} {x : Nd}  (c1 : kdW W i = 3) (c2 : kdW W (i + 1) = 1) : Reads W (.pat i d x) (.ok ((x.say (txW W i)).arg (txW W (i + 1))) (i + 2)) := by
  refine ⟨0 + 1, ?_⟩
  show stepW W (runW W 0) (.pat i d x) = some (.ok ((x.say (txW W i)).arg (txW W (i + 1))) (i + 2))
  simp [stepW, c1, c2]
theorem R_pat_signer {W : List Tk} {i : Nat} {d : Nat} {x : Nd}  (c1 : kdW W i = 3) (c2 : kdW W (i + 1) ≠ 1) : Reads W (.pat i d x) (.er (i + 1) 20) := by
  refine ⟨0 + 1, ?_⟩
  show stepW W (runW W 0) (.pat i d x) = some (.er (i + 1) 20)
  simp [stepW, c1, c2]
theorem R_pat_keys {W : List Tk} {i : Nat} {d : Nat} {x : Nd} {r : Rs} (h1 : Reads W (.keyP i d x) (r)) (c1 : kdW W i = 2) : Reads W (.pat i d x) (r) := by
  obtain ⟨f1, e1⟩ := h1
  replace e1 := run_le W (Nat.le_refl f1) _ _ e1
  refine ⟨f1 + 1, ?_⟩
  show stepW W (runW W f1) (.pat i d x) = some (r)
  generalize f1 = f at *
  simp [stepW, e1, c1]
theorem R_pat_bad {W : List Tk} {i : Nat} {d : Nat} {x : Nd}  (c1 : kdW W i ≠ 1) (c2 : kdW W i ≠ 2) (c3 : kdW W i ≠ 3) : Reads W (.pat i d x) (.er i 20) := by
  refine ⟨0 + 1, ?_⟩
  show stepW W (runW W 0) (.pat i d x) = some (.er i 20)
  simp [stepW, c1, c2, c3]
theorem R_keyP_go {W : List Tk} {i : Nat} {d : Nat} {x : Nd} {r : Rs} (h1 : Reads W (.keyP (i + 2) d ((x.say (txW W i)).arg (txW W (i + 1)))) (r)) (c1 : kdW W i = 2) (c2 : kdW W (i + 1) = 1) : Reads W (.keyP i d x) (r) := by
  obtain ⟨f1, e1⟩ := h1
  replace e1 := run_le W (Nat.le_refl f1) _ _ e1
  refine ⟨f1 + 1, ?_⟩
  show stepW W (runW W f1) (.keyP i d x) = some (r)
  generalize f1 = f at *
  simp [stepW, e1, c1, c2]
theorem R_keyP_bad {W : List Tk} {i : Nat} {d : Nat} {x : Nd}  (c1 : kdW W i = 2) (c2 : kdW W (i + 1) ≠ 1) : Reads W (.keyP i d x) (.er (i + 1) 20) := by
  refine ⟨0 + 1, ?_⟩
  show stepW W (runW W 0) (.keyP i d x) = some (.er (i + 1) 20)
  simp [stepW, c1, c2]
theorem R_keyP_end {W : List Tk} {i : Nat} {d : Nat} {x : Nd}  (c1 : kdW W i ≠ 2) : Reads W (.keyP i d x) (.ok x i) := by
  refine ⟨0 + 1, ?_⟩
  show stepW W (runW W 0) (.keyP i d x) = some (.ok x i)
  simp [stepW, c1]
end Go.Proofs.Ytoghhjljmhdioaa
