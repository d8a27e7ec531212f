/- Copies of objects. -/
import Derived.Test.YtjfaflmmanjjbaaFlat
namespace Go.Proofs.Ytjfaflmmanjjbaa
open Go.RowKit
set_option maxRecDepth 100000
theorem app_vals {ops : Array Oper} {rest : List Oper} {o : Oper} {a : Act} {Q : Exit → Act → World → Prop} (w : World) (hgd : o.guard = none) (s x : Operand)
    (ho : o.op = .call { callee := .builtin .append, args := #[s, x], argTypes := #[24, 24] })
    (base : Nat) (v : Value) (n : Nat) (xs : List (Int × Int)) (hs : a.eval s = v) (hown : w.ownsRow base 23 2 v n (flatV xs))
    (ab : Option Addr) (len cap : Nat) (ys : List (Int × Int)) (hx : a.eval x = .slice ab len cap) (hB : IsV w ab len cap ys) (h47 : n + len ≤ 8796093022208) (hbase : base ≤ w.heap.size)
    (h : ∀ v' w', w'.ownsRow base 23 2 v' (n + len) (flatV (xs ++ ys)) → Below base w w' → wpList Try.prog ops Q rest (a.put o.dst v') w') : wpList Try.prog ops Q (o :: rest) a w := by
  obtain ⟨i0, hi, hz0, hz1, hz2⟩ := info_parts Try.info23
  cases ab with
  | none =>
    obtain ⟨rfl, rfl⟩ := hB.nil' rfl
    obtain rfl : ys = [] := List.eq_nil_of_length_eq_zero hB.size
    refine wpList_append_own_none hgd s x 24 ho base 23 i0 2 Try.underlying24 hi v n _ hs hown hx ?_
    exact h v w (by simpa using hown) (Below.refl _ _)
  | some ad =>
    refine wpList_append_own w hgd s x 24 ho base 23 i0 (.agg #[.int .i64 0, .int .i64 0]) 2 16 Try.underlying24 hi hz0 hz1 hz2 rfl (by decide) _ n _ hs hown ad len cap (flatV ys) hx (by rw [flatV_len, hB.size]) (hB.cellsAt ad rfl) (flatV_one ys) (by unfold maxLen; omega) (by omega) hbase ?_
    intro v' w' hown' hgrow _
    rw [← flatV_app] at hown'
    exact h v' w' hown' ((Below.refl _ _).grown hgrow hbase (fun j hj => (hown.lt j hj).1))
theorem cloneV_nil (w : World) : Calls Try.prog 38 #[.slice none 0 0] w fun e w' => e = .returned (.slice none 0 0) ∧ w = w' := by
  have hq := fun (w : World) (a : Option Addr) (l c : Nat) => Lib.run_eql_slice_nil (P := Try.prog) w 24 23 a l c 0 0 Try.underlying24
  go_enter Try.func38, Try.ntmps38
  go_wp2
  go_ret
  exact ⟨rfl, rfl⟩
set_option maxHeartbeats 1000000 in
theorem cloneV_some (ad : Addr) (len cap : Nat) (vs : List (Int × Int)) (w : World) (h : IsV w (some ad) len cap vs) (hl : len ≤ 8796093022208) :
    Calls Try.prog 38 #[.slice (some ad) len cap] w fun e w' => ∃ v, e = .returned v ∧ OwnV w' w.heap.size v vs ∧ Below w.heap.size w w' := by
  have hq := fun (w : World) (a : Option Addr) (l c : Nat) => Lib.run_eql_slice_nil (P := Try.prog) w 24 23 a l c 0 0 Try.underlying24
  have hbel : Below w.heap.size w (w.alloc (.cells #[] 23)) := (Below.refl _ _).alloc (Nat.le_refl _) _
  have hown : (w.alloc (.cells #[] 23)).ownsRow w.heap.size 23 2 (.slice (some ⟨w.heap.size, 0, none⟩) 0 0) 0 (flatV []) := World.ownsRow_lit w #[] 0 (Nat.le_refl _) (by decide) rfl
  go_enter Try.func38, Try.ntmps38
  go_wp2_with (at_builtin; refine app_vals _ rfl _ _ rfl w.heap.size _ 0 [] rfl hown _ _ _ _ rfl (h.below hbel) (by omega) (by simp) ?_)
  intro v w1 hown1 hb1
  have hO := ownV_of hown1 h.wf
  clear hown1 hown
  obtain ⟨a', c', hv, _⟩ := hO.2
  rw [hv] at hO ⊢
  go_wp2
  go_ret
  exact ⟨_, rfl, hO, hbel.trans hb1⟩
theorem cloneV_any {a : Option Addr} {len cap : Nat} {vs : List (Int × Int)} {w : World} (h : IsV w a len cap vs) (hl : len ≤ 8796093022208) :
    Calls Try.prog 38 #[.slice a len cap] w fun e w' => ∃ v, e = .returned v ∧ OwnV w' w.heap.size v vs ∧ Below w.heap.size w w' := by
  cases a with
  | none =>
    obtain ⟨rfl, rfl⟩ := h.nil' rfl
    obtain rfl : vs = [] := List.eq_nil_of_length_eq_zero h.size
    refine (cloneV_nil w).mono ?_
    rintro e w' ⟨rfl, rfl⟩
    exact ⟨_, rfl, ownV_of (n := 0) (World.ownsRow_nil _ _ _ _) (by intro v hv; cases hv), Below.refl _ _⟩
  | some ad => exact cloneV_some ad len cap vs w h hl
end Go.Proofs.Ytjfaflmmanjjbaa
