/- inBrackets. -/
import Derived.Test.YtncfmhlikmibaaaGreatDoorBno
import Derived.Test.YtncfmhlikmibaaaGreatDoorCas
import Derived.Test.YtncfmhlikmibaaaGreatDoorExp
namespace Go.Proofs.YtncfmhlikmibaaaGreatDoor
open Go.RowKit
set_option maxRecDepth 100000
set_option maxHeartbeats 16000000
def inbV (x : Nd) (p : Nat) (na ka : Option Addr) (nc kc : Nat) (j : Nat) : Value :=
 ([.agg #[.int .i64 x.kind, .string (strOfNums x.text), .int .i64 (x.pos : Int), .int .i64 (x.n : Int), .slice na x.names.length nc, .slice ka x.kids.length kc],
  .bool true,
  .bool true,
  .pointer (some ⟨p, 0, none⟩),
  .bool true,
  .bool true] : List Value).getD j undef
def innV (x : Nd) (p : Nat) (na ka : Option Addr) (nc kc : Nat) (j : Nat) : Value :=
 ([.agg #[.int .i64 x.kind, .string (strOfNums x.text), .int .i64 (x.pos : Int), .int .i64 (x.n : Int), .slice na x.names.length nc, .slice ka x.kids.length kc],
  .bool true,
  .bool true,
  .pointer (some ⟨p, 0, none⟩),
  .bool false,
  .bool false] : List Value).getD j undef
def inzV (x : Nd) (na ka : Option Addr) (nc kc : Nat) (j : Nat) : Value :=
 ([.agg #[.int .i64 x.kind, .string (strOfNums x.text), .int .i64 (x.pos : Int), .int .i64 (x.n : Int), .slice na x.names.length nc, .slice ka x.kids.length kc],
  .bool false,
  .bool false,
  undef,
  undef,
  .bool false] : List Value).getD j undef
theorem Zih {W : List Tk} {E : Nat} (S : Src W E) {i d : Nat} (hlt : i < E) (hd : d ≤ 40) (hk : kdW W i = 8) (H : d ≠ 40 → Zcb 97 W (.expr (i + 1) (d + 1)) (i + 1) (d + 1)) : Zcb 147 W (.prim i d) i d := by
 intro w p h
 have hi : i ≤ E := Nat.le_of_lt hlt
 go_enter Tryz.func147, Tryz.ntmps147
 go_wp2_with (refine Zdl _ rfl rfl ?_)
 intro q w1 E1 hq B1
 have X := Sx.start h ⟨_, _, _, _, _, _, E1⟩ hq B1
 have hp := X.hp
 have hq1 := X.z.lt
 have hs1 := X.size
 clear E1 hq B1 h
 by_cases hd4 : d = 40
 ·subst hd4
  go_wp2_with fail
  refine (Zgk X.rd).mono ?_
  rintro e w5 ⟨rfl, h5, F5⟩
  have X5 := X.go F5 h5
  clear X
  obtain ⟨u0, u1, u2, u3, u4, u5, Eq⟩ := X5.z
  go_wp2_with (refine Zar rfl rfl rfl rfl rfl Eq ?_)
  intro wz Ez Sz
  go_wp2
  exact bodyPost_ret (Za4 (a := 2) (t := 25) (b := 3) (by rfl) (by rfl) (by rfl) (Zal Ez)) (by rfl) ⟨_, Zhw hk rfl, ⟨_, _, _, rfl, NdV.zero, (X5.fin Sz).2⟩, (X5.fin Sz).1⟩
 go_wp2_with fail
 refine (Zfd X.rd (by omega) (S.lt hi)).mono ?_
 rintro e w5 ⟨rfl, h5, F5⟩
 have hs15 : w1.heap.size ≤ w5.heap.size := F5.size
 replace X : Sx w p q w5 W (i + 1) ((d + 1 : Nat) : Int) 20 := X.go F5 h5
 clear F5 h5
 go_wp2_with fail
 refine (H hd4 w5 p X.rd).mono ?_
 rintro e w7 ⟨r, hr, ha, F7⟩
 have hs57 : w5.heap.size ≤ w7.heap.size := F7.size
 cases r with
 | er i' c =>
  obtain ⟨v, x, d', rfl, hv, h7⟩ := ha
  obtain ⟨na, nc, ka, kc, _, rfl, _⟩ := NdV.parts hv
  replace X := X.go F7 h7
  clear F7 h7
  go_wp2_with (refine Zcm rfl rfl rfl 4 rfl rfl rfl (fun _ => rfl) (fun _ => rfl) ?_)
  intro q4 w6 Ek hq4 B6
  replace X := X.bel B6
  replace hv := NdV.bel hv B6
  have hqp4 : q4 ≠ p := by have := X.hp; omega
  have hs67 : w7.heap.size ≤ w6.heap.size := B6.size
  have hl4 := lt_of_block Ek
  have hqpq : q ≠ p := by have := X.hq; have := X.hp; omega
  have hpp : p < w5.heap.size := by have := X.hp; omega
  have Ekd : w6.drew.heap[q4]? = _ := Ek
  have hZd : Zer w6.drew q := X.z
  have h6d : Rdw w6.drew p W i' d' c ∧ Fr p w6.heap.size w6 w6.drew := ⟨X.rd.same (fun _ _ => rfl) rfl, Fr.of_below (Below.refl _ _).drew⟩
  clear B6
  go_wp2_with fail
  refine Zah fun A hA => ?_
  have hsz : A.tmps.size = 21 := by rw [hA]; rfl
  have st : A.tmps[3]? = some (.bool false) := by rw [hA]; rfl
  have s0 : A.tmps[0]? = some (.pointer (some ⟨p, 0, none⟩)) := by rw [hA]; rfl
  have s4 : A.tmps[4]? = some (.pointer (some ⟨q4, 0, none⟩)) := by rw [hA]; rfl
  have s2 : A.tmps[2]? = some (.pointer (some ⟨q, 0, none⟩)) := by rw [hA]; rfl
  have s5 : A.tmps[5]? = some (.bool false) := by rw [hA]; rfl
  refine Zcc (fun A D a w' => ∃ (l : List Value) (vt : Value), a = (Zaj A 15 l).put (some 3) vt ∧ l.length = 6 ∧ (∀ j, j < 6 → D j → l[j]? = some (inzV x na ka nc kc j)) ∧ (D 7 → vt = .bool false) ∧ (D 6 ∨ (Rdw w' p W i' d' c ∧ Fr p w6.heap.size w6 w')) ∧ (D 6 ∨ w'.heap[q4]? = some (.cells #[.int .i64 x.kind, .string (strOfNums x.text), .int .i64 (x.pos : Int), .int .i64 (x.n : Int), .slice na x.names.length nc, .slice ka x.kids.length kc] 25)) ∧ (D 6 ∨ Zer w' q) ∧ (D 6 → ∃ w9, (Rdw w9 p W i' d' c ∧ Fr p w6.heap.size w6 w9) ∧ w'.heap[q]? = some (.cells #[.int .i64 x.kind, .string (strOfNums x.text), .int .i64 (x.pos : Int), .int .i64 (x.n : Int), .slice na x.names.length nc, .slice ka x.kids.length kc] 25) ∧ St q w9 w')) (by kernel_rfl) (by kernel_rfl) ?mono ?start ?step ?done
  case mono =>
   rintro D D' a w' hD ⟨l, vt, ha, Lh, hl, hvt, hN, hE, hZ, hQ⟩
   exact ⟨l, vt, ha, Lh, fun j hj h => hl j hj ((hD j).2 h), fun h => hvt ((hD 7).2 h), hN.imp_left (hD 6).1, hE.imp_left (hD 6).1, hZ.imp_left (hD 6).1, fun h => hQ ((hD 6).2 h)⟩
  case start => exact ⟨_, _, Zbo A 15 6 3 _ (by omega) (by decide) st, zG 15 6 hsz, zK, zf, .inr (h6d), .inr (Ekd), .inr (hZd), zf⟩
  case step =>
   clear hA
   intro i o ho D a w' hI hn hcl hd
   obtain ⟨l, vt, ha, Lh, hl, hvt, hN, hE, hZ, hQ⟩ := hI
   match i, ho with
   | 0, ho =>
    cases zq ho
    refine .inl ⟨rfl, ?_⟩
    have ev : a.tmps[4]? = some (.pointer (some ⟨q4, 0, none⟩)) := zU 4 ha Lh hsz s4
    have e1 := hE.resolve_left (fun h => hn (zc hcl 6 0 rfl h))
    obtain ⟨z0, z1, z2, z3, z4, z5, _⟩ := Zae e1
    exact zx (.agg #[.int .i64 x.kind, .string (strOfNums x.text), .int .i64 (x.pos : Int), .int .i64 (x.n : Int), .slice na x.names.length nc, .slice ka x.kids.length kc]) (by simp [execOp, ev, go_sem, z0, z1, z2, z3, z4, z5]) ⟨_, vt, zt 0 ha Lh hsz, zh Lh, zk Lh hl, zr hvt, zl hN, zl hE, zl hZ, zr hQ⟩
   | 1, ho =>
    cases zq ho
    refine .inl ⟨rfl, ?_⟩
    have ev : a.tmps[5]? = some (.bool false) := zU 5 ha Lh hsz s5
    exact zx (.bool false) (by simp [execOp, ev, go_sem]) ⟨_, vt, zt 1 ha Lh hsz, zh Lh, zk Lh hl, zr hvt, zl hN, zl hE, zl hZ, zr hQ⟩
   | 2, ho =>
    cases zq ho
    refine .inl ⟨rfl, ?_⟩
    have ev : a.tmps[16]? = some (.bool false) := zw ha hsz Lh hl 1 hd
    exact zx (.bool false) (by simp [execOp, ev, go_sem]) ⟨_, vt, zt 2 ha Lh hsz, zh Lh, zk Lh hl, zr hvt, zl hN, zl hE, zl hZ, zr hQ⟩
   | 3, ho =>
    cases zq ho
    refine .inr ⟨Zak (k := 17) rfl rfl rfl (Zbl ha hsz Lh hl 2 (by decide) (zg hd 2)) (by simp [inzV, undef]), ?_⟩
    exact ⟨_, vt, zt 3 ha Lh hsz, zh Lh, zk Lh hl, zr hvt, zl hN, zl hE, zl hZ, zr hQ⟩
   | 4, ho =>
    cases zq ho
    refine .inr ⟨Zak (k := 17) rfl rfl rfl (Zbl ha hsz Lh hl 2 (by decide) (zg hd 2)) (by simp [inzV, undef]), ?_⟩
    exact ⟨_, vt, zt 4 ha Lh hsz, zh Lh, zk Lh hl, zr hvt, zl hN, zl hE, zl hZ, zr hQ⟩
   | 5, ho =>
    cases zq ho
    refine .inl ⟨rfl, ?_⟩
    have ev : a.tmps[17]? = some (.bool false) := zw ha hsz Lh hl 2 hd
    exact zx (.bool false) (by simp [execOp, ev, go_sem]) ⟨_, vt, zt 5 ha Lh hsz, zh Lh, zk Lh hl, zr hvt, zl hN, zl hE, zl hZ, zr hQ⟩
   | 6, ho =>
    cases zq ho
    refine .inl ⟨rfl, ?_⟩
    have ev : a.tmps[15]? = some (.agg #[.int .i64 x.kind, .string (strOfNums x.text), .int .i64 (x.pos : Int), .int .i64 (x.n : Int), .slice na x.names.length nc, .slice ka x.kids.length kc]) := zw ha hsz Lh hl 0 hd
    have e1 := hZ.resolve_left hn
    obtain ⟨u0, u1, u2, u3, u4, u5, e1⟩ := e1
    have e4 : a.tmps[2]? = some (.pointer (some ⟨q, 0, none⟩)) := zU 2 ha Lh hsz s2
    have L := hN.resolve_left hn
    refine wp_store_row (P := Tryz.prog) 25 (.tmp 2) (.tmp 15) rfl q #[.int .i64 x.kind, .string (strOfNums x.text), .int .i64 (x.pos : Int), .int .i64 (x.n : Int), .slice na x.names.length nc, .slice ka x.kids.length kc] (by simpa [Act.eval] using Zav e4) (by simpa [Act.eval] using Zav ev) 25 _ e1 (by kernel_rfl) rfl (by simp [Value.oneCell']) ?_
    exact ⟨l, vt, ha, Lh, zJ hl, zr hvt, .inl (.inl rfl), .inl (.inl rfl), .inl (.inl rfl), fun _ => ⟨w', L, setRow_heap w' q _ _ _ _ e1, St.row w' q _⟩⟩
   | 7, ho =>
    cases zq ho
    refine .inl ⟨rfl, ?_⟩
    have ev : a.tmps[20]? = some (.bool false) := zw ha hsz Lh hl 5 hd
    exact zx (.bool false) (by simp [execOp, ev, go_sem]) ⟨l, (.bool false), by rw [ha]; exact Zbp _ _ _ _, Lh, zJ hl, fun _ => rfl, zl hN, zl hE, zl hZ, zr hQ⟩
   | i + 8, ho => simp at ho
  case done =>
   rintro D a w' ⟨l, vt, ha, Lh, hl, hvt, hN, hE, hZ, hQ⟩ hall
   obtain rfl := hvt (hall 7 (by decide))
   obtain ⟨v0, v1, v2, v3, v4, v5, rfl⟩ := zL6 Lh
   obtain ⟨w9, ⟨L9, F9⟩, Eq, Sq⟩ := hQ (hall 6 (by decide))
   subst hA
   have hfr : a = _ := ha
   rw [hfr]
   clear hfr ha
   simp only [Zaj, yA, yB, yC, yD, yE, yF, yG, yH]
   clear hl hE hZ hN hQ hall
   have hs69 := F9.size
   have X9 := X.go F9 L9
   have hv9 := NdV.fr hv F9 (fun b hb hl => ⟨hl, by omega⟩)
   go_wp2
   exact bodyPost_ret (Za4 (a := 2) (t := 25) (b := 3) (by rfl) (by rfl) (by rfl) (Zal Eq)) (by rfl) ⟨_, Zhu hr hk hd4, ⟨_, _, _, rfl, NdV.imp (fun b _ hA => ⟨by omega, Sq.block b (by omega)⟩) _ _ hv9, (X9.fin Sq).2⟩, (X9.fin Sq).1⟩
 | ok x i' =>
  obtain ⟨v, rfl, hv, h7⟩ := ha
  have hi2 : i + 1 + 1 ≤ i' ∧ i' ≤ E := hr.adv S.ends hlt
  have hi' := hi2.2
  obtain ⟨na, nc, ka, kc, _, rfl, _⟩ := NdV.parts hv
  replace X := X.go F7 h7
  clear F7 h7
  go_wp2_with (refine Zcm rfl rfl rfl 4 rfl rfl rfl (fun _ => rfl) (fun _ => rfl) ?_)
  intro q4 w6 Ek hq4 B6
  replace X := X.bel B6
  replace hv := NdV.bel hv B6
  have hqp4 : q4 ≠ p := by have := X.hp; omega
  have hs67 : w7.heap.size ≤ w6.heap.size := B6.size
  have hl4 := lt_of_block Ek
  have hd1 : (0 : Int) ≤ ((d + 1 : Nat) : Int) ∧ ((d + 1 : Nat) : Int) ≤ 100 := by omega
  have hqpq : q ≠ p := by have := X.hq; have := X.hp; omega
  have hpp : p < w5.heap.size := by have := X.hp; omega
  have Ekd : w6.drew.heap[q4]? = _ := Ek
  have hZd : Zer w6.drew q := X.z
  have h6d : Rdw w6.drew p W i' ((d + 1 : Nat) : Int) 20 ∧ Fr p w6.heap.size w6 w6.drew := ⟨X.rd.same (fun _ _ => rfl) rfl, Fr.of_below (Below.refl _ _).drew⟩
  clear B6
  by_cases hk9 : kdW W i' = 9
  ·go_wp2_with fail
   refine Zah fun A hA => ?_
   have hsz : A.tmps.size = 21 := by rw [hA]; rfl
   have st : A.tmps[3]? = some (.bool false) := by rw [hA]; rfl
   have s0 : A.tmps[0]? = some (.pointer (some ⟨p, 0, none⟩)) := by rw [hA]; rfl
   have s4 : A.tmps[4]? = some (.pointer (some ⟨q4, 0, none⟩)) := by rw [hA]; rfl
   have s2 : A.tmps[2]? = some (.pointer (some ⟨q, 0, none⟩)) := by rw [hA]; rfl
   have s5 : A.tmps[5]? = some (.bool true) := by rw [hA]; rfl
   refine zR2 (fun A D a w' => ∃ (l : List Value) (vt : Value), a = (Zaj A 15 l).put (some 3) vt ∧ l.length = 6 ∧ (∀ j, j < 6 → D j → l[j]? = some (inbV x p na ka nc kc j)) ∧ (D 7 → vt = .bool true) ∧ (D 4 ∨ (Rdw w' p W i' ((d + 1 : Nat) : Int) 20 ∧ Fr p w6.heap.size w6 w')) ∧ (D 6 ∨ w'.heap[q4]? = some (.cells #[.int .i64 x.kind, .string (strOfNums x.text), .int .i64 (x.pos : Int), .int .i64 (x.n : Int), .slice na x.names.length nc, .slice ka x.kids.length kc] 25)) ∧ (D 6 ∨ Zer w' q) ∧ (D 6 → ∃ w9, (Rdw w9 p W (i' + 1) (((d + 1 : Nat) : Int) - 1) 20 ∧ Fr p w6.heap.size w6 w9) ∧ w'.heap[q]? = some (.cells #[.int .i64 x.kind, .string (strOfNums x.text), .int .i64 (x.pos : Int), .int .i64 (x.n : Int), .slice na x.names.length nc, .slice ka x.kids.length kc] 25) ∧ St q w9 w') ∧ (D 4 → ¬ D 6 → (Rdw w' p W (i' + 1) (((d + 1 : Nat) : Int) - 1) 20 ∧ Fr p w6.heap.size w6 w'))) ?start ?step ?done
   case start => exact ⟨_, _, Zbo A 15 6 3 _ (by omega) (by decide) st, zG 15 6 hsz, zK, zf, .inr (h6d), .inr (Ekd), .inr (hZd), zf, zF⟩
   case step =>
    clear hA
    intro i o ho D a w' hI hn hcl hd
    obtain ⟨l, vt, ha, Lh, hl, hvt, hN, hE, hZ, hQ, hL⟩ := hI
    match i, ho with
    | 0, ho =>
     cases zq ho
     refine ⟨rfl, ?_⟩
     have ev : a.tmps[4]? = some (.pointer (some ⟨q4, 0, none⟩)) := zU 4 ha Lh hsz s4
     have e1 := hE.resolve_left (fun h => hn (zc hcl 6 0 rfl h))
     obtain ⟨z0, z1, z2, z3, z4, z5, _⟩ := Zae e1
     exact zx (.agg #[.int .i64 x.kind, .string (strOfNums x.text), .int .i64 (x.pos : Int), .int .i64 (x.n : Int), .slice na x.names.length nc, .slice ka x.kids.length kc]) (by simp [execOp, ev, go_sem, z0, z1, z2, z3, z4, z5]) ⟨_, vt, zt 0 ha Lh hsz, zh Lh, zk Lh hl, zr hvt, zl hN, zl hE, zl hZ, zr hQ, zs hL⟩
    | 1, ho =>
     cases zq ho
     refine ⟨rfl, ?_⟩
     have ev : a.tmps[5]? = some (.bool true) := zU 5 ha Lh hsz s5
     exact zx (.bool true) (by simp [execOp, ev, go_sem]) ⟨_, vt, zt 1 ha Lh hsz, zh Lh, zk Lh hl, zr hvt, zl hN, zl hE, zl hZ, zr hQ, zs hL⟩
    | 2, ho =>
     cases zq ho
     refine ⟨rfl, ?_⟩
     have ev : a.tmps[16]? = some (.bool true) := zw ha hsz Lh hl 1 hd
     exact zx (.bool true) (by simp [execOp, ev, go_sem]) ⟨_, vt, zt 2 ha Lh hsz, zh Lh, zk Lh hl, zr hvt, zl hN, zl hE, zl hZ, zr hQ, zs hL⟩
    | 3, ho =>
     cases zq ho
     refine ⟨Zaw (k := 17) rfl rfl rfl (Zbl ha hsz Lh hl 2 (by decide) (zg hd 2)), ?_⟩
     exact zm (zU 0 ha Lh hsz s0) ⟨_, vt, zt 3 ha Lh hsz, zh Lh, zk Lh hl, zr hvt, zl hN, zl hE, zl hZ, zr hQ, zs hL⟩
    | 4, ho =>
     cases zq ho
     refine ⟨Zaw (k := 17) rfl rfl rfl (Zbl ha hsz Lh hl 2 (by decide) (zg hd 2)), ?_⟩
     have ev : a.tmps[18]? = some (.pointer (some ⟨p, 0, none⟩)) := zw ha hsz Lh hl 3 hd
     have h6 := hN.resolve_left hn
     refine Zan (f := 161) (args := #[.pointer (some ⟨p, 0, none⟩), .int .i64 9]) (by simp [execOp, ev, go_sem]) ?_
     refine (Zhd h6.1 (S.lt hi') hd1 9 hk9).mono ?_
     rintro e w6 ⟨rfl, h9, F9⟩
     refine ⟨_, rfl, ?_⟩
     exact ⟨_, vt, zt 4 ha Lh hsz, zh Lh, zk Lh hl, zr hvt, .inl (.inl rfl), hE.imp .inr (fun h => (F9.block q4 (lt_of_block h) hqp4).trans h), hZ.imp .inr (fun h => h.keep (fun hl => F9.block q hl hqpq)), za (fun h => hn (hcl 6 _ rfl h ⟨4, .chain⟩ (by simp) rfl)), fun _ _ => ⟨h9, h6.2.trans F9 h6.2.size⟩⟩
    | 5, ho =>
     cases zq ho
     refine ⟨rfl, ?_⟩
     have ev : a.tmps[17]? = some (.bool true) := zw ha hsz Lh hl 2 hd
     have ev' : a.tmps[19]? = some (.bool true) := zw ha hsz Lh hl 4 hd
     exact zx (.bool true) (by simp [execOp, ev, ev', go_sem]) ⟨_, vt, zt 5 ha Lh hsz, zh Lh, zk Lh hl, zr hvt, zl hN, zl hE, zl hZ, zr hQ, zs hL⟩
    | 6, ho =>
     cases zq ho
     refine ⟨rfl, ?_⟩
     have ev : a.tmps[15]? = some (.agg #[.int .i64 x.kind, .string (strOfNums x.text), .int .i64 (x.pos : Int), .int .i64 (x.n : Int), .slice na x.names.length nc, .slice ka x.kids.length kc]) := zw ha hsz Lh hl 0 hd
     have e1 := hZ.resolve_left hn
     obtain ⟨u0, u1, u2, u3, u4, u5, e1⟩ := e1
     have e4 : a.tmps[2]? = some (.pointer (some ⟨q, 0, none⟩)) := zU 2 ha Lh hsz s2
     have L := hL (hd ⟨4, .chain⟩ (by simp) rfl) hn
     refine wp_store_row (P := Tryz.prog) 25 (.tmp 2) (.tmp 15) rfl q #[.int .i64 x.kind, .string (strOfNums x.text), .int .i64 (x.pos : Int), .int .i64 (x.n : Int), .slice na x.names.length nc, .slice ka x.kids.length kc] (by simpa [Act.eval] using Zav e4) (by simpa [Act.eval] using Zav ev) 25 _ e1 (by kernel_rfl) rfl (by simp [Value.oneCell']) ?_
     exact ⟨l, vt, ha, Lh, zJ hl, zr hvt, .inl (.inr (hd ⟨4, .chain⟩ (by simp) rfl)), .inl (.inl rfl), .inl (.inl rfl), fun _ => ⟨w', L, setRow_heap w' q _ _ _ _ e1, St.row w' q _⟩, zi⟩
    | 7, ho =>
     cases zq ho
     refine ⟨rfl, ?_⟩
     have ev : a.tmps[20]? = some (.bool true) := zw ha hsz Lh hl 5 hd
     exact zx (.bool true) (by simp [execOp, ev, go_sem]) ⟨l, (.bool true), by rw [ha]; exact Zbp _ _ _ _, Lh, zJ hl, fun _ => rfl, zl hN, zl hE, zl hZ, zr hQ, zs hL⟩
    | i + 8, ho => simp at ho
   case done =>
    rintro D a w' ⟨l, vt, ha, Lh, hl, hvt, hN, hE, hZ, hQ, hL⟩ hall
    obtain rfl := hvt (hall 7 (by decide))
    obtain ⟨v0, v1, v2, v3, v4, v5, rfl⟩ := zL6 Lh
    obtain ⟨w9, ⟨L9, F9⟩, Eq, Sq⟩ := hQ (hall 6 (by decide))
    subst hA
    have hfr : a = _ := ha
    rw [hfr]
    clear hfr ha
    simp only [Zaj, yA, yB, yC, yD, yE, yF, yG, yH]
    clear hl hE hZ hN hL hQ hall
    have hs69 := F9.size
    have X9 := X.go F9 L9
    have hv9 := NdV.fr hv F9 (fun b hb hl => ⟨hl, by omega⟩)
    have hdd : (((d + 1 : Nat) : Int) - 1) = (d : Int) := by omega
    rw [hdd] at X9
    go_wp2
    exact bodyPost_ret (Za4 (a := 2) (t := 25) (b := 3) (by rfl) (by rfl) (by rfl) (Zal Eq)) (by rfl) ⟨_, Zhv hr hk hd4 hk9, ⟨_, rfl, NdV.imp (fun b _ hA => ⟨by omega, Sq.block b (by omega)⟩) _ _ hv9, (X9.fin Sq).2⟩, (X9.fin Sq).1⟩
  go_wp2_with fail
  refine Zah fun A hA => ?_
  have hsz : A.tmps.size = 21 := by rw [hA]; rfl
  have st : A.tmps[3]? = some (.bool false) := by rw [hA]; rfl
  have s0 : A.tmps[0]? = some (.pointer (some ⟨p, 0, none⟩)) := by rw [hA]; rfl
  have s4 : A.tmps[4]? = some (.pointer (some ⟨q4, 0, none⟩)) := by rw [hA]; rfl
  have s2 : A.tmps[2]? = some (.pointer (some ⟨q, 0, none⟩)) := by rw [hA]; rfl
  have s5 : A.tmps[5]? = some (.bool true) := by rw [hA]; rfl
  refine zR2 (fun A D a w' => ∃ (l : List Value) (vt : Value), a = (Zaj A 15 l).put (some 3) vt ∧ l.length = 6 ∧ (∀ j, j < 6 → D j → l[j]? = some (innV x p na ka nc kc j)) ∧ (D 7 → vt = .bool false) ∧ (D 4 ∨ (Rdw w' p W i' ((d + 1 : Nat) : Int) 20 ∧ Fr p w6.heap.size w6 w')) ∧ (D 6 ∨ w'.heap[q4]? = some (.cells #[.int .i64 x.kind, .string (strOfNums x.text), .int .i64 (x.pos : Int), .int .i64 (x.n : Int), .slice na x.names.length nc, .slice ka x.kids.length kc] 25)) ∧ (D 6 ∨ Zer w' q) ∧ (D 6 → ∃ w9, (Rdw w9 p W i' (((d + 1 : Nat) : Int) - 1) 20 ∧ Fr p w6.heap.size w6 w9) ∧ w'.heap[q]? = some (.cells #[.int .i64 x.kind, .string (strOfNums x.text), .int .i64 (x.pos : Int), .int .i64 (x.n : Int), .slice na x.names.length nc, .slice ka x.kids.length kc] 25) ∧ St q w9 w') ∧ (D 4 → ¬ D 6 → (Rdw w' p W i' (((d + 1 : Nat) : Int) - 1) 20 ∧ Fr p w6.heap.size w6 w'))) ?start ?step ?done
  case start => exact ⟨_, _, Zbo A 15 6 3 _ (by omega) (by decide) st, zG 15 6 hsz, zK, zf, .inr (h6d), .inr (Ekd), .inr (hZd), zf, zF⟩
  case step =>
   clear hA
   intro i o ho D a w' hI hn hcl hd
   obtain ⟨l, vt, ha, Lh, hl, hvt, hN, hE, hZ, hQ, hL⟩ := hI
   match i, ho with
   | 0, ho =>
    cases zq ho
    refine ⟨rfl, ?_⟩
    have ev : a.tmps[4]? = some (.pointer (some ⟨q4, 0, none⟩)) := zU 4 ha Lh hsz s4
    have e1 := hE.resolve_left (fun h => hn (zc hcl 6 0 rfl h))
    obtain ⟨z0, z1, z2, z3, z4, z5, _⟩ := Zae e1
    exact zx (.agg #[.int .i64 x.kind, .string (strOfNums x.text), .int .i64 (x.pos : Int), .int .i64 (x.n : Int), .slice na x.names.length nc, .slice ka x.kids.length kc]) (by simp [execOp, ev, go_sem, z0, z1, z2, z3, z4, z5]) ⟨_, vt, zt 0 ha Lh hsz, zh Lh, zk Lh hl, zr hvt, zl hN, zl hE, zl hZ, zr hQ, zs hL⟩
   | 1, ho =>
    cases zq ho
    refine ⟨rfl, ?_⟩
    have ev : a.tmps[5]? = some (.bool true) := zU 5 ha Lh hsz s5
    exact zx (.bool true) (by simp [execOp, ev, go_sem]) ⟨_, vt, zt 1 ha Lh hsz, zh Lh, zk Lh hl, zr hvt, zl hN, zl hE, zl hZ, zr hQ, zs hL⟩
   | 2, ho =>
    cases zq ho
    refine ⟨rfl, ?_⟩
    have ev : a.tmps[16]? = some (.bool true) := zw ha hsz Lh hl 1 hd
    exact zx (.bool true) (by simp [execOp, ev, go_sem]) ⟨_, vt, zt 2 ha Lh hsz, zh Lh, zk Lh hl, zr hvt, zl hN, zl hE, zl hZ, zr hQ, zs hL⟩
   | 3, ho =>
    cases zq ho
    refine ⟨Zaw (k := 17) rfl rfl rfl (Zbl ha hsz Lh hl 2 (by decide) (zg hd 2)), ?_⟩
    exact zm (zU 0 ha Lh hsz s0) ⟨_, vt, zt 3 ha Lh hsz, zh Lh, zk Lh hl, zr hvt, zl hN, zl hE, zl hZ, zr hQ, zs hL⟩
   | 4, ho =>
    cases zq ho
    refine ⟨Zaw (k := 17) rfl rfl rfl (Zbl ha hsz Lh hl 2 (by decide) (zg hd 2)), ?_⟩
    have ev : a.tmps[18]? = some (.pointer (some ⟨p, 0, none⟩)) := zw ha hsz Lh hl 3 hd
    have h6 := hN.resolve_left hn
    refine Zan (f := 161) (args := #[.pointer (some ⟨p, 0, none⟩), .int .i64 9]) (by simp [execOp, ev, go_sem]) ?_
    refine (Znd h6.1 (S.lt hi') hd1 9 hk9).mono ?_
    rintro e w6 ⟨rfl, h9, F9⟩
    refine ⟨_, rfl, ?_⟩
    exact ⟨_, vt, zt 4 ha Lh hsz, zh Lh, zk Lh hl, zr hvt, .inl (.inl rfl), hE.imp .inr (fun h => (F9.block q4 (lt_of_block h) hqp4).trans h), hZ.imp .inr (fun h => h.keep (fun hl => F9.block q hl hqpq)), za (fun h => hn (hcl 6 _ rfl h ⟨4, .chain⟩ (by simp) rfl)), fun _ _ => ⟨h9, h6.2.trans F9 h6.2.size⟩⟩
   | 5, ho =>
    cases zq ho
    refine ⟨rfl, ?_⟩
    have ev : a.tmps[17]? = some (.bool true) := zw ha hsz Lh hl 2 hd
    have ev' : a.tmps[19]? = some (.bool false) := zw ha hsz Lh hl 4 hd
    exact zx (.bool false) (by simp [execOp, ev, ev', go_sem]) ⟨_, vt, zt 5 ha Lh hsz, zh Lh, zk Lh hl, zr hvt, zl hN, zl hE, zl hZ, zr hQ, zs hL⟩
   | 6, ho =>
    cases zq ho
    refine ⟨rfl, ?_⟩
    have ev : a.tmps[15]? = some (.agg #[.int .i64 x.kind, .string (strOfNums x.text), .int .i64 (x.pos : Int), .int .i64 (x.n : Int), .slice na x.names.length nc, .slice ka x.kids.length kc]) := zw ha hsz Lh hl 0 hd
    have e1 := hZ.resolve_left hn
    obtain ⟨u0, u1, u2, u3, u4, u5, e1⟩ := e1
    have e4 : a.tmps[2]? = some (.pointer (some ⟨q, 0, none⟩)) := zU 2 ha Lh hsz s2
    have L := hL (hd ⟨4, .chain⟩ (by simp) rfl) hn
    refine wp_store_row (P := Tryz.prog) 25 (.tmp 2) (.tmp 15) rfl q #[.int .i64 x.kind, .string (strOfNums x.text), .int .i64 (x.pos : Int), .int .i64 (x.n : Int), .slice na x.names.length nc, .slice ka x.kids.length kc] (by simpa [Act.eval] using Zav e4) (by simpa [Act.eval] using Zav ev) 25 _ e1 (by kernel_rfl) rfl (by simp [Value.oneCell']) ?_
    exact ⟨l, vt, ha, Lh, zJ hl, zr hvt, .inl (.inr (hd ⟨4, .chain⟩ (by simp) rfl)), .inl (.inl rfl), .inl (.inl rfl), fun _ => ⟨w', L, setRow_heap w' q _ _ _ _ e1, St.row w' q _⟩, zi⟩
   | 7, ho =>
    cases zq ho
    refine ⟨rfl, ?_⟩
    have ev : a.tmps[20]? = some (.bool false) := zw ha hsz Lh hl 5 hd
    exact zx (.bool false) (by simp [execOp, ev, go_sem]) ⟨l, (.bool false), by rw [ha]; exact Zbp _ _ _ _, Lh, zJ hl, fun _ => rfl, zl hN, zl hE, zl hZ, zr hQ, zs hL⟩
   | i + 8, ho => simp at ho
  rintro D a w' ⟨l, vt, ha, Lh, hl, hvt, hN, hE, hZ, hQ, hL⟩ hall
  obtain rfl := hvt (hall 7 (by decide))
  obtain ⟨v0, v1, v2, v3, v4, v5, rfl⟩ := zL6 Lh
  obtain ⟨w9, ⟨L9, F9⟩, Eq, Sq⟩ := hQ (hall 6 (by decide))
  subst hA
  have hfr : a = _ := ha
  rw [hfr]
  clear hfr ha
  simp only [Zaj, yA, yB, yC, yD, yE, yF, yG, yH]
  clear hl hE hZ hN hL hQ hall
  have hs69 := F9.size
  have X9 := X.go F9 L9
  have hv9 := NdV.fr hv F9 (fun b hb hl => ⟨hl, by omega⟩)
  have hdd : (((d + 1 : Nat) : Int) - 1) = (d : Int) := by omega
  rw [hdd] at X9
  go_wp2
  exact bodyPost_ret (Za4 (a := 2) (t := 25) (b := 3) (by rfl) (by rfl) (by rfl) (Zal Eq)) (by rfl) ⟨_, Zlx hr hk hd4 hk9, ⟨_, _, _, rfl, NdV.imp (fun b _ hA => ⟨by omega, Sq.block b (by omega)⟩) _ _ hv9, (X9.fin Sq).2⟩, (X9.fin Sq).1⟩
end Go.Proofs.YtncfmhlikmibaaaGreatDoor
