/- The document's parser: its state, and the calls that go on by a word. -/
import Derived.Test.YtncfmhlikmibaaaGreatDoorWri
import Derived.Shelf.RegionOpenPlain
import Derived.Test.YtncfmhlikmibaaaGreatDoorRxP
import Derived.Test.YtncfmhlikmibaaaGreatDoorLxQ
namespace Go.Proofs.YtncfmhlikmibaaaGreatDoor
open Go.RowKit
set_option maxRecDepth 100000
set_option maxHeartbeats 16000000
structure Src (W : List Tk) (E : Nat) : Prop where
 ends : Zim W E
 small : E ≤ 5000
 txt : ∀ i, (txW W i).length ≤ 5000
theorem Src.lt {W : List Tk} {E i : Nat} (S : Src W E) (hi : i ≤ E) : i < W.length := by have := S.ends.len; omega
def NdB (B : Nat) (w : World) (x : Nd) (v : Value) : Prop := NdV (fun b => B ≤ b) w x v
theorem NdB.fr {p B : Nat} {w w' : World} {x : Nd} {v : Value} (h : NdB B w x v) (k : Fr p w.heap.size w w') (hp : p < B) : NdB B w' x v :=
 NdV.fr h k fun b hb hl => ⟨hl, by omega⟩
theorem NdB.st {B g : Nat} {w w' : World} {x : Nd} {v : Value} (h : NdB B w x v) (k : St g w w') (hg : g < B) : NdB B w' x v :=
 h.imp (fun b _ hb' => ⟨hb', k.block b (by omega)⟩) x v
theorem NdB.zero {B : Nat} {w : World} : NdB B w zNd (.agg #[.int .i64 0, .string ⟨#[]⟩, .int .i64 0, .int .i64 0, .slice none 0 0, .slice none 0 0]) := NdV.zero
def AnsA (A : Nat → Prop) (p : Nat) (W : List Tk) (d : Nat) (e : Ending) (w' : World) : Rs → Prop
 | .ok x j => ∃ v, e = .returned (.tuple #[v, .bool true]) ∧ NdV A w' x v ∧ Rdw w' p W j (d : Int) 20
 | .er j c => ∃ v x d', e = .returned (.tuple #[v, .bool false]) ∧ NdV A w' x v ∧ Rdw w' p W j d' c
def AnsR (B p : Nat) (W : List Tk) (d : Nat) (e : Ending) (w' : World) (r : Rs) : Prop := AnsA (fun b => B ≤ b) p W d e w' r
def Zcb (f : Nat) (W : List Tk) (q : Qy) (i d : Nat) : Prop :=
 ∀ w p, Rdw w p W i (d : Int) 20 → Calls Tryz.prog f #[.pointer (some ⟨p, 0, none⟩)] w fun e w' => ∃ r, Zaa W q r ∧ AnsR w.heap.size p W d e w' r ∧ Fr p w.heap.size w w'
def Zou (f : Nat) (W : List Tk) (q : Qy) (x : Nd) (i d : Nat) : Prop :=
 ∀ w p (A : Nat → Prop) v, Rdw w p W i (d : Int) 20 → ¬ A p → (∀ b, w.heap.size ≤ b → A b) → NdV A w x v → Calls Tryz.prog f #[.pointer (some ⟨p, 0, none⟩), v] w fun e w' => ∃ r, Zaa W q r ∧ AnsA A p W d e w' r ∧ Fr p w.heap.size w w'
theorem Rdw.fr {p : Nat} {w w' : World} {W : List Tk} {i : Nat} {d y : Int} (h : Rdw w p W i d y) (k : Below w.heap.size w w') : Rdw w' p W i d y := h.below k h.lt
theorem Za4 {P : Program} {fn : Func} {tmps : Array Value} {a t b : Nat} {ad : Addr} {w : World} {v u : Value} (hf : fn.results = #[.cell a t, .tmp b]) (ha : tmps[a]?.getD undef = .pointer (some ad)) (hu : tmps[b]?.getD undef = u) (hl : (loadVar t ad).run P w = .ok v w) : (results fn tmps).run P w = .ok (.tuple #[v, u]) w := by
 unfold results
 rw [hf]
 simp [ha, hu, asAddr, hl]
theorem Zci {W : List Tk} {E : Nat} (S : Src W E) {w : World} {p i d : Nat} {y : Int} (h : Rdw w p W i d y) (hi : i ≤ E) (k : Int) :
  Calls Tryz.prog 146 #[.pointer (some ⟨p, 0, none⟩), .int .i64 k] w fun e w' => ∃ v, e = .returned v ∧ NdB w.heap.size w' (Zbr W k i) v ∧ Rdw w' p W (i + 1) d y ∧ Fr p w.heap.size w w' := by
 have hp := h.lt
 have htx := S.txt i
 go_enter Tryz.func146, Tryz.ntmps146
 go_wp2_with (refine Zdl _ rfl rfl ?_)
 intro q w1 E1 hq B1
 go_wp2_with fail
 refine (Zch (h.fr B1) (S.lt hi)).mono ?_
 rintro e w2 ⟨rfl, h2, F2⟩
 have E2 : w2.heap[q]? = _ := (F2.block q (lt_of_block E1) (by omega)).trans E1
 have F02 := (Fr.of_below B1).thn (Nat.le_refl _) F2
 clear E1 F2 B1 h
 go_wp2_with (refine al54 _ rfl rfl ?_)
 intro t w3 E3 ht B3
 go_wp2_with (refine st54 _ rfl _ _ rfl rfl _ _ _ _ rfl rfl E3 ?_)
 intro w4 E4 S4
 have B34 : Below w2.heap.size w2 w4 := B3.trans (S4.below ht)
 replace E2 := (B34.block q (lt_of_block E2)).trans E2
 replace h2 := h2.fr B34
 replace F02 := F02.thn (Nat.le_refl _) (Fr.of_below B34)
 have hqs := lt_of_block E2
 clear E3 S4 B3 B34
 obtain ⟨z0, z1, z2, zf⟩ := Zbx E4
 go_wp2_with (refine st25 _ rfl _ _ rfl rfl _ _ _ _ _ _ _ _ _ _ _ rfl rfl E2 ?_)
 intro w5 E5 S5
 go_wp2
 refine bodyPost_ret (Zas (a := 4) (t := 25) (by rfl) (by rfl) (Zal E5)) (by rfl) ⟨_, rfl, NdV.leaf (by omega), h2.st S5 (by omega), F02.trans (Fr.of_below (S5.below hq)) (Nat.le_refl _)⟩
theorem zB {P : Program} {fn : Func} {a : Act} (i j : Nat) {ad : Addr} {w : World} {v u : Value} {R : Ending → World → Prop} (hf : fn.results = #[.cell i 25, .tmp j]) (ha : a.tmps[i]?.getD undef = .pointer (some ad)) (hu : a.tmps[j]?.getD undef = u) (hl : (loadVar 25 ad).run P w = .ok v w) (hd : a.defers = []) (hR : R (.returned (.tuple #[v, u])) w) : bodyPost P fn R .ret a w := bodyPost_ret (Za4 hf ha hu hl) hd hR
section
def Zm2 (a : Option Addr) (n c : Nat) (i d : Nat) (e : Int) (t : Nat) : Obj := .cells #[.slice a n c, .int .i64 (i : Int), .int .i64 (d : Int), .int .i64 e, .int .i64 (t : Int)] 61
structure Pr (w : World) (p : Nat) (W : List Tk) (i d : Nat) (e : Int) (t : Nat) : Prop where
 ex : ∃ b off c, w.heap[p]? = some (Zm2 (some ⟨b, off, none⟩) W.length c i d e t) ∧ b < p ∧ IsT w (some ⟨b, off, none⟩) W.length c W
theorem Pr.lt {w : World} {p : Nat} {W : List Tk} {i d : Nat} {e : Int} {t : Nat} (h : Pr w p W i d e t) : p < w.heap.size := by
 obtain ⟨b, off, c, h1, _⟩ := h.ex
 exact lt_of_block h1
theorem IsT.keepB {w w' : World} {b off n c : Nat} {W : List Tk} (h3 : IsT w (some ⟨b, off, none⟩) n c W) (hb : w'.heap[b]? = w.heap[b]?) : IsT w' (some ⟨b, off, none⟩) n c W := by
 refine ⟨h3.size, h3.room, h3.most, h3.nil0, fun h0 => ?_⟩
 obtain ⟨b', off', e, hc⟩ := h3.cells h0
 simp only [Option.some.injEq, Addr.mk.injEq, and_true] at e
 obtain ⟨rfl, rfl⟩ := e
 exact ⟨b, off, rfl, fun i hi => ⟨(World.cell?_of_block (a := ⟨b, off + i * 3, none⟩) hb).trans (hc i hi).1, (World.cell?_of_block (a := ⟨b, off + i * 3 + 1, none⟩) hb).trans (hc i hi).2.1, (World.cell?_of_block (a := ⟨b, off + i * 3 + 2, none⟩) hb).trans (hc i hi).2.2⟩⟩
theorem Pr.same {w w' : World} {p : Nat} {W : List Tk} {i d : Nat} {e : Int} {t : Nat} (h : Pr w p W i d e t) (hk : ∀ b, b < p → w'.heap[b]? = w.heap[b]?) (hp : w'.heap[p]? = w.heap[p]?) : Pr w' p W i d e t := by
 obtain ⟨b, off, c, h1, h2, h3⟩ := h.ex
 exact ⟨b, off, c, hp.trans h1, h2, h3.keepB (hk b h2)⟩
theorem Pr.below {w w' : World} {p B : Nat} {W : List Tk} {i d : Nat} {e : Int} {t : Nat} (h : Pr w p W i d e t) (hb : Below B w w') (hp : p < B) : Pr w' p W i d e t :=
 h.same (fun b h => hb.block b (by omega)) (hb.block p hp)
theorem Pr.bel {w w' : World} {p : Nat} {W : List Tk} {i d : Nat} {e : Int} {t : Nat} (h : Pr w p W i d e t) (hb : Below w.heap.size w w') : Pr w' p W i d e t := h.below hb h.lt
theorem Pr.st {w w' : World} {p g : Nat} {W : List Tk} {i d : Nat} {e : Int} {t : Nat} (h : Pr w p W i d e t) (hs : St g w w') (hg : p < g) : Pr w' p W i d e t :=
 h.same (fun b hb => hs.block b (by omega)) (hs.block p (by omega))
theorem Zdw {w : World} {p : Nat} {a : Option Addr} {n c i d : Nat} {e : Int} {t : Nat} (h : w.heap[p]? = some (Zm2 a n c i d e t)) : w.cell? ⟨p, 0, none⟩ = some (.slice a n c) ∧ w.cell? ⟨p, 1, none⟩ = some (.int .i64 (i : Int)) ∧ w.cell? ⟨p, 2, none⟩ = some (.int .i64 (d : Int)) ∧ w.cell? ⟨p, 3, none⟩ = some (.int .i64 e) ∧ w.cell? ⟨p, 4, none⟩ = some (.int .i64 (t : Int)) ∧ ∀ j, w.frozen? ⟨p, j, none⟩ = false := by
 refine ⟨?_, ?_, ?_, ?_, ?_, fun j => ?_⟩ <;> simp [World.cell?, World.frozen?, h, Zm2]
theorem Pr.open_ {w : World} {p : Nat} {W : List Tk} {i d : Nat} {e : Int} {t : Nat} (h : Pr w p W i d e t) (hi : i < W.length) : ∃ b off c, w.cell? ⟨p, 0, none⟩ = some (.slice (some ⟨b, off, none⟩) W.length c) ∧ w.cell? ⟨p, 1, none⟩ = some (.int .i64 (i : Int)) ∧ w.cell? ⟨p, 2, none⟩ = some (.int .i64 (d : Int)) ∧ w.cell? ⟨p, 3, none⟩ = some (.int .i64 e) ∧ w.cell? ⟨p, 4, none⟩ = some (.int .i64 (t : Int)) ∧ (∀ j, w.frozen? ⟨p, j, none⟩ = false) ∧ w.cell? ⟨b, off + i * 3, none⟩ = some (.int .i64 (kdW W i)) ∧ w.cell? ⟨b, off + i * 3 + 1, none⟩ = some (.string (strOfNums (txW W i))) ∧ w.cell? ⟨b, off + i * 3 + 2, none⟩ = some (.int .i64 (psW W i : Int)) ∧ b < p := by
 obtain ⟨b, off, c, h1, h2, h3⟩ := h.ex
 obtain ⟨b', off', e', hc⟩ := h3.cells (by omega)
 simp only [Option.some.injEq, Addr.mk.injEq, and_true] at e'
 obtain ⟨rfl, rfl⟩ := e'
 have := hc i hi
 obtain ⟨c0, c1, c2, c3, c4, cf⟩ := Zdw h1
 exact ⟨b, off, c, c0, c1, c2, c3, c4, cf, this.1, this.2.1, this.2.2, h2⟩
theorem Pr.put {w w' : World} {p : Nat} {W : List Tk} {i d : Nat} {e : Int} {t : Nat} {i' d' : Nat} {e' : Int} {t' : Nat} (h : Pr w p W i d e t) (hs : St p w w') (hp : ∀ b off c, w.heap[p]? = some (Zm2 (some ⟨b, off, none⟩) W.length c i d e t) → w'.heap[p]? = some (Zm2 (some ⟨b, off, none⟩) W.length c i' d' e' t')) : Pr w' p W i' d' e' t' := by
 obtain ⟨b, off, c, h1, h2, h3⟩ := h.ex
 exact ⟨b, off, c, hp b off c h1, h2, h3.keepB (hs.block b (by omega))⟩
theorem Pr.setAt {w : World} {p : Nat} {W : List Tk} {i d : Nat} {e : Int} {t : Nat} (h : Pr w p W i d e t) (j : Nat) : Pr (w.setCell ⟨p, 1, none⟩ (.int .i64 (j : Int))) p W j d e t :=
 h.put (St.cell w p 1 _) fun b off c e => by unfold Zm2 at e ⊢; rw [heap_setCell_same w p 1 _ _ _ e]; simp
theorem Pr.setDepth {w : World} {p : Nat} {W : List Tk} {i d : Nat} {e : Int} {t : Nat} (h : Pr w p W i d e t) (j : Nat) : Pr (w.setCell ⟨p, 2, none⟩ (.int .i64 (j : Int))) p W i j e t :=
 h.put (St.cell w p 2 _) fun b off c e => by unfold Zm2 at e ⊢; rw [heap_setCell_same w p 2 _ _ _ e]; simp
theorem Pr.setErr {w : World} {p : Nat} {W : List Tk} {i d : Nat} {e : Int} {t : Nat} (h : Pr w p W i d e t) (j : Int) : Pr (w.setCell ⟨p, 3, none⟩ (.int .i64 j)) p W i d j t :=
 h.put (St.cell w p 3 _) fun b off c e => by unfold Zm2 at e ⊢; rw [heap_setCell_same w p 3 _ _ _ e]; simp
theorem Pr.setPos {w : World} {p : Nat} {W : List Tk} {i d : Nat} {e : Int} {t : Nat} (h : Pr w p W i d e t) (j : Nat) : Pr (w.setCell ⟨p, 4, none⟩ (.int .i64 (j : Int))) p W i d e j :=
 h.put (St.cell w p 4 _) fun b off c e => by unfold Zm2 at e ⊢; rw [heap_setCell_same w p 4 _ _ _ e]; simp
theorem Pr.len {w : World} {p : Nat} {W : List Tk} {i d : Nat} {e : Int} {t : Nat} (h : Pr w p W i d e t) : W.length ≤ maxLen := by
 obtain ⟨b, off, c, _, _, h3⟩ := h.ex
 exact Nat.le_trans h3.room h3.most
def tkO (k : Int) (s : ByteArray) (p : Int) : Obj := .cells #[.int .i64 k, .string s, .int .i64 p] 78
theorem Za1 {w : World} {b : Nat} {k : Int} {s : ByteArray} {p : Int} (h : w.heap[b]? = some (tkO k s p)) : w.cell? ⟨b, 0, none⟩ = some (.int .i64 k) ∧ w.cell? ⟨b, 1, none⟩ = some (.string s) ∧ w.cell? ⟨b, 2, none⟩ = some (.int .i64 p) ∧ ∀ j, w.frozen? ⟨b, j, none⟩ = false := by
 refine ⟨?_, ?_, ?_, fun j => ?_⟩ <;> simp [World.cell?, World.frozen?, h, tkO]
theorem Zf5 {w : World} {b : Nat} {k : Int} {s : ByteArray} {p : Int} (h : w.heap[b]? = some (tkO k s p)) : (loadVar 78 ⟨b, 0, none⟩).run Tryz.prog w = .ok (.agg #[.int .i64 k, .string s, .int .i64 p]) w := by
 obtain ⟨z0, z1, z2, _⟩ := Za1 h
 simp [go_sem, z0, z1, z2]
section
variable {ops : Array Oper} {rest : List Oper} {o : Oper} {a : Act} {Q : Exit → Act → World → Prop}
theorem Zgf (w : World) (hgd : o.guard = none) (x y : Operand) (ho : o.op = .store 78 x y) (hd : o.dst = none) (g : Nat) (k : Int) (s : ByteArray) (p : Int) (hx : a.eval x = .pointer (some ⟨g, 0, none⟩)) (hy : a.eval y = .agg #[.int .i64 k, .string s, .int .i64 p]) {k0 p0 : Int} {s0 : ByteArray} (hg : w.heap[g]? = some (tkO k0 s0 p0))
  (h : ∀ w', w'.heap[g]? = some (tkO k s p) → St g w w' → wpList Tryz.prog ops Q rest a w') : wpList Tryz.prog ops Q (o :: rest) a w := by
 refine wpList_store_row hgd 78 x y ho g _ hx hy 78 _ hg (by kernel_rfl) rfl (by simp [Value.oneCell']) ?_
 rw [hd]
 exact h _ (setRow_heap w g _ _ _ _ hg) (St.row w g _)
theorem Zid (w : World) (hgd : o.guard = none) (ho : o.op = .alloc 78) (h : ∀ q w', w'.heap[q]? = some (tkO 0 ⟨#[]⟩ 0) → w.heap.size ≤ q → Below w.heap.size w w' → wpList Tryz.prog ops Q rest (a.put o.dst (.pointer (some ⟨q, 0, none⟩))) w') : wpList Tryz.prog ops Q (o :: rest) a w :=
 wpList_plain hgd fun _ hK => by
  unfold Oper.wp execOp
  simp [ho, go_sem]
  exact hK _ _ (h w.heap.size _ (Zc0 w _) (Nat.le_refl _) Zbc)
end
theorem Zad {w : World} {p : Nat} {W : List Tk} {i d t : Nat} (h : Pr w p W i d 0 t) (hi : i < W.length) (k : Int) :
  Calls Tryz.prog 45 #[.pointer (some ⟨p, 0, none⟩), .int .i64 k] w fun e w' => e = .returned (.bool (kdW W i == k)) ∧ Below w.heap.size w w' := by
 have hiI : (i : Int) < (W.length : Int) := by omega
 have hi0 : (0 : Int) ≤ (i : Int) := by omega
 have mixed : Tryz.prog.follows .mixedOrders = true := by kernel_rfl
 have h' : Pr w.drew p W i d 0 t := h.same (fun _ _ => rfl) rfl
 obtain ⟨b, off, c, c0, c1, c2, c3, c4, cf, k0, k1, k2, _⟩ := h'.open_ hi
 generalize kdW W i = kd at *
 go_enter Tryz.func45, Tryz.ntmps45
 go_wp2_with fail
 go_region_o
 all_goals go_wp2
 all_goals exact bodyPost_ret (v := .bool (kd == k)) (by simp [results, go_sem]) rfl ⟨rfl, (Below.refl _ w).drew⟩
theorem Zax {w : World} {p : Nat} {W : List Tk} {i d t : Nat} {e : Int} (h : Pr w p W i d e t) (hi : i < W.length) (he : e ≠ 0) (k : Int) :
  Calls Tryz.prog 45 #[.pointer (some ⟨p, 0, none⟩), .int .i64 k] w fun e w' => e = .returned (.bool false) ∧ Below w.heap.size w w' := by
 have mixed : Tryz.prog.follows .mixedOrders = true := by kernel_rfl
 have h' : Pr w.drew p W i d e t := h.same (fun _ _ => rfl) rfl
 obtain ⟨b, off, c, c0, c1, c2, c3, c4, cf, k0, k1, k2, _⟩ := h'.open_ hi
 have heb : (e == 0) = false := by simp [he]
 go_enter Tryz.func45, Tryz.ntmps45
 go_wp2_with fail
 go_region_o
 all_goals go_wp2
 all_goals exact bodyPost_ret (v := .bool false) (by simp [results, go_sem]) rfl ⟨rfl, (Below.refl _ w).drew⟩
end
section
variable {n : Nat} {r t : List Int}
theorem qtW_shortS (h : qtW r = some (t, n)) : t.length ≤ 1024 := by
 unfold qtW at h
 split at h
 ·cases h
 split at h
 ·cases h; assumption
 cases h
theorem word_shortS {rd : List Int → Bool} {k : Int} (h : word rd r = some (k, t, n)) (hk : k = 5 ∨ k = 6) : t.length ≤ 1024 := by
 unfold word at h
 simp only at h
 split at h
 ·split at h <;> (cases h; omega)
 split at h
 ·split at h
  ·cases h; omega
  cases h
 split at h
 ·obtain ⟨x, hx, he⟩ := Option.map_eq_some_iff.1 h
  cases he
  exact qtW_shortS (n := x.2) hx
 split at h
 ·split at h
  ·cases h; omega
  split at h
  ·obtain ⟨x, hx, he⟩ := Option.map_eq_some_iff.1 h
   cases he
   exact qtW_shortS (n := x.2) hx
  split at h
  ·cases h
  rename_i hb
  cases h
  rw [List.length_take]
  omega
 split at h
 ·cases h; omega
 split at h
 ·split at h <;> (cases h; omega)
 obtain ⟨x, hx, he⟩ := Option.map_eq_some_iff.1 h
 simp only [Prod.mk.injEq] at he
 omega
theorem qtR_mem (m : Nat) : ∀ {r t : List Int} {n : Nat}, r.length ≤ m → qtR r = some (t, n) → ∀ x ∈ t, x ∈ r := by
 induction m with
 | zero =>
  intro r t n hm h
  obtain rfl : r = [] := List.eq_nil_of_length_eq_zero (by omega)
  cases h
 | succ m ih =>
  intro r t n hm h x hx
  cases r with
  | nil => cases h
  | cons c r =>
   rw [List.length_cons] at hm
   rw [Zgi] at h
   split at h
   ·rename_i hc
    cases r with
    | nil => cases h; cases hx
    | cons d q =>
     rw [List.length_cons] at hm
     simp only at h
     split at h
     ·obtain ⟨z, hz, he⟩ := Option.map_eq_some_iff.1 h
      cases he
      rcases List.mem_cons.1 hx with rfl | hx
      ·rw [hc]; exact List.mem_cons_self
      exact List.mem_cons_of_mem _ (List.mem_cons_of_mem _ (ih (n := z.2) (by omega) hz x hx))
     cases h; cases hx
   obtain ⟨z, hz, he⟩ := Option.map_eq_some_iff.1 h
   cases he
   rcases List.mem_cons.1 hx with rfl | hx
   ·exact List.mem_cons_self
   exact List.mem_cons_of_mem _ (ih (n := z.2) (by omega) hz x hx)
theorem Zpw (h : qtW r = some (t, n)) : ∀ x ∈ t, x ∈ r := by
 unfold qtW at h
 split at h
 ·cases h
 rename_i hq
 split at h
 ·cases h
  intro x hx
  exact List.mem_of_mem_drop (qtR_mem _ zo hq x hx)
 cases h
theorem word_mem {rd : List Int → Bool} {k : Int} (h : word rd r = some (k, t, n)) : ∀ x ∈ t, x ∈ r := by
 by_cases h5 : k ≠ 5 ∧ k ≠ 6
 ·rw [Zgr h h5.1 h5.2]
  intro x hx
  exact List.mem_of_mem_take hx
 unfold word at h
 simp only at h
 split at h
 ·split at h <;> (cases h; omega)
 split at h
 ·split at h
  ·cases h; omega
  cases h
 split at h
 ·obtain ⟨x, hx, he⟩ := Option.map_eq_some_iff.1 h
  cases he
  exact Zpw (n := x.2) hx
 split at h
 ·split at h
  ·cases h; omega
  split at h
  ·obtain ⟨x, hx, he⟩ := Option.map_eq_some_iff.1 h
   cases he
   exact fun y hy => List.mem_of_mem_drop (Zpw (n := x.2) hx y hy)
  split at h
  ·cases h
  cases h
  exact fun y hy => List.mem_of_mem_drop (List.mem_of_mem_take hy)
 split at h
 ·cases h; omega
 split at h
 ·split at h <;> (cases h; omega)
 obtain ⟨x, hx, he⟩ := Option.map_eq_some_iff.1 h
 simp only [Prod.mk.injEq] at he
 omega
theorem texts_of (rd : List Int → Bool) (ss : List Int) (n : Nat) : ∀ (p : Nat) (ts : List Tk), ss.length - p ≤ n → p ≤ ss.length → Zck rd p (ss.drop p) = .ok ts → ∀ t ∈ ts, (∀ x ∈ t.text, x ∈ ss) ∧ (t.text.length ≤ 1024 ∨ t.text.length ≤ ss.length) := by
 induction n with
 | zero =>
  intro p ts hn hp h t ht
  have e : p = ss.length := by omega
  subst e
  rw [List.drop_length, Ze7] at h
  cases h
  obtain rfl := List.mem_singleton.1 ht
  exact ⟨fun x hx => absurd hx List.not_mem_nil, .inl (Nat.zero_le _)⟩
 | succ n ih =>
  intro p ts hn hp h t ht
  rcases Zlg rd ss p hp with ⟨e, h1⟩ | ⟨hlt, hb, h1⟩ | ⟨hlt, h34, j, hi, hj, h1⟩ | ⟨hlt, hb, h34, k, u, m, hw, hm, hml, hk, hk2, h1⟩ | ⟨hlt, h1⟩
  ·rw [h1] at h
   cases h
   obtain rfl := List.mem_singleton.1 ht
   exact ⟨fun x hx => absurd hx List.not_mem_nil, .inl (Nat.zero_le _)⟩
  ·rw [h1] at h; exact ih (p + 1) ts (by omega) (by omega) h t ht
  ·rw [h1] at h; exact ih (p + j + 2) ts (by omega) (by omega) h t ht
  ·rw [h1] at h
   cases hl : Zck rd (p + m) (ss.drop (p + m)) with
   | error z => rw [hl] at h; cases h
   | ok l =>
    rw [hl] at h
    cases h
    rcases List.mem_cons.1 ht with rfl | ht
    ·refine ⟨fun x hx => List.mem_of_mem_drop (word_mem hw x hx), ?_⟩
     show u.length ≤ _ ∨ u.length ≤ _
     by_cases h5 : k = 5 ∨ k = 6
     ·have := word_shortS hw h5; omega
     rw [Zgr hw (fun e => h5 (.inl e)) (fun e => h5 (.inr e)), List.length_take, List.length_drop]; omega
    exact ih (p + m) l (by omega) (by omega) hl t ht
  rw [h1] at h; cases h
theorem Zqp {α : Type} (l : List α) (i : Nat) (d : α) : l.getD i d ∈ l ∨ l.getD i d = d := by
 by_cases h : i < l.length
 ·left; rw [List.getD_eq_getElem?_getD, List.getElem?_eq_getElem h]; exact List.getElem_mem h
 right; rw [List.getD_eq_getElem?_getD, List.getElem?_eq_none (by omega)]; rfl
theorem src_of {rd : List Int → Bool} {ss : List Int} {W : List Tk} (h : Zck rd 0 ss = .ok W) (hl : ss.length ≤ 4096) (hb : ∀ x ∈ ss, 0 ≤ x ∧ x < 256) :
  Src W (W.length - 1) ∧ (∀ i, ∀ c ∈ txW W i, 0 ≤ c ∧ c < 256) ∧ (∀ i, psW W i ≤ ss.length) := by
 have h0 : Zck rd 0 (ss.drop 0) = .ok W := h
 have hp := placed rd ss ss.length 0 W (by omega) (Nat.zero_le _) h0
 have ht := texts_of rd ss ss.length 0 W (by omega) (Nat.zero_le _) h0
 have h1 := hp.pos
 have h2 := hp.len
 refine ⟨⟨⟨by omega, ?_, ?_⟩, by omega, ?_⟩, ?_, ?_⟩
 ·exact (hp.at_ Zoz (W.length - 1) (by omega)).2.2.1.2 (by omega)
 ·intro m hm hk
  have := (hp.at_ Zoz m (by omega)).2.2.1.1 hk
  omega
 ·intro i
  rcases Zqp W i Zoz with h | h
  ·have := (ht _ h).2
   show (W.getD i Zoz).text.length ≤ 5000
   omega
  show (W.getD i Zoz).text.length ≤ 5000
  rw [h]; exact Nat.zero_le _
 ·intro i c hc
  rcases Zqp W i Zoz with h | h
  ·exact hb c ((ht _ h).1 c hc)
  have hc2 : c ∈ (W.getD i Zoz).text := hc
  rw [h] at hc2; cases hc2
 intro i
 show (W.getD i Zoz).pos ≤ ss.length
 by_cases hi : i < W.length
 ·exact (hp.at_ Zoz i hi).2.1
 rw [List.getD_eq_getElem?_getD, List.getElem?_eq_none (by omega)]; exact Nat.zero_le _
end
end Go.Proofs.YtncfmhlikmibaaaGreatDoor
