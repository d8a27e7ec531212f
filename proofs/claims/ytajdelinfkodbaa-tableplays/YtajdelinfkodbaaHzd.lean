/- The calls, said of both tables together. -/
import Derived.Test.YtajdelinfkodbaaHzt
import Derived.Test.YtajdelinfkodbaaAld
import Derived.Test.YtajdelinfkodbaaOpa
import Derived.Test.YtajdelinfkodbaaKno
namespace Go.Proofs.Ytajdelinfkodbaa
open Go.RowKit
set_option maxRecDepth 100000
set_option maxRecDepth 100000
/-- Rows of an object that are nobody's. -/
structure Ro (W0 : World) (A : Nat → Prop) (w : World) (sa : Option Addr) (sn sc : Nat) (ba : Option Addr) (bn bc : Nat) (vs : List (Int × Int)) (bs : List Int) : Prop where
  v : OwnV w W0.heap.size (.slice sa sn sc) vs
  b : OwnB w W0.heap.size (.slice ba bn bc) bs
  out : ∀ g, (Value.slice sa sn sc).ownBlock = some g ∨ (Value.slice ba bn bc).ownBlock = some g → ¬ A g
/-- A block that is nobody's. -/
structure Bx (A : Nat → Prop) (w : World) (g : Nat) (o : Obj) : Prop where
  blk : w.heap[g]? = some o
  out : ¬ A g
theorem Bx.step {A A' : Nat → Prop} {w w' : World} {g : Nat} {o : Obj} (h : Bx A w g o) (k : Nx A A' w w') : Bx A' w' g o := by
  have hl := lt_of_block' h.blk
  refine ⟨(k.2.block g hl h.out).trans h.blk, fun q => ?_⟩
  rcases k.1 g q with z | z
  · exact h.out z
  · omega
theorem Bx.below {A : Nat → Prop} {w w' : World} {g : Nat} {o : Obj} (h : Bx A w g o) (k : Below w.heap.size w w') : Bx A w' g o := ⟨(k.block g (lt_of_block' h.blk)).trans h.blk, h.out⟩
theorem Bx.fr {A T : Nat → Prop} {w w' : World} {g : Nat} {o : Obj} (h : Bx A w g o) (k : Fr T w w') (hT : ¬ T g) : Bx A w' g o := ⟨(k.block g (lt_of_block' h.blk) hT).trans h.blk, h.out⟩
theorem Ro.lt {W0 : World} {A : Nat → Prop} {w : World} {sa : Option Addr} {sn sc : Nat} {ba : Option Addr} {bn bc : Nat} {vs : List (Int × Int)} {bs : List Int} (h : Ro W0 A w sa sn sc ba bn bc vs bs) {g : Nat} (hg : (Value.slice sa sn sc).ownBlock = some g ∨ (Value.slice ba bn bc).ownBlock = some g) : W0.heap.size ≤ g ∧ ∃ cur e, w.heap[g]? = some (.cells cur e (0, 0)) ∧ (e = 84 ∨ e = 5) := by
  rcases hg with q | q
  · obtain ⟨h1, cur, h2⟩ := own_block h.v.1 q
    exact ⟨h1, cur, _, h2, .inl rfl⟩
  · obtain ⟨h1, cur, h2⟩ := own_block h.b.1 q
    exact ⟨h1, cur, _, h2, .inr rfl⟩
section
variable {W0 w w' : World} {A A' : Nat → Prop} {tb ub k : Nat} {t : Tab} {u : RTf} {sa : Option Addr} {sn sc : Nat} {ba : Option Addr} {bn bc : Nat} {vs : List (Int × Int)} {bs : List Int}
theorem Ro.same (h : Ro W0 A w sa sn sc ba bn bc vs bs) (hk : ∀ g, (Value.slice sa sn sc).ownBlock = some g ∨ (Value.slice ba bn bc).ownBlock = some g → w'.heap[g]? = w.heap[g]?) (ho : ∀ g, (Value.slice sa sn sc).ownBlock = some g ∨ (Value.slice ba bn bc).ownBlock = some g → ¬ A' g) : Ro W0 A' w' sa sn sc ba bn bc vs bs := ⟨h.v.same (fun g hg => hk g (.inl hg)), h.b.same (fun g hg => hk g (.inr hg)), ho⟩
theorem Ro.below (h : Ro W0 A w sa sn sc ba bn bc vs bs) (k : Below w.heap.size w w') : Ro W0 A w' sa sn sc ba bn bc vs bs := h.same (fun g hg => by obtain ⟨_, cur, e, hh, _⟩ := h.lt hg; exact k.block g (lt_of_block' hh)) h.out
theorem Ro.isO (h : Ro W0 A w sa sn sc ba bn bc vs bs) {c : Int} (hc : -9223372036854775808 ≤ c ∧ c ≤ 9223372036854775807) : IsO w c sa sn sc ba bn bc vs bs := ⟨hc, h.v.isV, h.b.isB⟩
theorem Ro.new (h : Hx W0 A tb t ub u k w) (o1 : OwnV w' w.heap.size (.slice sa sn sc) vs) (o2 : OwnB w' w.heap.size (.slice ba bn bc) bs) : Ro W0 A w' sa sn sc ba bn bc vs bs := by
  refine ⟨o1.mono h.bel.size, o2.mono h.bel.size, fun g hg q => ?_⟩
  have := h.lt q
  rcases hg with hg | hg
  · have := (own_block o1.1 hg).1; omega
  · have := (own_block o2.1 hg).1; omega
theorem ShV.of_own {base : Nat} (h : OwnV w base (.slice sa sn sc) vs) : ShV w sa sn sc := by
  have hi := h.isV
  refine ⟨?_, by have h1 := hi.room; have h2 := hi.most; unfold maxLen at h2; omega⟩
  have hl := hi.size
  rcases h.1.2 with ⟨e, h0⟩ | ⟨g, cap, cur, e, hbg, hgh, hnc, hcm, hcs, htake⟩
  · injection e with e1 e2 e3
    exact .inl ⟨e1, e2, e3⟩
  · injection e with e1 e2 e3
    exact .inr ⟨g, cur, e1, hgh, by omega⟩
theorem ShB.of_own {base : Nat} (h : OwnB w base (.slice ba bn bc) bs) : ShB w ba bn bc := by
  have hi := h.isB
  refine ⟨?_, by have h1 := hi.room; have h2 := hi.most; unfold maxLen at h2; omega⟩
  have hl := hi.size
  rcases h.1.2 with ⟨e, h0⟩ | ⟨g, cap, cur, e, hbg, hgh, hnc, hcm, hcs, htake⟩
  · injection e with e1 e2 e3
    exact .inl ⟨e1, e2, e3⟩
  · injection e with e1 e2 e3
    exact .inr ⟨g, cur, e1, hgh, by omega⟩
/-- What an object's class can be. -/
theorem Hx.cls (h : Hx W0 A tb t ub u k w) (c q : Int) : -9223372036854775808 ≤ oCl (ratO u c q) ∧ oCl (ratO u c q) ≤ 9223372036854775807 := by
  have hok := h.rel.ok
  unfold ratO
  split
  · unfold atU
    cases hx : chU u c q with
    | none => simp [oCl]
    | some x =>
      simp only
      by_cases hg : x.gone = true
      · rw [if_pos hg]; simp [oCl]
      · rw [if_neg hg]
        have hm : x ∈ stateU u c := List.mem_of_find?_eq_some hx
        have h2 := hok.st c x hm
        simp only [Bool.not_eq_true] at hg
        simp only [okCh, hg, okO, okC, Bool.false_eq_true, if_false, Bool.and_eq_true, decide_eq_true_eq] at h2
        show -9223372036854775808 ≤ x.cls ∧ x.cls ≤ 9223372036854775807
        omega
  · simp [oCl]
def AtX (W0 : World) (A : Nat → Prop) (w : World) (o : Option Ob) (er : Int) (e : Ending) (w' : World) : Prop := ∃ sa sn sc ba bn bc, e = .returned (.tuple #[.agg #[.int .i64 (oCl o), .slice sa sn sc, .slice ba bn bc], .int .i64 er]) ∧ Ro W0 A w' sa sn sc ba bn bc (oVs o) (oBs o) ∧ Below w.heap.size w w'
theorem hx_at (h : Hx W0 A tb t ub u k w) (c q : Int) : Calls Try.prog 19 #[.pointer (some ⟨tb, 0, none⟩), .int .i64 c, .int .i64 q] w (AtX W0 A w (ratO u c q) (ratE u c q)) := by
  have hr := h.rel.at_ c q
  obtain ⟨S, R, U, h1, h2, h3, h4, h5, h6, e0⟩ := h.hy
  refine (atT_any h1 c q).mono ?_
  rintro e w' ⟨vv, bv, rfl, o1, o2, B⟩
  rw [clsO_ob, hr.1, hr.2]
  rw [vsO_ob, hr.1] at o1
  rw [bsO_ob, hr.1] at o2
  obtain ⟨sa, sn, sc, rfl⟩ := o1.shape'
  obtain ⟨ba, bn, bc, rfl⟩ := o2.shape'
  exact ⟨sa, sn, sc, ba, bn, bc, rfl, Ro.new h o1 o2, B⟩
theorem hx_rat (h : Hx W0 A tb t ub u k w) (hk : k ≤ 1000) (c q : Int) : Calls Try.prog 20 #[.pointer (some ⟨ub, 0, none⟩), .int .i64 c, .int .i64 q] w (AtX W0 A w (ratO u c q) (ratE u c q)) := by
  obtain ⟨S, R, U, h1, h2, h3, h4, h5, h6, e0⟩ := h.hy
  refine (rat_any h2 h.rel.ok.gb h.rel.oks hk c q).mono ?_
  rintro e w' ⟨sa, sn, sc, ba, bn, bc, rfl, o1, o2, B⟩
  exact ⟨sa, sn, sc, ba, bn, bc, rfl, Ro.new h o1 o2, B⟩
theorem hx_last (h : Hx W0 A tb t ub u k w) : Calls Try.prog 22 #[.pointer (some ⟨tb, 0, none⟩)] w fun e w' => e = .returned (.int .i64 u.end_) ∧ w = w' := by
  obtain ⟨S, R, U, h1, _⟩ := h.hy
  obtain ⟨mv, hb, _⟩ := h1.blk
  rw [← h.rel.rel.last]
  exact last_any hb
theorem hx_first (h : Hx W0 A tb t ub u k w) : Calls Try.prog 23 #[.pointer (some ⟨tb, 0, none⟩)] w fun e w' => e = .returned (.int .i64 u.from_) ∧ w = w' := by
  obtain ⟨S, R, U, h1, _⟩ := h.hy
  obtain ⟨mv, hb, _⟩ := h1.blk
  rw [← h.rel.rel.first]
  exact first_any hb
theorem hx_changed (h : Hx W0 A tb t ub u k w) (q : Int) : Calls Try.prog 24 #[.pointer (some ⟨tb, 0, none⟩), .int .i64 q] w fun e w' => e = .returned (.int .i64 (whenU u q)) ∧ w = w' := by
  obtain ⟨S, R, U, h1, _⟩ := h.hy
  rw [← h.rel.rel.chg q]
  exact changed_any h1 q
theorem hx_rchanged (h : Hx W0 A tb t ub u k w) (hk : k ≤ 1000) (q : Int) : Calls Try.prog 25 #[.pointer (some ⟨ub, 0, none⟩), .int .i64 q] w fun e w' => e = .returned (.int .i64 (whenU u q)) ∧ w = w' := by
  obtain ⟨S, R, U, h1, h2, _⟩ := h.hy
  exact rchanged_any h2 hk q
theorem hx_all (h : Hx W0 A tb t ub u k w) : Calls Try.prog 26 #[.pointer (some ⟨tb, 0, none⟩)] w (GivE w u.end_ (liveU u u.end_)) := by
  obtain ⟨S, R, U, h1, _⟩ := h.hy
  rw [← h.rel.all h.hy.good.1, ← h.rel.rel.last]
  exact all_anyE h1
theorem hx_rall (h : Hx W0 A tb t ub u k w) (hk : k ≤ 1000) : Calls Try.prog 32 #[.pointer (some ⟨ub, 0, none⟩)] w (TakP w u.end_ (liveU u u.end_)) := by
  obtain ⟨S, R, U, h1, h2, _⟩ := h.hy
  exact rall_any h2 h.rel.ok hk
theorem hx_oops (h : Hx W0 A tb t ub u k w) (c : Int) : Calls Try.prog 28 #[.pointer (some ⟨tb, 0, none⟩), .int .i64 c] w (OopP w (roopsL u c)) := by
  obtain ⟨S, R, U, h1, _⟩ := h.hy
  rw [← h.rel.oops h.hy.good.1 c]
  exact oops_any h1 c
theorem hx_roops (h : Hx W0 A tb t ub u k w) (hk : k ≤ 1000) (c : Int) : Calls Try.prog 29 #[.pointer (some ⟨ub, 0, none⟩), .int .i64 c] w (OopP w (roopsL u c)) := by
  obtain ⟨S, R, U, h1, h2, _⟩ := h.hy
  exact roops_any h2 h.rel.ok hk c
theorem okR_few {c : Int} {xs : List Ch} (h : okR c xs = true) : xs.length ≤ 4096 := by unfold okR at h; simp at h; omega
theorem hx_free (h : Hx W0 A tb t ub u k w) : Calls Try.prog 30 #[.pointer (some ⟨tb, 0, none⟩), .int .i64 3] w (OopP w (fr3 (rfreeP u))) := by
  obtain ⟨S, R, U, h1, _⟩ := h.hy
  rw [← h.rel.free h.hy.good.1]
  exact free_any h1
theorem hx_rfree (h : Hx W0 A tb t ub u k w) (hk : k ≤ 1000) : Calls Try.prog 31 #[.pointer (some ⟨ub, 0, none⟩), .int .i64 3] w (OopP w (fr3 (rfreeP u))) := by
  obtain ⟨S, R, U, h1, h2, _⟩ := h.hy
  exact rfree_any h2 h.rel.ok hk (fun r hr => okR_few (h.rel.oks r hr))
/-- A list of numbers somewhere. -/
structure LsJ (w : World) (a : Option Addr) (n c : Nat) (ks : List Int) : Prop where
  row : ∃ base, w.ownsRow base 2 1 (.slice a n c) n (ks.map (Value.int .i64))
  ln : n = ks.length
  few : n ≤ 4096
theorem LsJ.below {a : Option Addr} {n c : Nat} {ks : List Int} (h : LsJ w a n c ks) (k : Below w.heap.size w w') : LsJ w' a n c ks := by
  obtain ⟨⟨b, q⟩, h2, h3⟩ := h
  exact ⟨⟨b, own_below q k⟩, h2, h3⟩
theorem lj_same {a1 a2 : Option Addr} {n1 c1 n2 c2 : Nat} {ks : List Int} (h1 : LsJ w a1 n1 c1 ks) (h2 : LsJ w a2 n2 c2 ks) : Calls Try.prog 27 #[.slice a1 n1 c1, .slice a2 n2 c2] w fun e w' => e = .returned (.bool true) ∧ Below w.heap.size w w' := by
  obtain ⟨⟨b1, q1⟩, l1, f1⟩ := h1
  obtain ⟨⟨b2, q2⟩, l2, f2⟩ := h2
  obtain rfl : n1 = n2 := l1.trans l2.symm
  exact lsame_yes q1 q2 l1 f1
theorem roopsL_few (h : Hx W0 A tb t ub u k w) (c : Int) : (roopsL u c).length ≤ 4096 := by
  unfold roopsL
  split
  · rw [List.length_map]
    exact Nat.le_trans (List.length_filter_le _ _) (h.rel.ok.few c)
  · simp
theorem fr3_few (p : Int → Bool) : (fr3 p).length ≤ 4096 := by
  unfold fr3
  rw [List.length_take]
  omega
/-- A row of changes that is nobody's: all its blocks. -/
def RcB (a : Option Addr) (n c : Nat) (ss : List Cs) (g : Nat) : Prop := (Value.slice a n c).ownBlock = some g ∨ ∃ s ∈ ss, (Value.slice s.sa s.sn s.sc).ownBlock = some g ∨ (Value.slice s.ba s.bn s.bc).ownBlock = some g
structure Rc (W0 : World) (A : Nat → Prop) (ty : Nat) (a : Option Addr) (n c : Nat) (ss : List Cs) (w : World) : Prop where
  row : w.ownsRow W0.heap.size ty 5 (.slice a n c) ss.length (flatC ss)
  el : ∀ s ∈ ss, ElB W0.heap.size w s
  oop : ∀ s ∈ ss, -9223372036854775808 ≤ s.x.oop ∧ s.x.oop ≤ 9223372036854775807
  out : ∀ g, RcB a n c ss g → ¬ A g
variable {ty : Nat} {a : Option Addr} {n c : Nat} {ss : List Cs}
theorem Rc.lt (h : Rc W0 A ty a n c ss w) {g : Nat} (hg : RcB a n c ss g) : W0.heap.size ≤ g ∧ ∃ cur e, w.heap[g]? = some (.cells cur e (0, 0)) := by
  rcases hg with q | ⟨s, hs, q | q⟩
  · obtain ⟨h1, cur, h2⟩ := own_block h.row q
    exact ⟨h1, cur, _, h2⟩
  · obtain ⟨h1, cur, h2⟩ := own_block (h.el s hs).v.1 q
    exact ⟨h1, cur, _, h2⟩
  · obtain ⟨h1, cur, h2⟩ := own_block (h.el s hs).b.1 q
    exact ⟨h1, cur, _, h2⟩
theorem Rc.same (h : Rc W0 A ty a n c ss w) (hk : ∀ g, RcB a n c ss g → w'.heap[g]? = w.heap[g]?) (ho : ∀ g, RcB a n c ss g → ¬ A' g) : Rc W0 A' ty a n c ss w' :=
  ⟨own_same h.row (fun g hg => hk g (.inl hg)), fun s hs => ⟨(h.el s hs).cls, (h.el s hs).v.same (fun g hg => hk g (.inr ⟨s, hs, .inl hg⟩)), (h.el s hs).b.same (fun g hg => hk g (.inr ⟨s, hs, .inr hg⟩))⟩, h.oop, ho⟩
theorem Rc.step (h : Rc W0 A ty a n c ss w) (k : Nx A A' w w') : Rc W0 A' ty a n c ss w' := by
  refine h.same (fun g hg => ?_) (fun g hg q => ?_)
  · obtain ⟨_, cur, e, hh⟩ := h.lt hg
    exact k.2.block g (lt_of_block hh) (h.out g hg)
  · obtain ⟨_, cur, e, hh⟩ := h.lt hg
    have := lt_of_block hh
    rcases k.1 g q with z | z
    · exact h.out g hg z
    · omega
theorem Rc.below (h : Rc W0 A ty a n c ss w) (k : Below w.heap.size w w') : Rc W0 A ty a n c ss w' := h.same (fun g hg => by obtain ⟨_, cur, e, hh⟩ := h.lt hg; exact k.block g (lt_of_block hh)) h.out
theorem Rc.ownC (h : Rc W0 A ty a n c ss w) : OwnC w W0.heap.size ty (.slice a n c) (ss.map Cs.x) := ⟨ss, h.row, rfl, fun s hs => (h.el s hs).el, fun x hx => by obtain ⟨s, hs, rfl⟩ := List.mem_map.1 hx; exact h.oop s hs⟩
theorem Rc.new {N : Nat} {xs : List Ch} (hb : W0.heap.size ≤ N) (hA : ∀ g, A g → g < N) (h : OwnE w N ty (.slice a n c) xs) : ∃ ss, ss.map Cs.x = xs ∧ Rc W0 A ty a n c ss w := by
  obtain ⟨ss, h1, h2, h3, h4⟩ := h
  refine ⟨ss, h2, own_mono h1 hb, fun s hs => (h3 s hs).mono hb, fun s hs => h4 s.x (by rw [← h2]; exact List.mem_map.2 ⟨s, hs, rfl⟩), fun g hg q => ?_⟩
  have := hA g q
  rcases hg with z | ⟨s, hs, z | z⟩
  · have := (own_block h1 z).1; omega
  · have := (own_block (h3 s hs).v.1 z).1; omega
  · have := (own_block (h3 s hs).b.1 z).1; omega
theorem Rc.len (h : Rc W0 A ty a n c ss w) : n = ss.length := by
  rcases h.row.2 with ⟨e, h0⟩ | ⟨g, cap, cur, e, _⟩
  · cases e; exact h0.symm
  · cases e; rfl
/-- While a row's objects are written over. -/
structure SpL (ss : List Cs) (w wr : World) : Prop where
  fr : Fr (fun g => ∃ s ∈ ss, (Value.slice s.sa s.sn s.sc).ownBlock = some g ∨ (Value.slice s.ba s.bn s.bc).ownBlock = some g) w wr
  sh : Shk w wr
theorem SpL.refl (ss : List Cs) (w : World) : SpL ss w w := ⟨Fr.refl _ _, fun _ cur _ h => ⟨cur, h, rfl⟩⟩
theorem SpL.hx (h : SpL ss w w') (hr : Rc W0 A ty a n c ss w) (hx : Hx W0 A tb t ub u k w) : Hx W0 A tb t ub u k w' := hx.spoil h.fr (fun g hg => by
  obtain ⟨s, hs, q⟩ := hg
  exact ⟨hr.out g (.inr ⟨s, hs, q⟩), (hr.lt (.inr ⟨s, hs, q⟩)).1⟩)
/-- A block of another kind stays. -/
theorem SpL.other (h : SpL ss w w') (hr : Rc W0 A ty a n c ss w) {g e : Nat} {cur : Array Value} (hg : w.heap[g]? = some (.cells cur e (0, 0))) (h1 : e ≠ 84) (h2 : e ≠ 5) : w'.heap[g]? = w.heap[g]? := h.fr.block g (lt_of_block hg) (fun ⟨s, hs, q⟩ => by
  rcases q with q | q
  · obtain ⟨_, cur', hh⟩ := own_block (hr.el s hs).v.1 q
    rw [hg] at hh; cases hh; exact h1 rfl
  · obtain ⟨_, cur', hh⟩ := own_block (hr.el s hs).b.1 q
    rw [hg] at hh; cases hh; exact h2 rfl)
theorem SpL.next (h : SpL ss w w') {s : Cs} (hs : s ∈ ss) {w2 : World} (f : Fr (fun g => (Value.slice s.sa s.sn s.sc).ownBlock = some g ∨ (Value.slice s.ba s.bn s.bc).ownBlock = some g) w' w2) (k : Shk w' w2) : SpL ss w w2 := ⟨h.fr.trans (f.mono (fun _ _ q => ⟨s, hs, q⟩)) (fun _ _ q => q), h.sh.trans k⟩
theorem Rc.at_ (hr : Rc W0 A ty a n c ss w) (h1 : ty ≠ 84) (h2 : ty ≠ 5) (j : Nat) (hj : j < n) : ∃ (cb : Nat) (s : Cs), a = some ⟨cb, 0, none⟩ ∧ s ∈ ss ∧ ∀ wr, SpL ss w wr → cb < wr.heap.size ∧ (∀ i v, s.cells[i]? = some v → wr.cell? ⟨cb, j * 5 + i, none⟩ = some v) ∧ ShV wr s.sa s.sn s.sc ∧ ShB wr s.ba s.bn s.bc := by
  have hn := hr.len
  obtain ⟨s, hs⟩ : ∃ s, ss[j]? = some s := ⟨_, List.getElem?_eq_getElem (by omega)⟩
  have hm := List.mem_of_getElem? hs
  rcases hr.row.2 with ⟨_, h0⟩ | ⟨g, cap, cur, e, _, hgh, _⟩
  · omega
  · cases e
    refine ⟨g, s, rfl, hm, fun wr hsp => ⟨Nat.lt_of_lt_of_le (lt_of_block hgh) hsp.fr.size, fun i v hv => ?_, (ShV.of_own (hr.el s hm).v).keep hsp.sh, (ShB.of_own (hr.el s hm).b).keep hsp.sh⟩⟩
    have hi : i < 5 := by have := (List.getElem?_eq_some_iff.1 hv).1; simpa [Cs.cells] using this
    have f0 := flatC_at ss j s hs i hi
    rw [hv] at f0
    have c0 := World.ownsRow.cells hr.row (g := g) rfl _ _ f0
    rw [Addr.add_lit, Nat.zero_add] at c0
    rw [cell_eq' (hsp.other hr hgh h1 h2)]
    exact c0
end
end Go.Proofs.Ytajdelinfkodbaa
