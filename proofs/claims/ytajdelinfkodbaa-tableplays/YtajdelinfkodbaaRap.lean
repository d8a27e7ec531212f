/- The document's Apply. -/
import Derived.Test.YtajdelinfkodbaaRtf
import Derived.Test.YtajdelinfkodbaaRecV
namespace Go.Proofs.Ytajdelinfkodbaa
open Go.RowKit
set_option maxRecDepth 100000
set_option maxRecDepth 100000
theorem rcopy_shape {w : World} {c : Int} {sa ba : Option Addr} {sn sc bn bc : Nat} {vs : List (Int × Int)} {bs : List Int} (h : IsO w c sa sn sc ba bn bc vs bs) (hs : sn ≤ 8796093022208) (hb : bn ≤ 140737488355328) :
    Calls Try.prog 34 #[.agg #[.int .i64 c, .slice sa sn sc, .slice ba bn bc]] w fun e w' => ∃ ga gn gc qa qn qc, e = .returned (.agg #[.int .i64 c, .slice ga gn gc, .slice qa qn qc]) ∧ OwnV w' w.heap.size (.slice ga gn gc) vs ∧ OwnB w' w.heap.size (.slice qa qn qc) bs ∧ Below w.heap.size w w' := by
  refine (rcopy_any h hs hb).mono ?_
  rintro e w' ⟨vv, bv, rfl, o1, o2, B⟩
  obtain ⟨ga, gn, gc, rfl⟩ := o1.shape'
  obtain ⟨qa, qn, qc, rfl⟩ := o2.shape'
  exact ⟨ga, gn, gc, qa, qn, qc, rfl, o1, o2, B⟩
def rapplyE (u : RTf) (c : Int) (xs : List Ch) : Int := if okR c xs = false then 1 else if c ≤ u.end_ then 5 else 0
def rapplyT (u : RTf) (c : Int) (xs : List Ch) : RTf := if rapplyE u c xs = 0 then appU u c xs else u
/-- What holds while a record is taken in. -/
structure Ra (w : World) (U : Nat → Prop) (b b3 b5 : Nat) (f e c : Int) (ra : Option Addr) (n cap : Nat) (B lv : Value) (W : List (Int × Int)) (xs : List Ch) (i j : Nat) (wr : World) : Prop where
  fr : Fr U w wr
  kt : ∀ (g : Nat) (cur : Array Value) (t : Nat), w.heap[g]? = some (Obj.cells cur t (0, 0)) → t ≠ 35 → t ≠ 82 → wr.heap[g]? = w.heap[g]?
  rb : wr.heap[b3]? = some (recB c (.slice ra n cap) 29)
  tb : ∃ wv, wr.heap[b]? = some (rtB f e B lv wv) ∧ WrT wr (fun g => U g ∨ w.heap.size ≤ g) wv (W ++ (xs.take j).map (fun x => (x.oop, c)))
  xb : ∃ xv, wr.heap[b5]? = some (recB c xv 29) ∧ ChT wr (fun g => w.heap.size ≤ g) xv (xs.take i)
theorem Ra.below {w : World} {U : Nat → Prop} {b b3 b5 : Nat} {f e c : Int} {ra : Option Addr} {n cap : Nat} {B lv : Value} {W : List (Int × Int)} {xs : List Ch} {i j : Nat} {wr w' : World} (h : Ra w U b b3 b5 f e c ra n cap B lv W xs i j wr) (hb : Below wr.heap.size wr w') : Ra w U b b3 b5 f e c ra n cap B lv W xs i j w' := by
  obtain ⟨wv, t1, t2, t3⟩ := h.tb
  obtain ⟨xv, x1, x2⟩ := h.xb
  refine ⟨⟨hb.os.trans h.fr.os, hb.tape.trans h.fr.tape, hb.output.trans h.fr.output, Nat.le_trans h.fr.size hb.size, fun q hq hn => (hb.block q (Nat.lt_of_lt_of_le hq h.fr.size)).trans (h.fr.block q hq hn)⟩, fun g cur e hg h1 h2 => (hb.block g (Nat.lt_of_lt_of_le (lt_of_block hg) h.fr.size)).trans (h.kt g cur e hg h1 h2), (hb.block b3 (lt_of_block' h.rb)).trans h.rb, ⟨wv, (hb.block b (lt_of_block' t1)).trans t1, own_below t2 hb, t3⟩, ⟨xv, (hb.block b5 (lt_of_block' x1)).trans x1, x2.same (fun _ h => h) (fun g hg _ => hb.block g hg)⟩⟩
variable {w : World} {U : Nat → Prop} {b b3 b5 : Nat} {f e c : Int} {ra : Option Addr} {n cap : Nat} {B lv : Value} {W : List (Int × Int)} {xs : List Ch} {i j : Nat} {wq w6 wp : World}
section
variable {w : World} {U : Nat → Prop} {b b3 b5 : Nat} {f e c : Int} {ra : Option Addr} {n cap : Nat} {B lv : Value} {W : List (Int × Int)} {xs : List Ch} {i j : Nat} {wq w6 wp : World}
/-- One change more in the row of changes. -/
theorem Ra.push (R : Ra w U b b3 b5 f e c ra n cap B lv W xs i j wq) {a5 : Option Addr} {m5 cap5 : Nat} {ss : List Cs} (X5 : wq.heap[b5]? = some (recB c (.slice a5 m5 cap5) 29)) (q0 : ss.map Cs.x = xs.take i) (q1 : ∀ s ∈ ss, ElT wq (fun g => w.heap.size ≤ g) s) (q2 : ∀ x ∈ xs.take i, -9223372036854775808 ≤ x.oop ∧ x.oop ≤ 9223372036854775807) (own : wq.ownsRow 0 73 5 (.slice a5 m5 cap5) ss.length (flatC ss)) (inT : InT (fun g => w.heap.size ≤ g) (.slice a5 m5 cap5))
    (hb : b < w.heap.size) (hb5 : w.heap.size ≤ b5) (d35 : b3 ≠ b5) {Y : Cs} (hsn : xs.take (i + 1) = xs.take i ++ [Y.x]) (hY : -9223372036854775808 ≤ Y.x.oop ∧ Y.x.oop ≤ 9223372036854775807) (hYc : -9223372036854775808 ≤ Y.x.cls ∧ Y.x.cls ≤ 9223372036854775807) {a8 : Option Addr} {n8 c8 : Nat}
    (u1 : w6.heap[b5]? = wq.heap[b5]?) (p1 : Below wq.heap.size wq wp) (p2 : wp.grownBy w6 (Value.slice a5 m5 cap5).ownBlock) (p3 : w6.ownsRow 0 73 5 (.slice a8 n8 c8) (ss.length + 1) (flatC ss ++ Y.cells)) (p4 : ∀ g, (Value.slice a8 n8 c8).ownBlock = some g → (Value.slice a5 m5 cap5).ownBlock = some g ∨ wp.heap.size ≤ g) (p5 : OwnV wp wq.heap.size (.slice Y.sa Y.sn Y.sc) Y.x.vs) (p6 : OwnB wp wq.heap.size (.slice Y.ba Y.bn Y.bc) Y.x.bs) :
    Ra w U b b3 b5 f e c ra n cap B lv W xs (i + 1) j (w6.setCell ⟨b5, 1, none⟩ (.slice a8 n8 c8)) ∧ ∀ q, q < wq.heap.size → q ≠ b5 → (Value.slice a5 m5 cap5).ownBlock ≠ some q → (w6.setCell ⟨b5, 1, none⟩ (.slice a8 n8 c8)).heap[q]? = wq.heap[q]? := by
  have sq := R.fr.size
  have Bs : Below w.heap.size w6 (w6.setCell ⟨b5, 1, none⟩ (.slice a8 n8 c8)) := (Below.refl _ w6).setCell (p := ⟨b5, 1, none⟩) hb5 _
  have oth : ∀ q, q ≠ b5 → (w6.setCell ⟨b5, 1, none⟩ (.slice a8 n8 c8)).heap[q]? = w6.heap[q]? := fun q hq => heap_setCell_other w6 ⟨b5, 1, none⟩ q _ hq
  have k6 : ∀ q, q < wq.heap.size → (Value.slice a5 m5 cap5).ownBlock ≠ some q → w6.heap[q]? = wq.heap[q]? := fun q hq hn => (p2.block q (Nat.lt_of_lt_of_le hq p1.size) (fun e => hn e.symm)).trans (p1.block q hq)
  have k7 : ∀ q, q < wp.heap.size → (Value.slice a5 m5 cap5).ownBlock ≠ some q → w6.heap[q]? = wp.heap[q]? := fun q hq hn => p2.block q hq (fun e => hn e.symm)
  have low : ∀ q, q < w.heap.size → (Value.slice a5 m5 cap5).ownBlock ≠ some q := fun q hq k => by have := inT q k; omega
  have all : ∀ q, q < wq.heap.size → q ≠ b5 → (Value.slice a5 m5 cap5).ownBlock ≠ some q → (w6.setCell ⟨b5, 1, none⟩ (.slice a8 n8 c8)).heap[q]? = wq.heap[q]? := fun q hq h1 h2 => (oth q h1).trans (k6 q hq h2)
  have X5c : w6.heap[b5]? = some (Obj.cells #[.int .i64 c, .slice a5 m5 cap5] 29 (0, 0)) := u1.trans X5
  refine ⟨⟨⟨Bs.os.trans (p2.os.trans (p1.os.trans R.fr.os)), Bs.tape.trans (p2.tape.trans (p1.tape.trans R.fr.tape)), Bs.output.trans (p2.output.trans (p1.output.trans R.fr.output)), Nat.le_trans sq (Nat.le_trans p1.size (Nat.le_trans p2.size Bs.size)), fun q hq hn => (all q (by omega) (by omega) (low q hq)).trans (R.fr.block q hq hn)⟩, fun q cur t hg h1 h2 => ?_, ?_, ?_, ?_⟩, all⟩
  · have hq := lt_of_block hg
    exact (all q (by omega) (by omega) (low q hq)).trans (R.kt q cur t hg h1 h2)
  · exact (all b3 (lt_of_block' R.rb) d35 (own_ty own R.rb (by decide))).trans R.rb
  · obtain ⟨wv, t1, t2, t3⟩ := R.tb
    refine ⟨wv, (all b (by omega) (by omega) (low b hb)).trans t1, own_same t2 (fun q hq => ?_), t3⟩
    obtain ⟨_, cur, hh⟩ := own_block t2 hq
    refine all q (lt_of_block hh) (fun e => ?_) (own_ty own hh (by decide))
    rw [e, X5] at hh
    unfold recB at hh
    cases hh
  · refine ⟨_, rec_set1 (u1.trans X5) _, ss ++ [Y], ?_, fun s hs => ?_, ?_, ?_, fun q hq => ?_⟩
    · rw [List.map_append, q0, hsn]; rfl
    · rcases List.mem_append.1 hs with hs | hs
      · have e0 := q1 s hs
        refine ⟨e0.el.same' (fun g hg => ?_) (fun g hg => ?_), e0.v, e0.b⟩
        · obtain ⟨_, cur, hh⟩ := e0.el.lt.1 g hg
          refine all g (lt_of_block hh) (fun e => ?_) (own_ty own hh (by decide))
          rw [e, X5] at hh
          unfold recB at hh
          cases hh
        · obtain ⟨_, cur, hh⟩ := e0.el.lt.2 g hg
          refine all g (lt_of_block hh) (fun e => ?_) (own_ty own hh (by decide))
          rw [e, X5] at hh
          unfold recB at hh
          cases hh
      · rw [List.mem_singleton] at hs
        subst hs
        have ownP : wp.ownsRow 0 73 5 (.slice a5 m5 cap5) ss.length (flatC ss) := own_below own p1
        have bP : wp.heap[b5]? = some (recB c (.slice a5 m5 cap5) 29) := (p1.block b5 (lt_of_block X5)).trans X5
        have g1 : ∀ q cur t, wp.heap[q]? = some (Obj.cells cur t (0, 0)) → t ≠ 73 → t ≠ 29 → (w6.setCell ⟨b5, 1, none⟩ (.slice a8 n8 c8)).heap[q]? = wp.heap[q]? := fun q cur t hh ht ht' => by
          refine (oth q (fun e => ?_)).trans (k7 q (lt_of_block hh) (own_ty ownP hh (fun e => ht e.symm)))
          rw [e, bP] at hh
          unfold recB at hh
          cases hh
          exact ht' rfl
        refine ⟨⟨hYc, ⟨_, p5.same (fun g hg => ?_)⟩, ⟨_, p6.same (fun g hg => ?_)⟩⟩, fun g hg => ?_, fun g hg => ?_⟩
        · obtain ⟨_, cur, hh⟩ := own_block p5.1 hg
          exact g1 g cur _ hh (by decide) (by decide)
        · obtain ⟨_, cur, hh⟩ := own_block p6.1 hg
          exact g1 g cur _ hh (by decide) (by decide)
        · have := (own_block p5.1 hg).1; show w.heap.size ≤ g; omega
        · have := (own_block p6.1 hg).1; show w.heap.size ≤ g; omega
    · intro x hx
      rw [hsn] at hx
      rcases List.mem_append.1 hx with hx | hx
      · exact q2 x hx
      · rw [List.mem_singleton] at hx
        subst hx
        exact hY
    · rw [flatC_app, List.length_append]
      refine own_same (show w6.ownsRow 0 73 5 (.slice a8 n8 c8) (ss.length + 1) (flatC ss ++ flatC [Y]) by simpa [flatC] using p3) (fun q hq => oth q (fun e => ?_))
      rw [e] at hq
      exact own_ty p3 X5c (by decide) hq
    · rcases p4 q hq with k | k
      · exact inT q k
      · have := p1.size; show w.heap.size ≤ q; omega
/-- One more in the row of who changed what. -/
theorem Ra.when (R : Ra w U b b3 b5 f e c ra n cap B lv W xs i j wq) {a5 : Option Addr} {m5 cap5 : Nat} {ys cs : List Value} (XB : wq.heap[b]? = some (rtB f e B lv (.slice a5 m5 cap5))) (own : wq.ownsRow 0 82 2 (.slice a5 m5 cap5) m5 ys) (inT : InT (fun g => U g ∨ w.heap.size ≤ g) (.slice a5 m5 cap5)) (hm : m5 = (W ++ (xs.take j).map (fun x => (x.oop, c))).length ∧ ys = flatW (W ++ (xs.take j).map (fun x => (x.oop, c)))) {x : Ch} (hcs : cs = [.int .i64 x.oop, .int .i64 c]) (hsn : xs.take (j + 1) = xs.take j ++ [x])
    (hU : U b) (hb : b < w.heap.size) (hb3 : w.heap.size ≤ b3) (hb5 : w.heap.size ≤ b5) (hw : ∃ cur, w.heap[b]? = some (Obj.cells cur 35 (0, 0))) {a8 : Option Addr} {n8 c8 : Nat}
    (u1 : w6.heap[b]? = wq.heap[b]?) (p1 : Below wq.heap.size wq wp) (p2 : wp.grownBy w6 (Value.slice a5 m5 cap5).ownBlock) (p3 : w6.ownsRow 0 82 2 (.slice a8 n8 c8) (m5 + 1) (ys ++ cs)) (p4 : ∀ g, (Value.slice a8 n8 c8).ownBlock = some g → (Value.slice a5 m5 cap5).ownBlock = some g ∨ wp.heap.size ≤ g) :
    Ra w U b b3 b5 f e c ra n cap B lv W xs i (j + 1) (w6.setCell ⟨b, 4, none⟩ (.slice a8 n8 c8)) := by
  have sq := R.fr.size
  have Bs : Below 0 w6 (w6.setCell ⟨b, 4, none⟩ (.slice a8 n8 c8)) := (Below.refl _ w6).setCell (p := ⟨b, 4, none⟩) (Nat.zero_le _) _
  have oth : ∀ q, q ≠ b → (w6.setCell ⟨b, 4, none⟩ (.slice a8 n8 c8)).heap[q]? = w6.heap[q]? := fun q hq => heap_setCell_other w6 ⟨b, 4, none⟩ q _ hq
  have k6 : ∀ q, q < wq.heap.size → (Value.slice a5 m5 cap5).ownBlock ≠ some q → w6.heap[q]? = wq.heap[q]? := fun q hq hn => (p2.block q (Nat.lt_of_lt_of_le hq p1.size) (fun e => hn e.symm)).trans (p1.block q hq)
  have all : ∀ q, q < wq.heap.size → q ≠ b → (Value.slice a5 m5 cap5).ownBlock ≠ some q → (w6.setCell ⟨b, 4, none⟩ (.slice a8 n8 c8)).heap[q]? = wq.heap[q]? := fun q hq h1 h2 => (oth q h1).trans (k6 q hq h2)
  have XBc : w6.heap[b]? = some (Obj.cells #[.int .i64 f, .int .i64 e, B, lv, .slice a5 m5 cap5] 35 (0, 0)) := u1.trans XB
  refine ⟨⟨Bs.os.trans (p2.os.trans (p1.os.trans R.fr.os)), Bs.tape.trans (p2.tape.trans (p1.tape.trans R.fr.tape)), Bs.output.trans (p2.output.trans (p1.output.trans R.fr.output)), Nat.le_trans sq (Nat.le_trans p1.size (Nat.le_trans p2.size Bs.size)), fun q hq hn => (all q (by omega) (fun e => hn (e ▸ hU)) (fun k => ?_)).trans (R.fr.block q hq hn)⟩, fun q cur t hg h1 h2 => ?_, ?_, ?_, ?_⟩
  · rcases inT q k with z | z
    · exact hn z
    · omega
  · have hq := lt_of_block hg
    have hkt := R.kt q cur t hg h1 h2
    refine (all q (by omega) (fun e => ?_) (own_ty own (hkt.trans hg) (fun e => h2 e.symm))).trans hkt
    obtain ⟨cur', hb'⟩ := hw
    rw [e, hb'] at hg
    cases hg
    exact h1 rfl
  · exact (all b3 (lt_of_block' R.rb) (by omega) (own_ty own R.rb (by decide))).trans R.rb
  · have ew : W ++ (xs.take (j + 1)).map (fun x => (x.oop, c)) = (W ++ (xs.take j).map (fun x => (x.oop, c))) ++ [(x.oop, c)] := by rw [hsn]; simp
    have el : ys ++ cs = flatW (W ++ (xs.take (j + 1)).map (fun x => (x.oop, c))) := by rw [ew, flatW_app, hm.2, hcs]; rfl
    have en : m5 + 1 = (W ++ (xs.take (j + 1)).map (fun x => (x.oop, c))).length := by rw [ew, List.length_append, ← hm.1]; rfl
    refine ⟨_, rt_set4 (u1.trans XB) _, ?_, fun q hq => ?_⟩
    · rw [← en, ← el]
      refine own_same p3 (fun q hq => oth q (fun e => ?_))
      rw [e] at hq
      exact own_ty p3 XBc (by decide) hq
    · rcases p4 q hq with k | k
      · exact inT q k
      · exact .inr (by have := p1.size; omega)
  · obtain ⟨xv, x1, x2⟩ := R.xb
    refine ⟨xv, (all b5 (lt_of_block' x1) (by omega) (own_ty own x1 (by decide))).trans x1, x2.same' (fun _ h => h) (fun g cur t _ hh ht => ?_)⟩
    refine all g (lt_of_block hh) (fun e => ?_) (own_ty own hh (by rcases ht with rfl | rfl | rfl <;> decide))
    rw [e, XB] at hh
    unfold rtB at hh
    cases hh
    omega
/-- The record is there. -/
theorem Ra.done (R : Ra w U b b3 b5 f e c ra n cap B lv W xs i j wq) (hi : xs.take i = xs) (hj : xs.take j = xs) {ls : List (Int × List Ch)} {bl : List Ch} {kk : Nat} (hlt : ∀ g, U g → g < w.heap.size) (hU : U b) (hc : 0 ≤ c)
    {la : Option Addr} {ln lc : Nat} {wv : Value} (XB : wq.heap[b]? = some (rtB f e B lv wv)) {xa : Option Addr} {xn xc : Nat} (X5 : wq.heap[b5]? = some (recB c (.slice xa xn xc) 29)) {rs : List Rr} (hrs : rs.map (fun r => (r.com, r.xs)) = ls) (own : wq.ownsRow 0 29 2 (.slice la ln lc) rs.length (flatR rs)) (inT : InT U (.slice la ln lc)) (hch : ∀ r ∈ rs, ChT w U (.slice r.a r.n r.c) r.xs) {a8 : Option Addr} {n8 c8 : Nat}
    (hB : ChT w U B bl) (hls : ls.length ≤ kk ∧ W.length ≤ 4096 * kk) (hf : 0 ≤ f) (hxl : xs.length ≤ 4096)
    (u1 : w6.heap[b]? = wq.heap[b]?) (p1 : Below wq.heap.size wq wp) (p2 : wp.grownBy w6 (Value.slice la ln lc).ownBlock) (p3 : w6.ownsRow 0 29 2 (.slice a8 n8 c8) (rs.length + 1) (flatR rs ++ [.int .i64 c, .slice xa xn xc])) (p4 : ∀ g, (Value.slice a8 n8 c8).ownBlock = some g → (Value.slice la ln lc).ownBlock = some g ∨ wp.heap.size ≤ g)
    {w9 : World} (e9 : w9 = (w6.setCell ⟨b, 3, none⟩ (.slice a8 n8 c8)).setCell ⟨b, 1, none⟩ (.int .i64 c)) :
    ∃ U', RTb w9 U' b ⟨f, c, bl, ls ++ [(c, xs)], W ++ xs.map (fun x => (x.oop, c))⟩ (kk + 1) ∧ Grow U U' w w9 ∧ Fr U w w9 := by
  have sq := R.fr.size
  have hbl := hlt b hU
  have oth : ∀ q, q ≠ b → w9.heap[q]? = w6.heap[q]? := fun q hq => by rw [e9]; exact (heap_setCell_other _ ⟨b, 1, none⟩ q _ hq).trans (heap_setCell_other w6 ⟨b, 3, none⟩ q _ hq)
  have s9 : w9.heap.size = w6.heap.size := by rw [e9]; simp
  have k6 : ∀ q, q < wq.heap.size → (Value.slice la ln lc).ownBlock ≠ some q → w6.heap[q]? = wq.heap[q]? := fun q hq hn => (p2.block q (Nat.lt_of_lt_of_le hq p1.size) (fun e => hn e.symm)).trans (p1.block q hq)
  have all : ∀ q, q < wq.heap.size → q ≠ b → (Value.slice la ln lc).ownBlock ≠ some q → w9.heap[q]? = wq.heap[q]? := fun q hq h1 h2 => (oth q h1).trans (k6 q hq h2)
  have XB9 : w9.heap[b]? = some (rtB f c B (.slice a8 n8 c8) wv) := by rw [e9]; exact rt_set1 (rt_set3 (u1.trans XB) _) c
  have XBc : w6.heap[b]? = some (Obj.cells #[.int .i64 f, .int .i64 e, B, lv, wv] 35 (0, 0)) := u1.trans XB
  have sz : wq.heap.size ≤ w9.heap.size := by rw [s9]; exact Nat.le_trans p1.size p2.size
  have os9 : w9.os = w6.os ∧ w9.tape = w6.tape ∧ w9.output = w6.output := by
    have B1 : Below 0 w6 (w6.setCell ⟨b, 3, none⟩ (.slice a8 n8 c8)) := (Below.refl _ w6).setCell (p := ⟨b, 3, none⟩) (Nat.zero_le _) _
    have B2 : Below 0 w6 w9 := by rw [e9]; exact B1.setCell (p := ⟨b, 1, none⟩) (Nat.zero_le _) _
    exact ⟨B2.os, B2.tape, B2.output⟩
  have hfr : Fr U w w9 := ⟨os9.1.trans (p2.os.trans (p1.os.trans R.fr.os)), os9.2.1.trans (p2.tape.trans (p1.tape.trans R.fr.tape)), os9.2.2.trans (p2.output.trans (p1.output.trans R.fr.output)), Nat.le_trans sq sz, fun q hq hn => (all q (by omega) (fun e => hn (e ▸ hU)) (fun k => hn (inT q k))).trans (R.fr.block q hq hn)⟩
  have nty : ∀ (g : Nat) (cur : Array Value) (t : Nat), wq.heap[g]? = some (Obj.cells cur t (0, 0)) → t ≠ 29 → t ≠ 35 → w9.heap[g]? = wq.heap[g]? := fun g cur t hh h1 h2 => by
    refine all g (lt_of_block hh) (fun e => ?_) (own_ty own hh (fun e => h1 e.symm))
    rw [e, XB] at hh
    unfold rtB at hh
    cases hh
    exact h2 rfl
  refine ⟨fun g => U g ∨ (w.heap.size ≤ g ∧ g < w9.heap.size), ⟨?_, .inl hU, fun g hg => hg.elim (fun h => Nat.lt_of_lt_of_le (hlt g h) (Nat.le_trans sq sz)) (fun h => h.2), ?_, ⟨hf, hc⟩⟩, ⟨fun _ h => .inl h, fun _ h => h⟩, hfr⟩
  · obtain ⟨wv', t1, t2, t3⟩ := R.tb
    rw [hj] at t2
    have ewv : wv' = wv := by
      rw [XB] at t1
      unfold rtB at t1
      injection t1 with t1
      injection t1 with t1
      have := congrArg Array.toList t1
      simp at this
      exact this.symm
    subst ewv
    obtain ⟨xv, x1, x2⟩ := R.xb
    have exv : xv = .slice xa xn xc := by
      rw [X5] at x1
      unfold recB at x1
      injection x1 with x1
      injection x1 with x1
      have := congrArg Array.toList x1
      simp at this
      exact this.symm
    subst exv
    refine ⟨B, _, wv', XB9, hB.same' (fun _ h => .inl h) (fun g cur t hg hh ht => ?_), ⟨rs ++ [⟨c, xs, xa, xn, xc⟩], ?_, ?_, fun q hq => ?_, fun r hr => ?_⟩, ⟨own_same t2 (fun q hq => ?_), fun q hq => ?_⟩⟩
    · have hk := R.kt g cur t hh (by rcases ht with rfl | rfl | rfl <;> decide) (by rcases ht with rfl | rfl | rfl <;> decide)
      exact (nty g cur t (hk.trans hh) (by rcases ht with rfl | rfl | rfl <;> decide) (by rcases ht with rfl | rfl | rfl <;> decide)).trans hk
    · rw [List.map_append, hrs]; rfl
    · rw [flatR_app, List.length_append]
      refine own_same (show w6.ownsRow 0 29 2 (.slice a8 n8 c8) (rs.length + 1) (flatR rs ++ flatR [⟨c, xs, xa, xn, xc⟩]) by simpa [flatR, Rr.cells] using p3) (fun q hq => oth q (fun e => ?_))
      rw [e] at hq
      exact own_ty p3 XBc (by decide) hq
    · rcases p4 q hq with k | k
      · exact .inl (inT q k)
      · obtain ⟨_, cur, hh⟩ := own_block p3 hq
        have := lt_of_block hh
        have := p1.size
        exact .inr ⟨by omega, by omega⟩
    · rcases List.mem_append.1 hr with hr | hr
      · refine (hch r hr).same' (fun _ h => .inl h) (fun g cur t hg hh ht => ?_)
        have hk := R.kt g cur t hh (by rcases ht with rfl | rfl | rfl <;> decide) (by rcases ht with rfl | rfl | rfl <;> decide)
        exact (nty g cur t (hk.trans hh) (by rcases ht with rfl | rfl | rfl <;> decide) (by rcases ht with rfl | rfl | rfl <;> decide)).trans hk
      · rw [List.mem_singleton] at hr
        subst hr
        rw [hi] at x2
        have x3 : ChT w9 (fun g => w.heap.size ≤ g ∧ g < w9.heap.size) (.slice xa xn xc) xs := by
          obtain ⟨ss, q0, q1, q2, q3, q4⟩ := x2.same' (w' := w9) (fun _ h => h) (fun g cur t _ hh ht => nty g cur t hh (by rcases ht with rfl | rfl | rfl <;> decide) (by rcases ht with rfl | rfl | rfl <;> decide))
          refine ⟨ss, q0, fun s hs => ⟨(q1 s hs).el, fun g hg => ⟨(q1 s hs).v g hg, ((q1 s hs).el.lt.1 g hg).1⟩, fun g hg => ⟨(q1 s hs).b g hg, ((q1 s hs).el.lt.2 g hg).1⟩⟩, q2, q3, fun g hg => ⟨q4 g hg, ?_⟩⟩
          obtain ⟨_, cur, hh⟩ := own_block q3 hg
          exact lt_of_block hh
        exact x3.same' (fun _ h => .inr h) (fun _ _ _ _ _ _ => rfl)
    · obtain ⟨_, cur, hh⟩ := own_block t2 hq
      exact nty q cur _ hh (by decide) (by decide)
    · rcases t3 q hq with k | k
      · exact .inl k
      · obtain ⟨_, cur, hh⟩ := own_block t2 hq
        have := lt_of_block hh
        exact .inr ⟨k, by omega⟩
  · show (ls ++ [(c, xs)]).length ≤ kk + 1 ∧ (W ++ xs.map (fun x => (x.oop, c))).length ≤ 4096 * (kk + 1)
    rw [List.length_append, List.length_append, List.length_map]
    simp only [List.length_singleton]
    omega
end
set_option maxHeartbeats 16000000 in
theorem rapply_any {W0 w : World} {U : Nat → Prop} {b : Nat} {u : RTf} {k : Nat} (h : RTb w U b u k) (c : Int) {ra : Option Addr} {n cap : Nat} {xs : List Ch} (hr : IsC W0 ra n cap xs) (hW : Below W0.heap.size W0 w) (hU : ∀ g, U g → W0.heap.size ≤ g) (hk : k ≤ 1000) :
    Calls Try.prog 12 #[.pointer (some ⟨b, 0, none⟩), .agg #[.int .i64 c, .slice ra n cap]] w fun e w' => e = .returned (.int .i64 (rapplyE u c xs)) ∧ ∃ U', RTb w' U' b (rapplyT u c xs) (k + 1) ∧ Grow U U' w w' ∧ Fr U w w' := by
  have E3 : (w.alloc (recB c (.slice ra n cap) 29)).heap[w.heap.size]? = some (recB c (.slice ra n cap) 29) := new1 _ _
  have B3 : Below w.heap.size w (w.alloc (recB c (.slice ra n cap) 29)) := box_below
  obtain ⟨x0, x1⟩ := rec_cells E3
  have hr0 := hr.below hW
  have hr1 := hr0.below B3
  unfold recB at E3 B3 x0 x1 hr1
  have hwl : w.heap.size ≤ w.heap.size := Nat.le_refl _
  go_enter Try.func12, Try.ntmps12
  go_wp2_with fail
  generalize w.alloc (.cells #[.int .i64 c, .slice ra n cap] 29) = w1 at *
  obtain ⟨b3, hb3⟩ : ∃ q, q = w.heap.size := ⟨_, rfl⟩
  rw [← hb3] at E3 x0 x1 ⊢
  replace hb3 : Hid (b3 = w.heap.size) := hb3
  replace E3 : w1.heap[b3]? = some (recB c (.slice ra n cap) 29) := E3
  refine (rrightRecord_any c hr1).mono ?_
  rintro e w2 ⟨rfl, B2⟩
  have F3 := (B2.block b3 (lt_of_block E3)).trans E3
  have BB := below_size B3 B3.size B2
  clear hr1 E3 x0 x1 B2 B3
  obtain ⟨x0, x1⟩ := rec_cells F3
  have h2 := h.below BB
  cases hok : okR c xs with
  | false =>
    go_wp2
    go_ret
    have e1 : rapplyE u c xs = 1 := by simp [rapplyE, hok]
    have e2 : rapplyT u c xs = u := by simp [rapplyT, e1]
    exact ⟨by rw [e1]; rfl, U, by rw [e2]; exact h2.up (by omega), ⟨fun _ h => h, fun _ h => .inl h⟩, Fr.of_below BB⟩
  | true =>
    obtain ⟨bv, lv, wv0, hblk, hBv, hL, hWr⟩ := h2.blk
    have hlvE : Hid (∀ bv0 lv0 wv1, w.heap[b]? = some (rtB u.from_ u.end_ bv0 lv0 wv1) → bv0 = bv ∧ lv0 = lv) := fun bv0 lv0 wv1 hh => by
      rw [BB.block b (lt_of_block' hh), hh] at hblk
      unfold rtB at hblk
      injection hblk with hblk
      injection hblk with hblk
      have := congrArg Array.toList hblk
      simp at this
      exact ⟨this.1, this.2.1⟩
    obtain ⟨y0, y1, y2, y3, y4⟩ := rt_cells hblk
    by_cases hle : c ≤ u.end_
    · go_wp2_with fail
      go_quiet (fail)
      go_wp2
      go_ret
      have e1 : rapplyE u c xs = 5 := by simp [rapplyE, hok, hle]
      have e2 : rapplyT u c xs = u := by simp [rapplyT, e1]
      exact ⟨by rw [e1]; rfl, U, by rw [e2]; exact (h2.same (w' := w2.drewN nq) (Nat.le_refl _) (fun _ _ => rfl)).up (by omega), ⟨fun _ h => h, fun _ h => .inl h⟩, Fr.of_below (below_drewN' BB _)⟩
    · go_wp2_with fail
      go_quiet (fail)
      have hdec : decide (c ≤ u.end_) = false := decide_eq_false (by omega)
      rw [hdec]
      have BN := below_drewN' BB nq
      have F3n : (w2.drewN nq).heap[b3]? = some (recB c (.slice ra n cap) 29) := F3
      have hblkn : (w2.drewN nq).heap[b]? = some (rtB u.from_ u.end_ bv lv wv0) := hblk
      have hWrn : WrT (w2.drewN nq) U wv0 u.ws := hWr
      clear hdec h2 F3 BB hblk hL hBv hWr y0 y1 y2 y3 y4 x0 x1
      generalize w2.drewN nq = w3 at *
      obtain ⟨x0, x1⟩ := rec_cells F3n
      have E5 := new1 w3 (recB c (.slice none 0 0) 29)
      have B5 : Below w3.heap.size w3 (w3.alloc (recB c (.slice none 0 0) 29)) := box_below
      have hb5 : w.heap.size ≤ w3.heap.size := BN.size
      unfold recB at E5 B5
      go_wp2
      generalize w3.alloc (.cells #[.int .i64 c, .slice none 0 0] 29) = w4 at *
      obtain ⟨b5, hb5e⟩ : ∃ q, q = w3.heap.size := ⟨_, rfl⟩
      rw [← hb5e] at E5 hb5 ⊢
      replace E5 : w4.heap[b5]? = some (recB c (.slice none 0 0) 29) := E5
      have d35 : b3 ≠ b5 := by have := lt_of_block' F3n; omega
      have F3m := (B5.block b3 (lt_of_block F3n)).trans F3n
      have BM := below_size BN BN.size B5
      have R0 : Ra w U b b3 b5 u.from_ u.end_ c ra n cap bv lv u.ws xs 0 0 w4 := by
        obtain ⟨o1, o2⟩ := hWrn
        refine ⟨Fr.of_below BM, fun g cur e hg _ _ => BM.block g (lt_of_block hg), F3m, ⟨wv0, (B5.block b (lt_of_block' hblkn)).trans hblkn, by simpa using own_below o1 B5, fun g hg => .inl (o2 g hg)⟩, ⟨_, E5, by simpa using ChT.nil w4 _⟩⟩
      clear x0 x1 E5 B5 F3n F3m hblkn hWrn BN BM hb5e
      have hn4 : n ≤ 4096 := by
        have h1 : okL 0 xs = true := by unfold okR at hok; simp at hok; exact hok.2
        have h2 : xs.length ≤ 4096 := by unfold okR at hok; simp at hok; omega
        have := hr.size
        omega
      have hok' : okL 0 xs = true := by unfold okR at hok; simp at hok; exact hok.2
      have hblt : b < w.heap.size := h.lt b h.own
      have hb3l : w.heap.size ≤ b3 := by have := hb3.out; omega
      go_loopw [6] (fun iv wr => ∃ i : Nat, iv = .int .i64 (i : Int) ∧ i ≤ n ∧ Ra w U b b3 b5 u.from_ u.end_ c ra n cap bv lv u.ws xs i i wr) (fun iv _ => n - (intOf iv).toNat)
      case atStart => exact ⟨0, rfl, by omega, R0⟩
      case round =>
        clear R0
        obtain ⟨i, rfl, hi, R1⟩ := hrel
        have F3r := R1.rb
        obtain ⟨y0, y1⟩ := rec_cells F3r
        by_cases hlt : i < n
        · have hii : (i : Int) < (n : Int) := by omega
          have BW : Below W0.heap.size W0 wr := R1.fr.below hW hW.size hU
          have hrr := hr.below BW
          obtain ⟨cb, off, x, rfl, hbl0, hx, hcx, hox⟩ := hrr.at_ i hlt
          have hat := okL_at xs 0 i _ hok' hx.out
          have hsnoc : Hid (xs.take (i + 1) = xs.take i ++ [x]) := take_at hx.out
          obtain ⟨oo, g, cc, vs, bs⟩ := x
          obtain ⟨sa, sn, sc, ba, bn, bc, c0, c1, c2, c3, c4, io⟩ := hcx
          simp only at c0 c1 c2 io hox hat
          have hln := okCh_len hat.2.2
          have hsn : sn ≤ 8796093022208 := by have := io.v.size; omega
          have hbn : bn ≤ 140737488355328 := by have := io.b.size; omega
          have E7 := new1 wr (chh oo g cc (.slice sa sn sc) (.slice ba bn bc))
          have B7 : Below wr.heap.size wr (wr.alloc (chh oo g cc (.slice sa sn sc) (.slice ba bn bc))) := box_below
          unfold chh at E7 B7
          go_upto_region 10 with fail
          generalize wr.alloc (.cells #[.int .i64 oo, .bool g, .int .i64 cc, .slice sa sn sc, .slice ba bn bc] 73) = wq at *
          obtain ⟨b7, hb7⟩ : ∃ q, q = wr.heap.size := ⟨_, rfl⟩
          rw [← hb7] at E7 ⊢
          replace E7 : wq.heap[b7]? = some (chh oo g cc (.slice sa sn sc) (.slice ba bn bc)) := E7
          obtain ⟨z0, z1, z2, z3, z4⟩ := chh_cells E7
          have R2 := R1.below B7
          obtain ⟨xv, X5r, ss, q0, q1r, q2, ownr, inT⟩ := R1.xb
          obtain ⟨a5, m5, cap5, rfl⟩ : ∃ a n c, xv = .slice a n c := by
            rcases ownr.2 with ⟨rfl, _⟩ | ⟨g, cap, cur, rfl, _⟩
            · exact ⟨_, _, _, rfl⟩
            · exact ⟨_, _, _, rfl⟩
          have X5 := (B7.block b5 (lt_of_block' X5r)).trans X5r
          have own := own_below ownr B7
          have q1 : ∀ s ∈ ss, ElT wq (fun g => w.heap.size ≤ g) s := fun s hs => (q1r s hs).same (fun _ h => h) (fun g hg _ => B7.block g hg)
          have hlen : ss.length ≤ 1000000000 := by
            have h1 := congrArg List.length q0
            rw [List.length_map, List.length_take] at h1
            omega
          have hne : (Value.slice a5 m5 cap5).ownBlock = some b5 → False := own_ty own X5 (by decide)
          have hne7 : Hid ((Value.slice a5 m5 cap5).ownBlock ≠ some b7) := by
            intro k
            obtain ⟨_, cur, hh⟩ := own_block ownr k
            have := lt_of_block hh
            omega
          have l7 : w.heap.size ≤ b7 := by have := R1.fr.size; omega
          have hq7 : b7 < wq.heap.size := lt_of_block' E7
          have h57 : b7 ≠ b5 := by have := lt_of_block' X5r; omega
          replace io := io.below B7
          replace q0 : Hid _ := q0
          clear c0 c1 c2 c3 c4 hb7 R1 F3r y0 y1 X5r ownr q1r B7 hrr BW hat hln
          refine wp_region_inv' (fun A D a w' => ∃ v33 v34 v35 v36 v37 v38 v39 v40 v41 v42 v43 v44 v45 ga gn gc qa qn qc nb a8 n8 c8, a = (((((((((((((A.put (some 33) v33).put (some 34) v34).put (some 35) v35).put (some 36) v36).put (some 37) v37).put (some 38) v38).put (some 39) v39).put (some 40) v40).put (some 41) v41).put (some 42) v42).put (some 43) v43).put (some 44) v44).put (some 45) v45) ∧ (D 13 ∨ w'.heap[b5]? = wq.heap[b5]?) ∧ (D 11 ∨ Below wq.heap.size wq w') ∧ (D 0 → v33 = .pointer (some ⟨b5, 1, none⟩)) ∧ (D 1 → v34 = .slice a5 m5 cap5) ∧ (D 2 → v35 = .pointer (some ⟨b7, 0, none⟩)) ∧ (D 3 → v36 = .int .i64 oo) ∧ (D 4 → v37 = .pointer (some ⟨b7, 1, none⟩)) ∧ (D 5 → v38 = .bool g) ∧ (D 6 → v39 = .pointer (some ⟨b7, 2, none⟩)) ∧ (D 7 → v40 = .agg #[.int .i64 cc, .slice sa sn sc, .slice ba bn bc]) ∧ (D 8 → v41 = .agg #[.int .i64 cc, .slice ga gn gc, .slice qa qn qc]) ∧ (D 9 → v42 = .agg #[.int .i64 oo, .bool g, .int .i64 cc, .slice ga gn gc, .slice qa qn qc]) ∧ (D 10 → v43 = .slice (some ⟨nb, 0, none⟩) 1 1) ∧ (D 11 → v44 = .slice a8 n8 c8) ∧ (D 12 → v45 = .pointer (some ⟨b5, 1, none⟩)) ∧ (D 13 → ∃ w6 : World, w6.heap[b5]? = wq.heap[b5]? ∧ w' = w6.setCell ⟨b5, 1, none⟩ (.slice a8 n8 c8) ∧ ∃ wp : World, Below wq.heap.size wq wp ∧ wp.grownBy w6 (Value.slice a5 m5 cap5).ownBlock ∧ w6.ownsRow 0 73 5 (.slice a8 n8 c8) (ss.length + 1) (flatC ss ++ (⟨⟨oo, g, cc, vs, bs⟩, ga, gn, gc, qa, qn, qc⟩ : Cs).cells) ∧ (∀ g, (Value.slice a8 n8 c8).ownBlock = some g → (Value.slice a5 m5 cap5).ownBlock = some g ∨ wp.heap.size ≤ g) ∧ OwnV wp wq.heap.size (.slice ga gn gc) vs ∧ OwnB wp wq.heap.size (.slice qa qn qc) bs) ∧ (D 8 → ¬ D 11 → OwnV w' wq.heap.size (.slice ga gn gc) vs ∧ OwnB w' wq.heap.size (.slice qa qn qc) bs) ∧ (D 10 → ¬ D 11 → ∀ j v, (⟨⟨oo, g, cc, vs, bs⟩, ga, gn, gc, qa, qn, qc⟩ : Cs).cells[j]? = some v → w'.cell? ⟨nb, j, none⟩ = some v) ∧ (D 11 → ¬ D 13 → ∃ wp : World, Below wq.heap.size wq wp ∧ wp.grownBy w' (Value.slice a5 m5 cap5).ownBlock ∧ w'.ownsRow 0 73 5 (.slice a8 n8 c8) (ss.length + 1) (flatC ss ++ (⟨⟨oo, g, cc, vs, bs⟩, ga, gn, gc, qa, qn, qc⟩ : Cs).cells) ∧ (∀ g, (Value.slice a8 n8 c8).ownBlock = some g → (Value.slice a5 m5 cap5).ownBlock = some g ∨ wp.heap.size ≤ g) ∧ OwnV wp wq.heap.size (.slice ga gn gc) vs ∧ OwnB wp wq.heap.size (.slice qa qn qc) bs)) (by kernel_rfl) (by kernel_rfl) ?mono ?start ?step ?done
          case mono =>
            rintro D D' a w' hD ⟨v33, v34, v35, v36, v37, v38, v39, v40, v41, v42, v43, v44, v45, ga, gn, gc, qa, qn, qc, nb, a8, n8, c8, ha, hC, hB, e0, e1, e2, e3, e4, e5, e6, e7, e8, e9, e10, e11, e12, hQ, hCp, hLit, hA⟩
            exact ⟨v33, v34, v35, v36, v37, v38, v39, v40, v41, v42, v43, v44, v45, ga, gn, gc, qa, qn, qc, nb, a8, n8, c8, ha, hC.imp_left (hD 13).1, hB.imp_left (hD 11).1, fun h => e0 ((hD 0).2 h), fun h => e1 ((hD 1).2 h), fun h => e2 ((hD 2).2 h), fun h => e3 ((hD 3).2 h), fun h => e4 ((hD 4).2 h), fun h => e5 ((hD 5).2 h), fun h => e6 ((hD 6).2 h), fun h => e7 ((hD 7).2 h), fun h => e8 ((hD 8).2 h), fun h => e9 ((hD 9).2 h), fun h => e10 ((hD 10).2 h), fun h => e11 ((hD 11).2 h), fun h => e12 ((hD 12).2 h), fun h => hQ ((hD 13).2 h), fun h h' => hCp ((hD 8).2 h) (fun k => h' ((hD 11).1 k)), fun h h' => hLit ((hD 10).2 h) (fun k => h' ((hD 11).1 k)), fun h h' => hA ((hD 11).2 h) (fun k => h' ((hD 13).1 k))⟩
          case start => exact ⟨u33, u34, u35, u36, u37, u38, u39, u40, u41, u42, u43, u44, u45, none, 0, 0, none, 0, 0, 0, none, 0, 0, by kernel_rfl, .inr (rfl), .inr ((Below.refl _ _).drew), fun h => h.elim, fun h => h.elim, fun h => h.elim, fun h => h.elim, fun h => h.elim, fun h => h.elim, fun h => h.elim, fun h => h.elim, fun h => h.elim, fun h => h.elim, fun h => h.elim, fun h => h.elim, fun h => h.elim, fun h => h.elim, fun h _ => h.elim, fun h _ => h.elim, fun h _ => h.elim⟩
          case step =>
            intro i o ho D a w' hI hn hcl hd
            obtain ⟨v33, v34, v35, v36, v37, v38, v39, v40, v41, v42, v43, v44, v45, ga, gn, gc, qa, qn, qc, nb, a8, n8, c8, ha, hC, hB, e0, e1, e2, e3, e4, e5, e6, e7, e8, e9, e10, e11, e12, hQ, hCp, hLit, hA⟩ := hI
            match i, ho with
            | 0, ho =>
              cases Option.some.inj ho
              have ev : a.tmps[5]?.getD undef = .pointer (some ⟨b5, 0, none⟩) := by rw [ha]; kernel_rfl
              refine wp_value (w' := w') (v := .pointer (some ⟨b5, 1, none⟩)) (by simp [execOp, ev, go_sem]) ?_
              exact ⟨(.pointer (some ⟨b5, 1, none⟩)), v34, v35, v36, v37, v38, v39, v40, v41, v42, v43, v44, v45, ga, gn, gc, qa, qn, qc, nb, a8, n8, c8, by rw [ha]; kernel_rfl, hC.imp_left .inr, hB.imp_left .inr, fun _ => rfl, fun h => e1 (h.resolve_left (by decide)), fun h => e2 (h.resolve_left (by decide)), fun h => e3 (h.resolve_left (by decide)), fun h => e4 (h.resolve_left (by decide)), fun h => e5 (h.resolve_left (by decide)), fun h => e6 (h.resolve_left (by decide)), fun h => e7 (h.resolve_left (by decide)), fun h => e8 (h.resolve_left (by decide)), fun h => e9 (h.resolve_left (by decide)), fun h => e10 (h.resolve_left (by decide)), fun h => e11 (h.resolve_left (by decide)), fun h => e12 (h.resolve_left (by decide)), fun h => hQ (h.resolve_left (by decide)), fun h h' => hCp (h.resolve_left (by decide)) (fun k => h' (.inr k)), fun h h' => hLit (h.resolve_left (by decide)) (fun k => h' (.inr k)), fun h h' => hA (h.resolve_left (by decide)) (fun k => h' (.inr k))⟩
            | 1, ho =>
              cases Option.some.inj ho
              have ev : a.tmps[33]?.getD undef = .pointer (some ⟨b5, 1, none⟩) := by rw [ha, e0 (hd ⟨0, .data⟩ (by simp) rfl)]; kernel_rfl
              have hb := hC.resolve_left (fun h => (fun h => hn (hcl 11 _ rfl h ⟨1, .data⟩ (by simp) rfl)) (hcl 13 _ rfl h ⟨11, .data⟩ (by simp) rfl))
              have hcc := (rec_cells (hb.trans X5)).2
              refine wp_value (w' := w') (v := .slice a5 m5 cap5) (by simp [execOp, ev, go_sem, hcc]) ?_
              exact ⟨v33, (.slice a5 m5 cap5), v35, v36, v37, v38, v39, v40, v41, v42, v43, v44, v45, ga, gn, gc, qa, qn, qc, nb, a8, n8, c8, by rw [ha]; kernel_rfl, hC.imp_left .inr, hB.imp_left .inr, fun h => e0 (h.resolve_left (by decide)), fun _ => rfl, fun h => e2 (h.resolve_left (by decide)), fun h => e3 (h.resolve_left (by decide)), fun h => e4 (h.resolve_left (by decide)), fun h => e5 (h.resolve_left (by decide)), fun h => e6 (h.resolve_left (by decide)), fun h => e7 (h.resolve_left (by decide)), fun h => e8 (h.resolve_left (by decide)), fun h => e9 (h.resolve_left (by decide)), fun h => e10 (h.resolve_left (by decide)), fun h => e11 (h.resolve_left (by decide)), fun h => e12 (h.resolve_left (by decide)), fun h => hQ (h.resolve_left (by decide)), fun h h' => hCp (h.resolve_left (by decide)) (fun k => h' (.inr k)), fun h h' => hLit (h.resolve_left (by decide)) (fun k => h' (.inr k)), fun h h' => hA (h.resolve_left (by decide)) (fun k => h' (.inr k))⟩
            | 2, ho =>
              cases Option.some.inj ho
              have ev : a.tmps[7]?.getD undef = .pointer (some ⟨b7, 0, none⟩) := by rw [ha]; kernel_rfl
              refine wp_value (w' := w') (v := .pointer (some ⟨b7, 0, none⟩)) (by simp [execOp, ev, go_sem]) ?_
              exact ⟨v33, v34, (.pointer (some ⟨b7, 0, none⟩)), v36, v37, v38, v39, v40, v41, v42, v43, v44, v45, ga, gn, gc, qa, qn, qc, nb, a8, n8, c8, by rw [ha]; kernel_rfl, hC.imp_left .inr, hB.imp_left .inr, fun h => e0 (h.resolve_left (by decide)), fun h => e1 (h.resolve_left (by decide)), fun _ => rfl, fun h => e3 (h.resolve_left (by decide)), fun h => e4 (h.resolve_left (by decide)), fun h => e5 (h.resolve_left (by decide)), fun h => e6 (h.resolve_left (by decide)), fun h => e7 (h.resolve_left (by decide)), fun h => e8 (h.resolve_left (by decide)), fun h => e9 (h.resolve_left (by decide)), fun h => e10 (h.resolve_left (by decide)), fun h => e11 (h.resolve_left (by decide)), fun h => e12 (h.resolve_left (by decide)), fun h => hQ (h.resolve_left (by decide)), fun h h' => hCp (h.resolve_left (by decide)) (fun k => h' (.inr k)), fun h h' => hLit (h.resolve_left (by decide)) (fun k => h' (.inr k)), fun h h' => hA (h.resolve_left (by decide)) (fun k => h' (.inr k))⟩
            | 3, ho =>
              cases Option.some.inj ho
              have ev : a.tmps[35]?.getD undef = .pointer (some ⟨b7, 0, none⟩) := by rw [ha, e2 (hd ⟨2, .data⟩ (by simp) rfl)]; kernel_rfl
              have hb := hB.resolve_left (fun h => (fun h => (fun h => hn (hcl 9 _ rfl h ⟨3, .data⟩ (by simp) rfl)) (hcl 10 _ rfl h ⟨9, .data⟩ (by simp) rfl)) (hcl 11 _ rfl h ⟨10, .data⟩ (by simp) rfl))
              have hcc := (hb.cell (p := ⟨b7, 0, none⟩) (lt_of_cell z0)).trans z0
              refine wp_value (w' := w') (v := .int .i64 oo) (by simp [execOp, ev, go_sem, hcc]) ?_
              exact ⟨v33, v34, v35, (.int .i64 oo), v37, v38, v39, v40, v41, v42, v43, v44, v45, ga, gn, gc, qa, qn, qc, nb, a8, n8, c8, by rw [ha]; kernel_rfl, hC.imp_left .inr, hB.imp_left .inr, fun h => e0 (h.resolve_left (by decide)), fun h => e1 (h.resolve_left (by decide)), fun h => e2 (h.resolve_left (by decide)), fun _ => rfl, fun h => e4 (h.resolve_left (by decide)), fun h => e5 (h.resolve_left (by decide)), fun h => e6 (h.resolve_left (by decide)), fun h => e7 (h.resolve_left (by decide)), fun h => e8 (h.resolve_left (by decide)), fun h => e9 (h.resolve_left (by decide)), fun h => e10 (h.resolve_left (by decide)), fun h => e11 (h.resolve_left (by decide)), fun h => e12 (h.resolve_left (by decide)), fun h => hQ (h.resolve_left (by decide)), fun h h' => hCp (h.resolve_left (by decide)) (fun k => h' (.inr k)), fun h h' => hLit (h.resolve_left (by decide)) (fun k => h' (.inr k)), fun h h' => hA (h.resolve_left (by decide)) (fun k => h' (.inr k))⟩
            | 4, ho =>
              cases Option.some.inj ho
              have ev : a.tmps[7]?.getD undef = .pointer (some ⟨b7, 0, none⟩) := by rw [ha]; kernel_rfl
              refine wp_value (w' := w') (v := .pointer (some ⟨b7, 1, none⟩)) (by simp [execOp, ev, go_sem]) ?_
              exact ⟨v33, v34, v35, v36, (.pointer (some ⟨b7, 1, none⟩)), v38, v39, v40, v41, v42, v43, v44, v45, ga, gn, gc, qa, qn, qc, nb, a8, n8, c8, by rw [ha]; kernel_rfl, hC.imp_left .inr, hB.imp_left .inr, fun h => e0 (h.resolve_left (by decide)), fun h => e1 (h.resolve_left (by decide)), fun h => e2 (h.resolve_left (by decide)), fun h => e3 (h.resolve_left (by decide)), fun _ => rfl, fun h => e5 (h.resolve_left (by decide)), fun h => e6 (h.resolve_left (by decide)), fun h => e7 (h.resolve_left (by decide)), fun h => e8 (h.resolve_left (by decide)), fun h => e9 (h.resolve_left (by decide)), fun h => e10 (h.resolve_left (by decide)), fun h => e11 (h.resolve_left (by decide)), fun h => e12 (h.resolve_left (by decide)), fun h => hQ (h.resolve_left (by decide)), fun h h' => hCp (h.resolve_left (by decide)) (fun k => h' (.inr k)), fun h h' => hLit (h.resolve_left (by decide)) (fun k => h' (.inr k)), fun h h' => hA (h.resolve_left (by decide)) (fun k => h' (.inr k))⟩
            | 5, ho =>
              cases Option.some.inj ho
              have ev : a.tmps[37]?.getD undef = .pointer (some ⟨b7, 1, none⟩) := by rw [ha, e4 (hd ⟨4, .data⟩ (by simp) rfl)]; kernel_rfl
              have hb := hB.resolve_left (fun h => (fun h => (fun h => hn (hcl 9 _ rfl h ⟨5, .data⟩ (by simp) rfl)) (hcl 10 _ rfl h ⟨9, .data⟩ (by simp) rfl)) (hcl 11 _ rfl h ⟨10, .data⟩ (by simp) rfl))
              have hcc := (hb.cell (p := ⟨b7, 1, none⟩) (lt_of_cell z1)).trans z1
              refine wp_value (w' := w') (v := .bool g) (by simp [execOp, ev, go_sem, hcc]) ?_
              exact ⟨v33, v34, v35, v36, v37, (.bool g), v39, v40, v41, v42, v43, v44, v45, ga, gn, gc, qa, qn, qc, nb, a8, n8, c8, by rw [ha]; kernel_rfl, hC.imp_left .inr, hB.imp_left .inr, fun h => e0 (h.resolve_left (by decide)), fun h => e1 (h.resolve_left (by decide)), fun h => e2 (h.resolve_left (by decide)), fun h => e3 (h.resolve_left (by decide)), fun h => e4 (h.resolve_left (by decide)), fun _ => rfl, fun h => e6 (h.resolve_left (by decide)), fun h => e7 (h.resolve_left (by decide)), fun h => e8 (h.resolve_left (by decide)), fun h => e9 (h.resolve_left (by decide)), fun h => e10 (h.resolve_left (by decide)), fun h => e11 (h.resolve_left (by decide)), fun h => e12 (h.resolve_left (by decide)), fun h => hQ (h.resolve_left (by decide)), fun h h' => hCp (h.resolve_left (by decide)) (fun k => h' (.inr k)), fun h h' => hLit (h.resolve_left (by decide)) (fun k => h' (.inr k)), fun h h' => hA (h.resolve_left (by decide)) (fun k => h' (.inr k))⟩
            | 6, ho =>
              cases Option.some.inj ho
              have ev : a.tmps[7]?.getD undef = .pointer (some ⟨b7, 0, none⟩) := by rw [ha]; kernel_rfl
              refine wp_value (w' := w') (v := .pointer (some ⟨b7, 2, none⟩)) (by simp [execOp, ev, go_sem]) ?_
              exact ⟨v33, v34, v35, v36, v37, v38, (.pointer (some ⟨b7, 2, none⟩)), v40, v41, v42, v43, v44, v45, ga, gn, gc, qa, qn, qc, nb, a8, n8, c8, by rw [ha]; kernel_rfl, hC.imp_left .inr, hB.imp_left .inr, fun h => e0 (h.resolve_left (by decide)), fun h => e1 (h.resolve_left (by decide)), fun h => e2 (h.resolve_left (by decide)), fun h => e3 (h.resolve_left (by decide)), fun h => e4 (h.resolve_left (by decide)), fun h => e5 (h.resolve_left (by decide)), fun _ => rfl, fun h => e7 (h.resolve_left (by decide)), fun h => e8 (h.resolve_left (by decide)), fun h => e9 (h.resolve_left (by decide)), fun h => e10 (h.resolve_left (by decide)), fun h => e11 (h.resolve_left (by decide)), fun h => e12 (h.resolve_left (by decide)), fun h => hQ (h.resolve_left (by decide)), fun h h' => hCp (h.resolve_left (by decide)) (fun k => h' (.inr k)), fun h h' => hLit (h.resolve_left (by decide)) (fun k => h' (.inr k)), fun h h' => hA (h.resolve_left (by decide)) (fun k => h' (.inr k))⟩
            | 7, ho =>
              cases Option.some.inj ho
              have ev : a.tmps[39]?.getD undef = .pointer (some ⟨b7, 2, none⟩) := by rw [ha, e6 (hd ⟨6, .data⟩ (by simp) rfl)]; kernel_rfl
              have hb := hB.resolve_left (fun h => (fun h => (fun h => (fun h => hn (hcl 8 _ rfl h ⟨7, .data⟩ (by simp) rfl)) (hcl 9 _ rfl h ⟨8, .data⟩ (by simp) rfl)) (hcl 10 _ rfl h ⟨9, .data⟩ (by simp) rfl)) (hcl 11 _ rfl h ⟨10, .data⟩ (by simp) rfl))
              have q2 := (hb.cell (p := ⟨b7, 2, none⟩) (lt_of_cell z2)).trans z2
              have q3 := (hb.cell (p := ⟨b7, 3, none⟩) (lt_of_cell z3)).trans z3
              have q4 := (hb.cell (p := ⟨b7, 4, none⟩) (lt_of_cell z4)).trans z4
              refine wp_value (w' := w') (v := .agg #[.int .i64 cc, .slice sa sn sc, .slice ba bn bc]) (by simp [execOp, ev, go_sem, q2, q3, q4]) ?_
              exact ⟨v33, v34, v35, v36, v37, v38, v39, (.agg #[.int .i64 cc, .slice sa sn sc, .slice ba bn bc]), v41, v42, v43, v44, v45, ga, gn, gc, qa, qn, qc, nb, a8, n8, c8, by rw [ha]; kernel_rfl, hC.imp_left .inr, hB.imp_left .inr, fun h => e0 (h.resolve_left (by decide)), fun h => e1 (h.resolve_left (by decide)), fun h => e2 (h.resolve_left (by decide)), fun h => e3 (h.resolve_left (by decide)), fun h => e4 (h.resolve_left (by decide)), fun h => e5 (h.resolve_left (by decide)), fun h => e6 (h.resolve_left (by decide)), fun _ => rfl, fun h => e8 (h.resolve_left (by decide)), fun h => e9 (h.resolve_left (by decide)), fun h => e10 (h.resolve_left (by decide)), fun h => e11 (h.resolve_left (by decide)), fun h => e12 (h.resolve_left (by decide)), fun h => hQ (h.resolve_left (by decide)), fun h h' => hCp (h.resolve_left (by decide)) (fun k => h' (.inr k)), fun h h' => hLit (h.resolve_left (by decide)) (fun k => h' (.inr k)), fun h h' => hA (h.resolve_left (by decide)) (fun k => h' (.inr k))⟩
            | 8, ho =>
              cases Option.some.inj ho
              have ev : a.tmps[40]?.getD undef = .agg #[.int .i64 cc, .slice sa sn sc, .slice ba bn bc] := by rw [ha, e7 (hd ⟨7, .data⟩ (by simp) rfl)]; kernel_rfl
              have hb := hB.resolve_left (fun h => (fun h => (fun h => hn (hcl 9 _ rfl h ⟨8, .data⟩ (by simp) rfl)) (hcl 10 _ rfl h ⟨9, .data⟩ (by simp) rfl)) (hcl 11 _ rfl h ⟨10, .data⟩ (by simp) rfl))
              refine wp_enter (f := 34) (args := #[.agg #[.int .i64 cc, .slice sa sn sc, .slice ba bn bc]]) (by simp [execOp, ev, go_sem]) ?_
              refine (rcopy_shape (io.below hb) hsn hbn).mono ?_
              rintro e w6 ⟨ga', gn', gc', qa', qn', qc', rfl, oV, oB, HB⟩
              refine ⟨_, rfl, ?_⟩
              exact ⟨v33, v34, v35, v36, v37, v38, v39, v40, (.agg #[.int .i64 cc, .slice ga' gn' gc', .slice qa' qn' qc']), v42, v43, v44, v45, ga', gn', gc', qa', qn', qc', nb, a8, n8, c8, by rw [ha]; kernel_rfl, hC.imp .inr (fun h => (HB.block b5 (lt_of_block (h.trans X5))).trans h), hB.imp .inr (fun h => below_size h h.size HB), fun h => e0 (h.resolve_left (by decide)), fun h => e1 (h.resolve_left (by decide)), fun h => e2 (h.resolve_left (by decide)), fun h => e3 (h.resolve_left (by decide)), fun h => e4 (h.resolve_left (by decide)), fun h => e5 (h.resolve_left (by decide)), fun h => e6 (h.resolve_left (by decide)), fun h => e7 (h.resolve_left (by decide)), fun _ => rfl, fun h => absurd (h.resolve_left (by decide)) (fun h => hn (hcl 9 _ rfl h ⟨8, .data⟩ (by simp) rfl)), fun h => e10 (h.resolve_left (by decide)), fun h => e11 (h.resolve_left (by decide)), fun h => e12 (h.resolve_left (by decide)), fun h => absurd (h.resolve_left (by decide)) (fun h => (fun h => (fun h => (fun h => hn (hcl 9 _ rfl h ⟨8, .data⟩ (by simp) rfl)) (hcl 10 _ rfl h ⟨9, .data⟩ (by simp) rfl)) (hcl 11 _ rfl h ⟨10, .data⟩ (by simp) rfl)) (hcl 13 _ rfl h ⟨11, .data⟩ (by simp) rfl)), fun _ _ => ⟨oV.mono hb.size, oB.mono hb.size⟩, fun h _ => absurd (h.resolve_left (by decide)) (fun h => (fun h => hn (hcl 9 _ rfl h ⟨8, .data⟩ (by simp) rfl)) (hcl 10 _ rfl h ⟨9, .data⟩ (by simp) rfl)), fun h _ => absurd (h.resolve_left (by decide)) (fun h => (fun h => (fun h => hn (hcl 9 _ rfl h ⟨8, .data⟩ (by simp) rfl)) (hcl 10 _ rfl h ⟨9, .data⟩ (by simp) rfl)) (hcl 11 _ rfl h ⟨10, .data⟩ (by simp) rfl))⟩
            | 9, ho =>
              cases Option.some.inj ho
              have ev : a.tmps[36]?.getD undef = .int .i64 oo := by rw [ha, e3 (hd ⟨3, .data⟩ (by simp) rfl)]; kernel_rfl
              have ev' : a.tmps[38]?.getD undef = .bool g := by rw [ha, e5 (hd ⟨5, .data⟩ (by simp) rfl)]; kernel_rfl
              have ev'' : a.tmps[41]?.getD undef = .agg #[.int .i64 cc, .slice ga gn gc, .slice qa qn qc] := by rw [ha, e8 (hd ⟨8, .data⟩ (by simp) rfl)]; kernel_rfl
              refine wp_value (w' := w') (v := .agg #[.int .i64 oo, .bool g, .int .i64 cc, .slice ga gn gc, .slice qa qn qc]) (by simp [execOp, ev, ev', ev'', go_sem]) ?_
              exact ⟨v33, v34, v35, v36, v37, v38, v39, v40, v41, (.agg #[.int .i64 oo, .bool g, .int .i64 cc, .slice ga gn gc, .slice qa qn qc]), v43, v44, v45, ga, gn, gc, qa, qn, qc, nb, a8, n8, c8, by rw [ha]; kernel_rfl, hC.imp_left .inr, hB.imp_left .inr, fun h => e0 (h.resolve_left (by decide)), fun h => e1 (h.resolve_left (by decide)), fun h => e2 (h.resolve_left (by decide)), fun h => e3 (h.resolve_left (by decide)), fun h => e4 (h.resolve_left (by decide)), fun h => e5 (h.resolve_left (by decide)), fun h => e6 (h.resolve_left (by decide)), fun h => e7 (h.resolve_left (by decide)), fun h => e8 (h.resolve_left (by decide)), fun _ => rfl, fun h => e10 (h.resolve_left (by decide)), fun h => e11 (h.resolve_left (by decide)), fun h => e12 (h.resolve_left (by decide)), fun h => hQ (h.resolve_left (by decide)), fun h h' => hCp (h.resolve_left (by decide)) (fun k => h' (.inr k)), fun h h' => hLit (h.resolve_left (by decide)) (fun k => h' (.inr k)), fun h h' => hA (h.resolve_left (by decide)) (fun k => h' (.inr k))⟩
            | 10, ho =>
              cases Option.some.inj ho
              have ev : a.tmps[42]?.getD undef = .agg #[.int .i64 oo, .bool g, .int .i64 cc, .slice ga gn gc, .slice qa qn qc] := by rw [ha, e9 (hd ⟨9, .data⟩ (by simp) rfl)]; kernel_rfl
              refine wp_value (w' := w'.alloc (.cells #[.int .i64 oo, .bool g, .int .i64 cc, .slice ga gn gc, .slice qa qn qc] 73)) (v := .slice (some ⟨w'.heap.size, 0, none⟩) 1 1) (by simp [execOp, ev, go_sem]) ?_
              exact ⟨v33, v34, v35, v36, v37, v38, v39, v40, v41, v42, (.slice (some ⟨w'.heap.size, 0, none⟩) 1 1), v44, v45, ga, gn, gc, qa, qn, qc, w'.heap.size, a8, n8, c8, by rw [ha]; kernel_rfl, hC.imp .inr (fun h => (box_below.block b5 (lt_of_block (h.trans X5))).trans h), hB.imp .inr (fun h => below_size h h.size box_below), fun h => e0 (h.resolve_left (by decide)), fun h => e1 (h.resolve_left (by decide)), fun h => e2 (h.resolve_left (by decide)), fun h => e3 (h.resolve_left (by decide)), fun h => e4 (h.resolve_left (by decide)), fun h => e5 (h.resolve_left (by decide)), fun h => e6 (h.resolve_left (by decide)), fun h => e7 (h.resolve_left (by decide)), fun h => e8 (h.resolve_left (by decide)), fun h => e9 (h.resolve_left (by decide)), fun _ => rfl, fun h => e11 (h.resolve_left (by decide)), fun h => e12 (h.resolve_left (by decide)), fun h => absurd (h.resolve_left (by decide)) (fun h => (fun h => hn (hcl 11 _ rfl h ⟨10, .data⟩ (by simp) rfl)) (hcl 13 _ rfl h ⟨11, .data⟩ (by simp) rfl)), fun h h' => ⟨(hCp (h.resolve_left (by decide)) (fun k => h' (.inr k))).1.below box_below, (hCp (h.resolve_left (by decide)) (fun k => h' (.inr k))).2.below box_below⟩, fun _ _ => lit_cells (w := w') (y := (⟨⟨oo, g, cc, vs, bs⟩, ga, gn, gc, qa, qn, qc⟩ : Cs)) (t := 73), fun h _ => absurd (h.resolve_left (by decide)) (fun h => hn (hcl 11 _ rfl h ⟨10, .data⟩ (by simp) rfl))⟩
            | 11, ho =>
              cases Option.some.inj ho
              have ev : a.tmps[34]?.getD undef = .slice a5 m5 cap5 := by rw [ha, e1 (hd ⟨1, .data⟩ (by simp) rfl)]; kernel_rfl
              have ev' : a.tmps[43]?.getD undef = .slice (some ⟨nb, 0, none⟩) 1 1 := by rw [ha, e10 (hd ⟨10, .data⟩ (by simp) rfl)]; kernel_rfl
              have hb := hB.resolve_left hn
              obtain ⟨oV, oB⟩ := hCp (hcl 9 _ rfl (hcl 10 _ rfl (hd ⟨10, .data⟩ (by simp) rfl) ⟨9, .data⟩ (by simp) rfl) ⟨8, .data⟩ (by simp) rfl) hn
              have hL := hLit (hd ⟨10, .data⟩ (by simp) rfl) hn
              obtain ⟨i72, hi, hz, hs, hbb⟩ := info_parts Try.info73
              obtain ⟨a8', n8', c8', w6, hr6, hO6, hG, hP⟩ := app_row w' 27 27 73 Try.underlying27 hi hz hs hbb rfl (by decide) (by decide) (own_below own hb) nb (⟨⟨oo, g, cc, vs, bs⟩, ga, gn, gc, qa, qn, qc⟩ : Cs).cells rfl hL (by intro u hu; exact flatC_one [(⟨⟨oo, g, cc, vs, bs⟩, ga, gn, gc, qa, qn, qc⟩ : Cs)] u (by simpa [flatC] using hu)) hlen (Nat.zero_le _)
              refine Lib.wp_append_run w' (.tmp 34) (.tmp 43) 27 27 rfl _ _ (by simpa [Act.eval] using ev) (by simpa [Act.eval] using ev') _ w6 hr6 ?_
              exact ⟨v33, v34, v35, v36, v37, v38, v39, v40, v41, v42, v43, (.slice a8' n8' c8'), v45, ga, gn, gc, qa, qn, qc, nb, a8', n8', c8', by rw [ha]; kernel_rfl, hC.imp .inr (fun h => (hG.block b5 (lt_of_block (h.trans X5)) (fun e => hne e.symm)).trans h), .inl (.inl rfl), fun h => e0 (h.resolve_left (by decide)), fun h => e1 (h.resolve_left (by decide)), fun h => e2 (h.resolve_left (by decide)), fun h => e3 (h.resolve_left (by decide)), fun h => e4 (h.resolve_left (by decide)), fun h => e5 (h.resolve_left (by decide)), fun h => e6 (h.resolve_left (by decide)), fun h => e7 (h.resolve_left (by decide)), fun h => e8 (h.resolve_left (by decide)), fun h => e9 (h.resolve_left (by decide)), fun h => e10 (h.resolve_left (by decide)), fun _ => rfl, fun h => e12 (h.resolve_left (by decide)), fun h => absurd (h.resolve_left (by decide)) (fun h => hn (hcl 13 _ rfl h ⟨11, .data⟩ (by simp) rfl)), fun _ h' => absurd (.inl rfl) h', fun _ h' => absurd (.inl rfl) h', fun _ _ => ⟨w', hb, hG, hO6, hP, oV, oB⟩⟩
            | 12, ho =>
              cases Option.some.inj ho
              have ev : a.tmps[5]?.getD undef = .pointer (some ⟨b5, 0, none⟩) := by rw [ha]; kernel_rfl
              refine wp_value (w' := w') (v := .pointer (some ⟨b5, 1, none⟩)) (by simp [execOp, ev, go_sem]) ?_
              exact ⟨v33, v34, v35, v36, v37, v38, v39, v40, v41, v42, v43, v44, (.pointer (some ⟨b5, 1, none⟩)), ga, gn, gc, qa, qn, qc, nb, a8, n8, c8, by rw [ha]; kernel_rfl, hC.imp_left .inr, hB.imp_left .inr, fun h => e0 (h.resolve_left (by decide)), fun h => e1 (h.resolve_left (by decide)), fun h => e2 (h.resolve_left (by decide)), fun h => e3 (h.resolve_left (by decide)), fun h => e4 (h.resolve_left (by decide)), fun h => e5 (h.resolve_left (by decide)), fun h => e6 (h.resolve_left (by decide)), fun h => e7 (h.resolve_left (by decide)), fun h => e8 (h.resolve_left (by decide)), fun h => e9 (h.resolve_left (by decide)), fun h => e10 (h.resolve_left (by decide)), fun h => e11 (h.resolve_left (by decide)), fun _ => rfl, fun h => hQ (h.resolve_left (by decide)), fun h h' => hCp (h.resolve_left (by decide)) (fun k => h' (.inr k)), fun h h' => hLit (h.resolve_left (by decide)) (fun k => h' (.inr k)), fun h h' => hA (h.resolve_left (by decide)) (fun k => h' (.inr k))⟩
            | 13, ho =>
              cases Option.some.inj ho
              have ev : a.tmps[45]?.getD undef = .pointer (some ⟨b5, 1, none⟩) := by rw [ha, e12 (hd ⟨12, .data⟩ (by simp) rfl)]; kernel_rfl
              have ev' : a.tmps[44]?.getD undef = .slice a8 n8 c8 := by rw [ha, e11 (hd ⟨11, .data⟩ (by simp) rfl)]; kernel_rfl
              have hb := hC.resolve_left hn
              have hfr := rec_frozen (hb.trans X5) 1
              obtain ⟨hcc0, hcc⟩ := rec_cells (hb.trans X5)
              have hA' := hA (hd ⟨11, .data⟩ (by simp) rfl) hn
              refine wp_skip (w' := w'.setCell ⟨b5, 1, none⟩ (.slice a8 n8 c8)) (by simp [execOp, ev, ev', go_sem, hfr, hcc]) ?_
              exact ⟨v33, v34, v35, v36, v37, v38, v39, v40, v41, v42, v43, v44, v45, ga, gn, gc, qa, qn, qc, nb, a8, n8, c8, by rw [ha]; kernel_rfl, .inl (.inl rfl), .inl (.inr (hd ⟨11, .data⟩ (by simp) rfl)), fun h => e0 (h.resolve_left (by decide)), fun h => e1 (h.resolve_left (by decide)), fun h => e2 (h.resolve_left (by decide)), fun h => e3 (h.resolve_left (by decide)), fun h => e4 (h.resolve_left (by decide)), fun h => e5 (h.resolve_left (by decide)), fun h => e6 (h.resolve_left (by decide)), fun h => e7 (h.resolve_left (by decide)), fun h => e8 (h.resolve_left (by decide)), fun h => e9 (h.resolve_left (by decide)), fun h => e10 (h.resolve_left (by decide)), fun h => e11 (h.resolve_left (by decide)), fun h => e12 (h.resolve_left (by decide)), fun _ => ⟨w', hb, rfl, hA'⟩, fun _ h' => absurd (.inr (hd ⟨11, .data⟩ (by simp) rfl)) h', fun _ h' => absurd (.inr (hd ⟨11, .data⟩ (by simp) rfl)) h', fun _ h' => absurd (.inl rfl) h'⟩
            | i + 14, ho => simp at ho
          case done =>
            rintro D a w' ⟨v33, v34, v35, v36, v37, v38, v39, v40, v41, v42, v43, v44, v45, ga, gn, gc, qa, qn, qc, nb, a8, n8, c8, ha, hC, hB, e0, e1, e2, e3, e4, e5, e6, e7, e8, e9, e10, e11, e12, hQ, hCp, hLit, hA⟩ hall
            obtain rfl := e0 (hall 0 (by decide))
            obtain rfl := e1 (hall 1 (by decide))
            obtain rfl := e2 (hall 2 (by decide))
            obtain rfl := e3 (hall 3 (by decide))
            obtain rfl := e4 (hall 4 (by decide))
            obtain rfl := e5 (hall 5 (by decide))
            obtain rfl := e6 (hall 6 (by decide))
            obtain rfl := e7 (hall 7 (by decide))
            obtain rfl := e8 (hall 8 (by decide))
            obtain rfl := e9 (hall 9 (by decide))
            obtain rfl := e10 (hall 10 (by decide))
            obtain rfl := e11 (hall 11 (by decide))
            obtain rfl := e12 (hall 12 (by decide))
            obtain ⟨w6, u1, rfl, wp, p1, p2, p3, p4, p5, p6⟩ := hQ (hall 13 (by decide))
            clear hC hB hCp hLit hA hQ hall e0 e1 e2 e3 e4 e5 e6 e7 e8 e9 e10 e11 e12
            rw [ha]
            clear ha
            simp only [Act.put, List.setIfInBounds_toArray, List.set_cons_zero, List.set_cons_succ]
            obtain ⟨R3, hall⟩ := R2.push (Y := ⟨⟨oo, g, cc, vs, bs⟩, ga, gn, gc, qa, qn, qc⟩) X5 q0.out q1 q2 own inT hblt hb5 d35 hsnoc.out hox io.cls u1 p1 p2 p3 p4 p5 p6
            have E7' := (hall b7 hq7 h57 hne7.out).trans E7
            clear hall R2 E7 z0 z1 z2 z3 z4 X5 q0 q1 q2 own inT hne hne7 u1 p1 p2 p3 p4 p5 p6 io hq7 hlen
            generalize w6.setCell ⟨b5, 1, none⟩ (.slice a8 n8 c8) = wq at *
            obtain ⟨y0, y1⟩ := rec_cells R3.rb
            obtain ⟨z0, z1, z2, z3, z4⟩ := chh_cells E7'
            obtain ⟨wv, XB, ownW, inT⟩ := R3.tb
            obtain ⟨m5, em5⟩ : ∃ q, q = (u.ws ++ (xs.take i).map (fun x => (x.oop, c))).length := ⟨_, rfl⟩
            obtain ⟨xs5, ex5⟩ : ∃ q, q = flatW (u.ws ++ (xs.take i).map (fun x => (x.oop, c))) := ⟨_, rfl⟩
            have hlen : m5 ≤ 1000000000 := by
              rw [em5, List.length_append, List.length_map, List.length_take]
              have := h.few.2
              omega
            have own : wq.ownsRow 0 82 2 wv m5 xs5 := by rw [em5, ex5]; exact ownW
            have hm : Hid (m5 = (u.ws ++ (xs.take i).map (fun x => (x.oop, c))).length ∧ xs5 = flatW (u.ws ++ (xs.take i).map (fun x => (x.oop, c)))) := ⟨em5, ex5⟩
            clear em5 ex5 ownW
            obtain ⟨a5, cap5, rfl⟩ : ∃ a c, wv = .slice a m5 c := by
              rcases own.2 with ⟨rfl, h0⟩ | ⟨g, cap, cur, rfl, _⟩
              · exact ⟨_, _, by rw [h0]⟩
              · exact ⟨_, _, rfl⟩
            have hne : (Value.slice a5 m5 cap5).ownBlock = some b → False := own_ty own XB (by decide)
            clear E7'
            go_upto_region 11 with fail
            refine wp_region_inv' (fun A D a w' => ∃ v46 v47 v48 v49 v50 v51 v52 v53 v54 v55 v56 v57 v58 v59 nb a8 n8 c8, a = ((((((((((((((A.put (some 46) v46).put (some 47) v47).put (some 48) v48).put (some 49) v49).put (some 50) v50).put (some 51) v51).put (some 52) v52).put (some 53) v53).put (some 54) v54).put (some 55) v55).put (some 56) v56).put (some 57) v57).put (some 58) v58).put (some 59) v59) ∧ (D 14 ∨ w'.heap[b]? = wq.heap[b]?) ∧ (D 11 ∨ Below wq.heap.size wq w') ∧ (D 0 → v46 = .pointer (some ⟨b, 0, none⟩)) ∧ (D 1 → v47 = .pointer (some ⟨b, 0, none⟩)) ∧ (D 2 → v48 = .pointer (some ⟨b, 0, none⟩)) ∧ (D 3 → v49 = .pointer (some ⟨b, 4, none⟩)) ∧ (D 4 → v50 = .slice a5 m5 cap5) ∧ (D 5 → v51 = .pointer (some ⟨b7, 0, none⟩)) ∧ (D 6 → v52 = .int .i64 oo) ∧ (D 7 → v53 = .pointer (some ⟨b3, 0, none⟩)) ∧ (D 8 → v54 = .int .i64 c) ∧ (D 9 → v55 = .agg #[.int .i64 oo, .int .i64 c]) ∧ (D 10 → v56 = .slice (some ⟨nb, 0, none⟩) 1 1) ∧ (D 11 → v57 = .slice a8 n8 c8) ∧ (D 12 → v58 = .pointer (some ⟨b, 0, none⟩)) ∧ (D 13 → v59 = .pointer (some ⟨b, 4, none⟩)) ∧ (D 14 → ∃ w6 : World, w6.heap[b]? = wq.heap[b]? ∧ w' = w6.setCell ⟨b, 4, none⟩ (.slice a8 n8 c8) ∧ ∃ wp : World, Below wq.heap.size wq wp ∧ wp.grownBy w6 (Value.slice a5 m5 cap5).ownBlock ∧ w6.ownsRow 0 82 2 (.slice a8 n8 c8) (m5 + 1) (xs5 ++ [.int .i64 oo, .int .i64 c]) ∧ (∀ g, (Value.slice a8 n8 c8).ownBlock = some g → (Value.slice a5 m5 cap5).ownBlock = some g ∨ wp.heap.size ≤ g)) ∧ (D 10 → ¬ D 11 → ∀ j v, ([.int .i64 oo, .int .i64 c] : List Value)[j]? = some v → w'.cell? ⟨nb, j, none⟩ = some v) ∧ (D 11 → ¬ D 14 → ∃ wp : World, Below wq.heap.size wq wp ∧ wp.grownBy w' (Value.slice a5 m5 cap5).ownBlock ∧ w'.ownsRow 0 82 2 (.slice a8 n8 c8) (m5 + 1) (xs5 ++ [.int .i64 oo, .int .i64 c]) ∧ (∀ g, (Value.slice a8 n8 c8).ownBlock = some g → (Value.slice a5 m5 cap5).ownBlock = some g ∨ wp.heap.size ≤ g))) (by kernel_rfl) (by kernel_rfl) ?mono ?start ?step ?done
            case mono =>
              rintro D D' a w' hD ⟨v46, v47, v48, v49, v50, v51, v52, v53, v54, v55, v56, v57, v58, v59, nb, a8, n8, c8, ha, hC, hB, e0, e1, e2, e3, e4, e5, e6, e7, e8, e9, e10, e11, e12, e13, hQ, hLit, hA⟩
              exact ⟨v46, v47, v48, v49, v50, v51, v52, v53, v54, v55, v56, v57, v58, v59, nb, a8, n8, c8, ha, hC.imp_left (hD 14).1, hB.imp_left (hD 11).1, fun h => e0 ((hD 0).2 h), fun h => e1 ((hD 1).2 h), fun h => e2 ((hD 2).2 h), fun h => e3 ((hD 3).2 h), fun h => e4 ((hD 4).2 h), fun h => e5 ((hD 5).2 h), fun h => e6 ((hD 6).2 h), fun h => e7 ((hD 7).2 h), fun h => e8 ((hD 8).2 h), fun h => e9 ((hD 9).2 h), fun h => e10 ((hD 10).2 h), fun h => e11 ((hD 11).2 h), fun h => e12 ((hD 12).2 h), fun h => e13 ((hD 13).2 h), fun h => hQ ((hD 14).2 h), fun h h' => hLit ((hD 10).2 h) (fun k => h' ((hD 11).1 k)), fun h h' => hA ((hD 11).2 h) (fun k => h' ((hD 14).1 k))⟩
            case start => exact ⟨u46, u47, u48, u49, u50, u51, u52, u53, u54, u55, u56, u57, u58, u59, 0, none, 0, 0, by kernel_rfl, .inr (rfl), .inr ((Below.refl _ _).drew), fun h => h.elim, fun h => h.elim, fun h => h.elim, fun h => h.elim, fun h => h.elim, fun h => h.elim, fun h => h.elim, fun h => h.elim, fun h => h.elim, fun h => h.elim, fun h => h.elim, fun h => h.elim, fun h => h.elim, fun h => h.elim, fun h => h.elim, fun h _ => h.elim, fun h _ => h.elim⟩
            case step =>
              intro i o ho D a w' hI hn hcl hd
              obtain ⟨v46, v47, v48, v49, v50, v51, v52, v53, v54, v55, v56, v57, v58, v59, nb, a8, n8, c8, ha, hC, hB, e0, e1, e2, e3, e4, e5, e6, e7, e8, e9, e10, e11, e12, e13, hQ, hLit, hA⟩ := hI
              match i, ho with
              | 0, ho =>
                cases Option.some.inj ho
                have ev : a.tmps[0]?.getD undef = .pointer (some ⟨b, 0, none⟩) := by rw [ha]; kernel_rfl
                refine wp_value (w' := w') (v := .pointer (some ⟨b, 0, none⟩)) (by simp [execOp, ev, go_sem]) ?_
                exact ⟨(.pointer (some ⟨b, 0, none⟩)), v47, v48, v49, v50, v51, v52, v53, v54, v55, v56, v57, v58, v59, nb, a8, n8, c8, by rw [ha]; kernel_rfl, hC.imp_left .inr, hB.imp_left .inr, fun _ => rfl, fun h => e1 (h.resolve_left (by decide)), fun h => e2 (h.resolve_left (by decide)), fun h => e3 (h.resolve_left (by decide)), fun h => e4 (h.resolve_left (by decide)), fun h => e5 (h.resolve_left (by decide)), fun h => e6 (h.resolve_left (by decide)), fun h => e7 (h.resolve_left (by decide)), fun h => e8 (h.resolve_left (by decide)), fun h => e9 (h.resolve_left (by decide)), fun h => e10 (h.resolve_left (by decide)), fun h => e11 (h.resolve_left (by decide)), fun h => e12 (h.resolve_left (by decide)), fun h => e13 (h.resolve_left (by decide)), fun h => hQ (h.resolve_left (by decide)), fun h h' => hLit (h.resolve_left (by decide)) (fun k => h' (.inr k)), fun h h' => hA (h.resolve_left (by decide)) (fun k => h' (.inr k))⟩
              | 1, ho =>
                cases Option.some.inj ho
                have ev : a.tmps[0]?.getD undef = .pointer (some ⟨b, 0, none⟩) := by rw [ha]; kernel_rfl
                refine wp_value (w' := w') (v := .pointer (some ⟨b, 0, none⟩)) (by simp [execOp, ev, go_sem]) ?_
                exact ⟨v46, (.pointer (some ⟨b, 0, none⟩)), v48, v49, v50, v51, v52, v53, v54, v55, v56, v57, v58, v59, nb, a8, n8, c8, by rw [ha]; kernel_rfl, hC.imp_left .inr, hB.imp_left .inr, fun h => e0 (h.resolve_left (by decide)), fun _ => rfl, fun h => e2 (h.resolve_left (by decide)), fun h => e3 (h.resolve_left (by decide)), fun h => e4 (h.resolve_left (by decide)), fun h => e5 (h.resolve_left (by decide)), fun h => e6 (h.resolve_left (by decide)), fun h => e7 (h.resolve_left (by decide)), fun h => e8 (h.resolve_left (by decide)), fun h => e9 (h.resolve_left (by decide)), fun h => e10 (h.resolve_left (by decide)), fun h => e11 (h.resolve_left (by decide)), fun h => e12 (h.resolve_left (by decide)), fun h => e13 (h.resolve_left (by decide)), fun h => hQ (h.resolve_left (by decide)), fun h h' => hLit (h.resolve_left (by decide)) (fun k => h' (.inr k)), fun h h' => hA (h.resolve_left (by decide)) (fun k => h' (.inr k))⟩
              | 2, ho =>
                cases Option.some.inj ho
                have ev : a.tmps[47]?.getD undef = .pointer (some ⟨b, 0, none⟩) := by rw [ha, e1 (hd ⟨1, .data⟩ (by simp) rfl)]; kernel_rfl
                refine wp_value (w' := w') (v := .pointer (some ⟨b, 0, none⟩)) (by simp [execOp, ev, go_sem]) ?_
                exact ⟨v46, v47, (.pointer (some ⟨b, 0, none⟩)), v49, v50, v51, v52, v53, v54, v55, v56, v57, v58, v59, nb, a8, n8, c8, by rw [ha]; kernel_rfl, hC.imp_left .inr, hB.imp_left .inr, fun h => e0 (h.resolve_left (by decide)), fun h => e1 (h.resolve_left (by decide)), fun _ => rfl, fun h => e3 (h.resolve_left (by decide)), fun h => e4 (h.resolve_left (by decide)), fun h => e5 (h.resolve_left (by decide)), fun h => e6 (h.resolve_left (by decide)), fun h => e7 (h.resolve_left (by decide)), fun h => e8 (h.resolve_left (by decide)), fun h => e9 (h.resolve_left (by decide)), fun h => e10 (h.resolve_left (by decide)), fun h => e11 (h.resolve_left (by decide)), fun h => e12 (h.resolve_left (by decide)), fun h => e13 (h.resolve_left (by decide)), fun h => hQ (h.resolve_left (by decide)), fun h h' => hLit (h.resolve_left (by decide)) (fun k => h' (.inr k)), fun h h' => hA (h.resolve_left (by decide)) (fun k => h' (.inr k))⟩
              | 3, ho =>
                cases Option.some.inj ho
                have ev : a.tmps[48]?.getD undef = .pointer (some ⟨b, 0, none⟩) := by rw [ha, e2 (hd ⟨2, .data⟩ (by simp) rfl)]; kernel_rfl
                refine wp_value (w' := w') (v := .pointer (some ⟨b, 4, none⟩)) (by simp [execOp, ev, go_sem]) ?_
                exact ⟨v46, v47, v48, (.pointer (some ⟨b, 4, none⟩)), v50, v51, v52, v53, v54, v55, v56, v57, v58, v59, nb, a8, n8, c8, by rw [ha]; kernel_rfl, hC.imp_left .inr, hB.imp_left .inr, fun h => e0 (h.resolve_left (by decide)), fun h => e1 (h.resolve_left (by decide)), fun h => e2 (h.resolve_left (by decide)), fun _ => rfl, fun h => e4 (h.resolve_left (by decide)), fun h => e5 (h.resolve_left (by decide)), fun h => e6 (h.resolve_left (by decide)), fun h => e7 (h.resolve_left (by decide)), fun h => e8 (h.resolve_left (by decide)), fun h => e9 (h.resolve_left (by decide)), fun h => e10 (h.resolve_left (by decide)), fun h => e11 (h.resolve_left (by decide)), fun h => e12 (h.resolve_left (by decide)), fun h => e13 (h.resolve_left (by decide)), fun h => hQ (h.resolve_left (by decide)), fun h h' => hLit (h.resolve_left (by decide)) (fun k => h' (.inr k)), fun h h' => hA (h.resolve_left (by decide)) (fun k => h' (.inr k))⟩
              | 4, ho =>
                cases Option.some.inj ho
                have ev : a.tmps[49]?.getD undef = .pointer (some ⟨b, 4, none⟩) := by rw [ha, e3 (hd ⟨3, .data⟩ (by simp) rfl)]; kernel_rfl
                have hb := hC.resolve_left (fun h => (fun h => hn (hcl 11 _ rfl h ⟨4, .data⟩ (by simp) rfl)) (hcl 14 _ rfl h ⟨11, .data⟩ (by simp) rfl))
                have hcc := (rt_cells (hb.trans XB)).2.2.2.2
                refine wp_value (w' := w') (v := .slice a5 m5 cap5) (by simp [execOp, ev, go_sem, hcc]) ?_
                exact ⟨v46, v47, v48, v49, (.slice a5 m5 cap5), v51, v52, v53, v54, v55, v56, v57, v58, v59, nb, a8, n8, c8, by rw [ha]; kernel_rfl, hC.imp_left .inr, hB.imp_left .inr, fun h => e0 (h.resolve_left (by decide)), fun h => e1 (h.resolve_left (by decide)), fun h => e2 (h.resolve_left (by decide)), fun h => e3 (h.resolve_left (by decide)), fun _ => rfl, fun h => e5 (h.resolve_left (by decide)), fun h => e6 (h.resolve_left (by decide)), fun h => e7 (h.resolve_left (by decide)), fun h => e8 (h.resolve_left (by decide)), fun h => e9 (h.resolve_left (by decide)), fun h => e10 (h.resolve_left (by decide)), fun h => e11 (h.resolve_left (by decide)), fun h => e12 (h.resolve_left (by decide)), fun h => e13 (h.resolve_left (by decide)), fun h => hQ (h.resolve_left (by decide)), fun h h' => hLit (h.resolve_left (by decide)) (fun k => h' (.inr k)), fun h h' => hA (h.resolve_left (by decide)) (fun k => h' (.inr k))⟩
              | 5, ho =>
                cases Option.some.inj ho
                have ev : a.tmps[7]?.getD undef = .pointer (some ⟨b7, 0, none⟩) := by rw [ha]; kernel_rfl
                refine wp_value (w' := w') (v := .pointer (some ⟨b7, 0, none⟩)) (by simp [execOp, ev, go_sem]) ?_
                exact ⟨v46, v47, v48, v49, v50, (.pointer (some ⟨b7, 0, none⟩)), v52, v53, v54, v55, v56, v57, v58, v59, nb, a8, n8, c8, by rw [ha]; kernel_rfl, hC.imp_left .inr, hB.imp_left .inr, fun h => e0 (h.resolve_left (by decide)), fun h => e1 (h.resolve_left (by decide)), fun h => e2 (h.resolve_left (by decide)), fun h => e3 (h.resolve_left (by decide)), fun h => e4 (h.resolve_left (by decide)), fun _ => rfl, fun h => e6 (h.resolve_left (by decide)), fun h => e7 (h.resolve_left (by decide)), fun h => e8 (h.resolve_left (by decide)), fun h => e9 (h.resolve_left (by decide)), fun h => e10 (h.resolve_left (by decide)), fun h => e11 (h.resolve_left (by decide)), fun h => e12 (h.resolve_left (by decide)), fun h => e13 (h.resolve_left (by decide)), fun h => hQ (h.resolve_left (by decide)), fun h h' => hLit (h.resolve_left (by decide)) (fun k => h' (.inr k)), fun h h' => hA (h.resolve_left (by decide)) (fun k => h' (.inr k))⟩
              | 6, ho =>
                cases Option.some.inj ho
                have ev : a.tmps[51]?.getD undef = .pointer (some ⟨b7, 0, none⟩) := by rw [ha, e5 (hd ⟨5, .data⟩ (by simp) rfl)]; kernel_rfl
                have hb := hB.resolve_left (fun h => (fun h => (fun h => hn (hcl 9 _ rfl h ⟨6, .data⟩ (by simp) rfl)) (hcl 10 _ rfl h ⟨9, .data⟩ (by simp) rfl)) (hcl 11 _ rfl h ⟨10, .data⟩ (by simp) rfl))
                have hcc := (hb.cell (p := ⟨b7, 0, none⟩) (lt_of_cell z0)).trans z0
                refine wp_value (w' := w') (v := .int .i64 oo) (by simp [execOp, ev, go_sem, hcc]) ?_
                exact ⟨v46, v47, v48, v49, v50, v51, (.int .i64 oo), v53, v54, v55, v56, v57, v58, v59, nb, a8, n8, c8, by rw [ha]; kernel_rfl, hC.imp_left .inr, hB.imp_left .inr, fun h => e0 (h.resolve_left (by decide)), fun h => e1 (h.resolve_left (by decide)), fun h => e2 (h.resolve_left (by decide)), fun h => e3 (h.resolve_left (by decide)), fun h => e4 (h.resolve_left (by decide)), fun h => e5 (h.resolve_left (by decide)), fun _ => rfl, fun h => e7 (h.resolve_left (by decide)), fun h => e8 (h.resolve_left (by decide)), fun h => e9 (h.resolve_left (by decide)), fun h => e10 (h.resolve_left (by decide)), fun h => e11 (h.resolve_left (by decide)), fun h => e12 (h.resolve_left (by decide)), fun h => e13 (h.resolve_left (by decide)), fun h => hQ (h.resolve_left (by decide)), fun h h' => hLit (h.resolve_left (by decide)) (fun k => h' (.inr k)), fun h h' => hA (h.resolve_left (by decide)) (fun k => h' (.inr k))⟩
              | 7, ho =>
                cases Option.some.inj ho
                have ev : a.tmps[3]?.getD undef = .pointer (some ⟨b3, 0, none⟩) := by rw [ha]; kernel_rfl
                refine wp_value (w' := w') (v := .pointer (some ⟨b3, 0, none⟩)) (by simp [execOp, ev, go_sem]) ?_
                exact ⟨v46, v47, v48, v49, v50, v51, v52, (.pointer (some ⟨b3, 0, none⟩)), v54, v55, v56, v57, v58, v59, nb, a8, n8, c8, by rw [ha]; kernel_rfl, hC.imp_left .inr, hB.imp_left .inr, fun h => e0 (h.resolve_left (by decide)), fun h => e1 (h.resolve_left (by decide)), fun h => e2 (h.resolve_left (by decide)), fun h => e3 (h.resolve_left (by decide)), fun h => e4 (h.resolve_left (by decide)), fun h => e5 (h.resolve_left (by decide)), fun h => e6 (h.resolve_left (by decide)), fun _ => rfl, fun h => e8 (h.resolve_left (by decide)), fun h => e9 (h.resolve_left (by decide)), fun h => e10 (h.resolve_left (by decide)), fun h => e11 (h.resolve_left (by decide)), fun h => e12 (h.resolve_left (by decide)), fun h => e13 (h.resolve_left (by decide)), fun h => hQ (h.resolve_left (by decide)), fun h h' => hLit (h.resolve_left (by decide)) (fun k => h' (.inr k)), fun h h' => hA (h.resolve_left (by decide)) (fun k => h' (.inr k))⟩
              | 8, ho =>
                cases Option.some.inj ho
                have ev : a.tmps[53]?.getD undef = .pointer (some ⟨b3, 0, none⟩) := by rw [ha, e7 (hd ⟨7, .data⟩ (by simp) rfl)]; kernel_rfl
                have hb := hB.resolve_left (fun h => (fun h => (fun h => hn (hcl 9 _ rfl h ⟨8, .data⟩ (by simp) rfl)) (hcl 10 _ rfl h ⟨9, .data⟩ (by simp) rfl)) (hcl 11 _ rfl h ⟨10, .data⟩ (by simp) rfl))
                have hcc := (hb.cell (p := ⟨b3, 0, none⟩) (lt_of_cell y0)).trans y0
                refine wp_value (w' := w') (v := .int .i64 c) (by simp [execOp, ev, go_sem, hcc]) ?_
                exact ⟨v46, v47, v48, v49, v50, v51, v52, v53, (.int .i64 c), v55, v56, v57, v58, v59, nb, a8, n8, c8, by rw [ha]; kernel_rfl, hC.imp_left .inr, hB.imp_left .inr, fun h => e0 (h.resolve_left (by decide)), fun h => e1 (h.resolve_left (by decide)), fun h => e2 (h.resolve_left (by decide)), fun h => e3 (h.resolve_left (by decide)), fun h => e4 (h.resolve_left (by decide)), fun h => e5 (h.resolve_left (by decide)), fun h => e6 (h.resolve_left (by decide)), fun h => e7 (h.resolve_left (by decide)), fun _ => rfl, fun h => e9 (h.resolve_left (by decide)), fun h => e10 (h.resolve_left (by decide)), fun h => e11 (h.resolve_left (by decide)), fun h => e12 (h.resolve_left (by decide)), fun h => e13 (h.resolve_left (by decide)), fun h => hQ (h.resolve_left (by decide)), fun h h' => hLit (h.resolve_left (by decide)) (fun k => h' (.inr k)), fun h h' => hA (h.resolve_left (by decide)) (fun k => h' (.inr k))⟩
              | 9, ho =>
                cases Option.some.inj ho
                have ev : a.tmps[52]?.getD undef = .int .i64 oo := by rw [ha, e6 (hd ⟨6, .data⟩ (by simp) rfl)]; kernel_rfl
                have ev' : a.tmps[54]?.getD undef = .int .i64 c := by rw [ha, e8 (hd ⟨8, .data⟩ (by simp) rfl)]; kernel_rfl
                refine wp_value (w' := w') (v := .agg #[.int .i64 oo, .int .i64 c]) (by simp [execOp, ev, ev', go_sem]) ?_
                exact ⟨v46, v47, v48, v49, v50, v51, v52, v53, v54, (.agg #[.int .i64 oo, .int .i64 c]), v56, v57, v58, v59, nb, a8, n8, c8, by rw [ha]; kernel_rfl, hC.imp_left .inr, hB.imp_left .inr, fun h => e0 (h.resolve_left (by decide)), fun h => e1 (h.resolve_left (by decide)), fun h => e2 (h.resolve_left (by decide)), fun h => e3 (h.resolve_left (by decide)), fun h => e4 (h.resolve_left (by decide)), fun h => e5 (h.resolve_left (by decide)), fun h => e6 (h.resolve_left (by decide)), fun h => e7 (h.resolve_left (by decide)), fun h => e8 (h.resolve_left (by decide)), fun _ => rfl, fun h => e10 (h.resolve_left (by decide)), fun h => e11 (h.resolve_left (by decide)), fun h => e12 (h.resolve_left (by decide)), fun h => e13 (h.resolve_left (by decide)), fun h => hQ (h.resolve_left (by decide)), fun h h' => hLit (h.resolve_left (by decide)) (fun k => h' (.inr k)), fun h h' => hA (h.resolve_left (by decide)) (fun k => h' (.inr k))⟩
              | 10, ho =>
                cases Option.some.inj ho
                have ev : a.tmps[55]?.getD undef = .agg #[.int .i64 oo, .int .i64 c] := by rw [ha, e9 (hd ⟨9, .data⟩ (by simp) rfl)]; kernel_rfl
                refine wp_value (w' := w'.alloc (.cells #[.int .i64 oo, .int .i64 c] 82)) (v := .slice (some ⟨w'.heap.size, 0, none⟩) 1 1) (by simp [execOp, ev, go_sem]) ?_
                exact ⟨v46, v47, v48, v49, v50, v51, v52, v53, v54, v55, (.slice (some ⟨w'.heap.size, 0, none⟩) 1 1), v57, v58, v59, w'.heap.size, a8, n8, c8, by rw [ha]; kernel_rfl, hC.imp .inr (fun h => (box_below.block b (lt_of_block (h.trans XB))).trans h), hB.imp .inr (fun h => below_size h h.size box_below), fun h => e0 (h.resolve_left (by decide)), fun h => e1 (h.resolve_left (by decide)), fun h => e2 (h.resolve_left (by decide)), fun h => e3 (h.resolve_left (by decide)), fun h => e4 (h.resolve_left (by decide)), fun h => e5 (h.resolve_left (by decide)), fun h => e6 (h.resolve_left (by decide)), fun h => e7 (h.resolve_left (by decide)), fun h => e8 (h.resolve_left (by decide)), fun h => e9 (h.resolve_left (by decide)), fun _ => rfl, fun h => e11 (h.resolve_left (by decide)), fun h => e12 (h.resolve_left (by decide)), fun h => e13 (h.resolve_left (by decide)), fun h => absurd (h.resolve_left (by decide)) (fun h => (fun h => hn (hcl 11 _ rfl h ⟨10, .data⟩ (by simp) rfl)) (hcl 14 _ rfl h ⟨11, .data⟩ (by simp) rfl)), fun _ _ => lit2 (w := w') (t := 82), fun h _ => absurd (h.resolve_left (by decide)) (fun h => hn (hcl 11 _ rfl h ⟨10, .data⟩ (by simp) rfl))⟩
              | 11, ho =>
                cases Option.some.inj ho
                have ev : a.tmps[50]?.getD undef = .slice a5 m5 cap5 := by rw [ha, e4 (hd ⟨4, .data⟩ (by simp) rfl)]; kernel_rfl
                have ev' : a.tmps[56]?.getD undef = .slice (some ⟨nb, 0, none⟩) 1 1 := by rw [ha, e10 (hd ⟨10, .data⟩ (by simp) rfl)]; kernel_rfl
                have hb := hB.resolve_left hn
                have hL := hLit (hd ⟨10, .data⟩ (by simp) rfl) hn
                obtain ⟨iet, hi, hz, hs, hbb⟩ := info_parts Try.info82
                obtain ⟨a8', n8', c8', w6, hr6, hO6, hG, hP⟩ := app_row w' 33 33 82 Try.underlying33 hi hz hs hbb rfl (by decide) (by decide) (own_below own hb) nb [.int .i64 oo, .int .i64 c] rfl hL (by intro u hu; simp at hu; rcases hu with rfl | rfl <;> rfl) hlen (Nat.zero_le _)
                refine Lib.wp_append_run w' (.tmp 50) (.tmp 56) 33 33 rfl _ _ (by simpa [Act.eval] using ev) (by simpa [Act.eval] using ev') _ w6 hr6 ?_
                exact ⟨v46, v47, v48, v49, v50, v51, v52, v53, v54, v55, v56, (.slice a8' n8' c8'), v58, v59, nb, a8', n8', c8', by rw [ha]; kernel_rfl, hC.imp .inr (fun h => (hG.block b (lt_of_block (h.trans XB)) (fun e => hne e.symm)).trans h), .inl (.inl rfl), fun h => e0 (h.resolve_left (by decide)), fun h => e1 (h.resolve_left (by decide)), fun h => e2 (h.resolve_left (by decide)), fun h => e3 (h.resolve_left (by decide)), fun h => e4 (h.resolve_left (by decide)), fun h => e5 (h.resolve_left (by decide)), fun h => e6 (h.resolve_left (by decide)), fun h => e7 (h.resolve_left (by decide)), fun h => e8 (h.resolve_left (by decide)), fun h => e9 (h.resolve_left (by decide)), fun h => e10 (h.resolve_left (by decide)), fun _ => rfl, fun h => e12 (h.resolve_left (by decide)), fun h => e13 (h.resolve_left (by decide)), fun h => absurd (h.resolve_left (by decide)) (fun h => hn (hcl 14 _ rfl h ⟨11, .data⟩ (by simp) rfl)), fun _ h' => absurd (.inl rfl) h', fun _ _ => ⟨w', hb, hG, hO6, hP⟩⟩
              | 12, ho =>
                cases Option.some.inj ho
                have ev : a.tmps[46]?.getD undef = .pointer (some ⟨b, 0, none⟩) := by rw [ha, e0 (hd ⟨0, .data⟩ (by simp) rfl)]; kernel_rfl
                refine wp_value (w' := w') (v := .pointer (some ⟨b, 0, none⟩)) (by simp [execOp, ev, go_sem]) ?_
                exact ⟨v46, v47, v48, v49, v50, v51, v52, v53, v54, v55, v56, v57, (.pointer (some ⟨b, 0, none⟩)), v59, nb, a8, n8, c8, by rw [ha]; kernel_rfl, hC.imp_left .inr, hB.imp_left .inr, fun h => e0 (h.resolve_left (by decide)), fun h => e1 (h.resolve_left (by decide)), fun h => e2 (h.resolve_left (by decide)), fun h => e3 (h.resolve_left (by decide)), fun h => e4 (h.resolve_left (by decide)), fun h => e5 (h.resolve_left (by decide)), fun h => e6 (h.resolve_left (by decide)), fun h => e7 (h.resolve_left (by decide)), fun h => e8 (h.resolve_left (by decide)), fun h => e9 (h.resolve_left (by decide)), fun h => e10 (h.resolve_left (by decide)), fun h => e11 (h.resolve_left (by decide)), fun _ => rfl, fun h => e13 (h.resolve_left (by decide)), fun h => hQ (h.resolve_left (by decide)), fun h h' => hLit (h.resolve_left (by decide)) (fun k => h' (.inr k)), fun h h' => hA (h.resolve_left (by decide)) (fun k => h' (.inr k))⟩
              | 13, ho =>
                cases Option.some.inj ho
                have ev : a.tmps[58]?.getD undef = .pointer (some ⟨b, 0, none⟩) := by rw [ha, e12 (hd ⟨12, .data⟩ (by simp) rfl)]; kernel_rfl
                refine wp_value (w' := w') (v := .pointer (some ⟨b, 4, none⟩)) (by simp [execOp, ev, go_sem]) ?_
                exact ⟨v46, v47, v48, v49, v50, v51, v52, v53, v54, v55, v56, v57, v58, (.pointer (some ⟨b, 4, none⟩)), nb, a8, n8, c8, by rw [ha]; kernel_rfl, hC.imp_left .inr, hB.imp_left .inr, fun h => e0 (h.resolve_left (by decide)), fun h => e1 (h.resolve_left (by decide)), fun h => e2 (h.resolve_left (by decide)), fun h => e3 (h.resolve_left (by decide)), fun h => e4 (h.resolve_left (by decide)), fun h => e5 (h.resolve_left (by decide)), fun h => e6 (h.resolve_left (by decide)), fun h => e7 (h.resolve_left (by decide)), fun h => e8 (h.resolve_left (by decide)), fun h => e9 (h.resolve_left (by decide)), fun h => e10 (h.resolve_left (by decide)), fun h => e11 (h.resolve_left (by decide)), fun h => e12 (h.resolve_left (by decide)), fun _ => rfl, fun h => hQ (h.resolve_left (by decide)), fun h h' => hLit (h.resolve_left (by decide)) (fun k => h' (.inr k)), fun h h' => hA (h.resolve_left (by decide)) (fun k => h' (.inr k))⟩
              | 14, ho =>
                cases Option.some.inj ho
                have ev : a.tmps[59]?.getD undef = .pointer (some ⟨b, 4, none⟩) := by rw [ha, e13 (hd ⟨13, .data⟩ (by simp) rfl)]; kernel_rfl
                have ev' : a.tmps[57]?.getD undef = .slice a8 n8 c8 := by rw [ha, e11 (hd ⟨11, .data⟩ (by simp) rfl)]; kernel_rfl
                have hb := hC.resolve_left hn
                have hfr := rt_frozen (hb.trans XB) 4
                have hcc := (rt_cells (hb.trans XB)).2.2.2.2
                have hA' := hA (hd ⟨11, .data⟩ (by simp) rfl) hn
                refine wp_skip (w' := w'.setCell ⟨b, 4, none⟩ (.slice a8 n8 c8)) (by simp [execOp, ev, ev', go_sem, hfr, hcc]) ?_
                exact ⟨v46, v47, v48, v49, v50, v51, v52, v53, v54, v55, v56, v57, v58, v59, nb, a8, n8, c8, by rw [ha]; kernel_rfl, .inl (.inl rfl), .inl (.inr (hd ⟨11, .data⟩ (by simp) rfl)), fun h => e0 (h.resolve_left (by decide)), fun h => e1 (h.resolve_left (by decide)), fun h => e2 (h.resolve_left (by decide)), fun h => e3 (h.resolve_left (by decide)), fun h => e4 (h.resolve_left (by decide)), fun h => e5 (h.resolve_left (by decide)), fun h => e6 (h.resolve_left (by decide)), fun h => e7 (h.resolve_left (by decide)), fun h => e8 (h.resolve_left (by decide)), fun h => e9 (h.resolve_left (by decide)), fun h => e10 (h.resolve_left (by decide)), fun h => e11 (h.resolve_left (by decide)), fun h => e12 (h.resolve_left (by decide)), fun h => e13 (h.resolve_left (by decide)), fun _ => ⟨w', hb, rfl, hA'⟩, fun _ h' => absurd (.inr (hd ⟨11, .data⟩ (by simp) rfl)) h', fun _ h' => absurd (.inl rfl) h'⟩
              | i + 15, ho => simp at ho
            case done =>
              rintro D a w' ⟨v46, v47, v48, v49, v50, v51, v52, v53, v54, v55, v56, v57, v58, v59, nb, a8, n8, c8, ha, hC, hB, e0, e1, e2, e3, e4, e5, e6, e7, e8, e9, e10, e11, e12, e13, hQ, hLit, hA⟩ hall
              obtain rfl := e0 (hall 0 (by decide))
              obtain rfl := e1 (hall 1 (by decide))
              obtain rfl := e2 (hall 2 (by decide))
              obtain rfl := e3 (hall 3 (by decide))
              obtain rfl := e4 (hall 4 (by decide))
              obtain rfl := e5 (hall 5 (by decide))
              obtain rfl := e6 (hall 6 (by decide))
              obtain rfl := e7 (hall 7 (by decide))
              obtain rfl := e8 (hall 8 (by decide))
              obtain rfl := e9 (hall 9 (by decide))
              obtain rfl := e10 (hall 10 (by decide))
              obtain rfl := e11 (hall 11 (by decide))
              obtain rfl := e12 (hall 12 (by decide))
              obtain rfl := e13 (hall 13 (by decide))
              obtain ⟨w6, u1, rfl, wp, p1, p2, p3, p4⟩ := hQ (hall 14 (by decide))
              clear hC hB hLit hA hQ hall e0 e1 e2 e3 e4 e5 e6 e7 e8 e9 e10 e11 e12 e13
              rw [ha]
              clear ha
              simp only [Act.put, List.setIfInBounds_toArray, List.set_cons_zero, List.set_cons_succ]
              have hw56 : ∃ cur, w.heap[b]? = some (Obj.cells cur 35 (0, 0)) := by
                obtain ⟨_, _, _, hh, _⟩ := h.blk
                exact ⟨_, hh⟩
              have R4 := R3.when XB own inT hm.out rfl hsnoc.out h.own hblt hb3l hb5 hw56 u1 p1 p2 p3 p4
              clear R3 XB own inT hm hne hlen u1 p1 p2 p3 p4 hw56
              generalize w6.setCell ⟨b, 4, none⟩ (.slice a8 n8 c8) = wq at *
              go_wp2
              go_roundw
              case rel => exact ⟨i + 1, by go_num, by omega, R4⟩
              case measure => simp [intOf]; omega
        · have hii : ¬ (i : Int) < (n : Int) := by omega
          have hin : xs.take i = xs := List.take_of_length_le (by have := hr.size; omega)
          replace hin : Hid _ := hin
          obtain ⟨xv, X5, xch⟩ := R1.xb
          obtain ⟨xa, xn, xc, rfl, hxn⟩ := xch.shape
          obtain ⟨bv0, lv0, wv1, hblk0, hB0, hL0, _⟩ := h.blk
          obtain ⟨ebv, elv⟩ := hlvE.out bv0 lv0 wv1 hblk0
          subst elv ebv
          have XB0 := hblk0
          obtain ⟨rs, hrs, ownw, inT, hch⟩ := hL0
          obtain ⟨la, ln, lc, rfl, hln⟩ : ∃ a n c, lv0 = .slice a n c ∧ n = rs.length := by
            rcases ownw.2 with ⟨rfl, h0⟩ | ⟨g, cap, cur, rfl, _⟩
            · exact ⟨_, _, _, rfl, h0.symm⟩
            · exact ⟨_, _, _, rfl, rfl⟩
          have own0 : wr.ownsRow 0 29 2 (.slice la ln lc) rs.length (flatR rs) := own_same ownw (fun g hg => by
            obtain ⟨_, cur, hh⟩ := own_block ownw hg
            exact R1.kt g cur 29 hh (by decide) (by decide))
          obtain ⟨a5, ea5⟩ : ∃ q, q = la := ⟨_, rfl⟩
          obtain ⟨m5, em5⟩ : ∃ q, q = ln := ⟨_, rfl⟩
          obtain ⟨cap5, ec5⟩ : ∃ q, q = lc := ⟨_, rfl⟩
          obtain ⟨xs5, ex5⟩ : ∃ q, q = flatR rs := ⟨_, rfl⟩
          have own : wr.ownsRow 0 29 2 (.slice a5 m5 cap5) m5 xs5 := by rw [ea5, em5, ec5, ex5]; rw [hln] at own0 ⊢; exact own0
          have hlen : m5 ≤ 1000000000 := by
            have h1 := h.few.1
            rw [← hrs, List.length_map] at h1
            omega
          rw [← ea5, ← em5, ← ec5] at R1 inT XB0
          obtain ⟨wv, XB, _⟩ := R1.tb
          have hne : (Value.slice a5 m5 cap5).ownBlock = some b → False := own_ty own XB (by decide)
          obtain ⟨x0, x1⟩ := rec_cells X5
          have kfew := h.few
          have kc : 0 ≤ c := by have := h.ge0.2; omega
          have e1 : Hid (rapplyE u c xs = 0) := by show rapplyE u c xs = 0; simp [rapplyE, hok]; omega
          have em5' : Hid (m5 = rs.length) := em5.trans hln
          replace ex5 : Hid _ := ex5
          replace hrs : Hid _ := hrs
          clear hxn xch hblk0 own0 ownw ea5 em5 ec5 hln XB0
          go_upto_region 12 with fail
          obtain ⟨wq, hwq⟩ : ∃ q, q = wr := ⟨_, rfl⟩
          rw [← hwq] at own XB x0 x1 R1 X5 y0 y1 ⊢
          clear hwq
          refine wp_region_inv' (fun A D a w' => ∃ v60 v61 v62 v63 v64 v65 v66 v67 v68 v69 nb a8 n8 c8, a = ((((((((((A.put (some 60) v60).put (some 61) v61).put (some 62) v62).put (some 63) v63).put (some 64) v64).put (some 65) v65).put (some 66) v66).put (some 67) v67).put (some 68) v68).put (some 69) v69) ∧ (D 10 ∨ w'.heap[b]? = wq.heap[b]?) ∧ (D 7 ∨ Below wq.heap.size wq w') ∧ (D 0 → v60 = .pointer (some ⟨b, 0, none⟩)) ∧ (D 1 → v61 = .pointer (some ⟨b, 0, none⟩)) ∧ (D 2 → v62 = .pointer (some ⟨b, 0, none⟩)) ∧ (D 3 → v63 = .pointer (some ⟨b, 3, none⟩)) ∧ (D 4 → v64 = .slice a5 m5 cap5) ∧ (D 5 → v65 = .agg #[.int .i64 c, .slice xa xn xc]) ∧ (D 6 → v66 = .slice (some ⟨nb, 0, none⟩) 1 1) ∧ (D 7 → v67 = .slice a8 n8 c8) ∧ (D 8 → v68 = .pointer (some ⟨b, 0, none⟩)) ∧ (D 9 → v69 = .pointer (some ⟨b, 3, none⟩)) ∧ (D 10 → ∃ w6 : World, w6.heap[b]? = wq.heap[b]? ∧ w' = w6.setCell ⟨b, 3, none⟩ (.slice a8 n8 c8) ∧ ∃ wp : World, Below wq.heap.size wq wp ∧ wp.grownBy w6 (Value.slice a5 m5 cap5).ownBlock ∧ w6.ownsRow 0 29 2 (.slice a8 n8 c8) (m5 + 1) (xs5 ++ [.int .i64 c, .slice xa xn xc]) ∧ (∀ g, (Value.slice a8 n8 c8).ownBlock = some g → (Value.slice a5 m5 cap5).ownBlock = some g ∨ wp.heap.size ≤ g)) ∧ (D 6 → ¬ D 7 → ∀ j v, ([.int .i64 c, .slice xa xn xc] : List Value)[j]? = some v → w'.cell? ⟨nb, j, none⟩ = some v) ∧ (D 7 → ¬ D 10 → ∃ wp : World, Below wq.heap.size wq wp ∧ wp.grownBy w' (Value.slice a5 m5 cap5).ownBlock ∧ w'.ownsRow 0 29 2 (.slice a8 n8 c8) (m5 + 1) (xs5 ++ [.int .i64 c, .slice xa xn xc]) ∧ (∀ g, (Value.slice a8 n8 c8).ownBlock = some g → (Value.slice a5 m5 cap5).ownBlock = some g ∨ wp.heap.size ≤ g))) (by kernel_rfl) (by kernel_rfl) ?mono ?start ?step ?done
          case mono =>
            rintro D D' a w' hD ⟨v60, v61, v62, v63, v64, v65, v66, v67, v68, v69, nb, a8, n8, c8, ha, hC, hB, e0, e1, e2, e3, e4, e5, e6, e7, e8, e9, hQ, hLit, hA⟩
            exact ⟨v60, v61, v62, v63, v64, v65, v66, v67, v68, v69, nb, a8, n8, c8, ha, hC.imp_left (hD 10).1, hB.imp_left (hD 7).1, fun h => e0 ((hD 0).2 h), fun h => e1 ((hD 1).2 h), fun h => e2 ((hD 2).2 h), fun h => e3 ((hD 3).2 h), fun h => e4 ((hD 4).2 h), fun h => e5 ((hD 5).2 h), fun h => e6 ((hD 6).2 h), fun h => e7 ((hD 7).2 h), fun h => e8 ((hD 8).2 h), fun h => e9 ((hD 9).2 h), fun h => hQ ((hD 10).2 h), fun h h' => hLit ((hD 6).2 h) (fun k => h' ((hD 7).1 k)), fun h h' => hA ((hD 7).2 h) (fun k => h' ((hD 10).1 k))⟩
          case start => exact ⟨undef, undef, undef, undef, undef, undef, undef, undef, undef, undef, 0, none, 0, 0, by kernel_rfl, .inr (rfl), .inr ((Below.refl _ _).drew), fun h => h.elim, fun h => h.elim, fun h => h.elim, fun h => h.elim, fun h => h.elim, fun h => h.elim, fun h => h.elim, fun h => h.elim, fun h => h.elim, fun h => h.elim, fun h => h.elim, fun h _ => h.elim, fun h _ => h.elim⟩
          case step =>
            intro i o ho D a w' hI hn hcl hd
            obtain ⟨v60, v61, v62, v63, v64, v65, v66, v67, v68, v69, nb, a8, n8, c8, ha, hC, hB, e0, e1, e2, e3, e4, e5, e6, e7, e8, e9, hQ, hLit, hA⟩ := hI
            match i, ho with
            | 0, ho =>
              cases Option.some.inj ho
              have ev : a.tmps[0]?.getD undef = .pointer (some ⟨b, 0, none⟩) := by rw [ha]; kernel_rfl
              refine wp_value (w' := w') (v := .pointer (some ⟨b, 0, none⟩)) (by simp [execOp, ev, go_sem]) ?_
              exact ⟨(.pointer (some ⟨b, 0, none⟩)), v61, v62, v63, v64, v65, v66, v67, v68, v69, nb, a8, n8, c8, by rw [ha]; kernel_rfl, hC.imp_left .inr, hB.imp_left .inr, fun _ => rfl, fun h => e1 (h.resolve_left (by decide)), fun h => e2 (h.resolve_left (by decide)), fun h => e3 (h.resolve_left (by decide)), fun h => e4 (h.resolve_left (by decide)), fun h => e5 (h.resolve_left (by decide)), fun h => e6 (h.resolve_left (by decide)), fun h => e7 (h.resolve_left (by decide)), fun h => e8 (h.resolve_left (by decide)), fun h => e9 (h.resolve_left (by decide)), fun h => hQ (h.resolve_left (by decide)), fun h h' => hLit (h.resolve_left (by decide)) (fun k => h' (.inr k)), fun h h' => hA (h.resolve_left (by decide)) (fun k => h' (.inr k))⟩
            | 1, ho =>
              cases Option.some.inj ho
              have ev : a.tmps[0]?.getD undef = .pointer (some ⟨b, 0, none⟩) := by rw [ha]; kernel_rfl
              refine wp_value (w' := w') (v := .pointer (some ⟨b, 0, none⟩)) (by simp [execOp, ev, go_sem]) ?_
              exact ⟨v60, (.pointer (some ⟨b, 0, none⟩)), v62, v63, v64, v65, v66, v67, v68, v69, nb, a8, n8, c8, by rw [ha]; kernel_rfl, hC.imp_left .inr, hB.imp_left .inr, fun h => e0 (h.resolve_left (by decide)), fun _ => rfl, fun h => e2 (h.resolve_left (by decide)), fun h => e3 (h.resolve_left (by decide)), fun h => e4 (h.resolve_left (by decide)), fun h => e5 (h.resolve_left (by decide)), fun h => e6 (h.resolve_left (by decide)), fun h => e7 (h.resolve_left (by decide)), fun h => e8 (h.resolve_left (by decide)), fun h => e9 (h.resolve_left (by decide)), fun h => hQ (h.resolve_left (by decide)), fun h h' => hLit (h.resolve_left (by decide)) (fun k => h' (.inr k)), fun h h' => hA (h.resolve_left (by decide)) (fun k => h' (.inr k))⟩
            | 2, ho =>
              cases Option.some.inj ho
              have ev : a.tmps[61]?.getD undef = .pointer (some ⟨b, 0, none⟩) := by rw [ha, e1 (hd ⟨1, .data⟩ (by simp) rfl)]; kernel_rfl
              refine wp_value (w' := w') (v := .pointer (some ⟨b, 0, none⟩)) (by simp [execOp, ev, go_sem]) ?_
              exact ⟨v60, v61, (.pointer (some ⟨b, 0, none⟩)), v63, v64, v65, v66, v67, v68, v69, nb, a8, n8, c8, by rw [ha]; kernel_rfl, hC.imp_left .inr, hB.imp_left .inr, fun h => e0 (h.resolve_left (by decide)), fun h => e1 (h.resolve_left (by decide)), fun _ => rfl, fun h => e3 (h.resolve_left (by decide)), fun h => e4 (h.resolve_left (by decide)), fun h => e5 (h.resolve_left (by decide)), fun h => e6 (h.resolve_left (by decide)), fun h => e7 (h.resolve_left (by decide)), fun h => e8 (h.resolve_left (by decide)), fun h => e9 (h.resolve_left (by decide)), fun h => hQ (h.resolve_left (by decide)), fun h h' => hLit (h.resolve_left (by decide)) (fun k => h' (.inr k)), fun h h' => hA (h.resolve_left (by decide)) (fun k => h' (.inr k))⟩
            | 3, ho =>
              cases Option.some.inj ho
              have ev : a.tmps[62]?.getD undef = .pointer (some ⟨b, 0, none⟩) := by rw [ha, e2 (hd ⟨2, .data⟩ (by simp) rfl)]; kernel_rfl
              refine wp_value (w' := w') (v := .pointer (some ⟨b, 3, none⟩)) (by simp [execOp, ev, go_sem]) ?_
              exact ⟨v60, v61, v62, (.pointer (some ⟨b, 3, none⟩)), v64, v65, v66, v67, v68, v69, nb, a8, n8, c8, by rw [ha]; kernel_rfl, hC.imp_left .inr, hB.imp_left .inr, fun h => e0 (h.resolve_left (by decide)), fun h => e1 (h.resolve_left (by decide)), fun h => e2 (h.resolve_left (by decide)), fun _ => rfl, fun h => e4 (h.resolve_left (by decide)), fun h => e5 (h.resolve_left (by decide)), fun h => e6 (h.resolve_left (by decide)), fun h => e7 (h.resolve_left (by decide)), fun h => e8 (h.resolve_left (by decide)), fun h => e9 (h.resolve_left (by decide)), fun h => hQ (h.resolve_left (by decide)), fun h h' => hLit (h.resolve_left (by decide)) (fun k => h' (.inr k)), fun h h' => hA (h.resolve_left (by decide)) (fun k => h' (.inr k))⟩
            | 4, ho =>
              cases Option.some.inj ho
              have ev : a.tmps[63]?.getD undef = .pointer (some ⟨b, 3, none⟩) := by rw [ha, e3 (hd ⟨3, .data⟩ (by simp) rfl)]; kernel_rfl
              have hb := hC.resolve_left (fun h => (fun h => hn (hcl 7 _ rfl h ⟨4, .data⟩ (by simp) rfl)) (hcl 10 _ rfl h ⟨7, .data⟩ (by simp) rfl))
              have hcc := (rt_cells (hb.trans XB)).2.2.2.1
              refine wp_value (w' := w') (v := .slice a5 m5 cap5) (by simp [execOp, ev, go_sem, hcc]) ?_
              exact ⟨v60, v61, v62, v63, (.slice a5 m5 cap5), v65, v66, v67, v68, v69, nb, a8, n8, c8, by rw [ha]; kernel_rfl, hC.imp_left .inr, hB.imp_left .inr, fun h => e0 (h.resolve_left (by decide)), fun h => e1 (h.resolve_left (by decide)), fun h => e2 (h.resolve_left (by decide)), fun h => e3 (h.resolve_left (by decide)), fun _ => rfl, fun h => e5 (h.resolve_left (by decide)), fun h => e6 (h.resolve_left (by decide)), fun h => e7 (h.resolve_left (by decide)), fun h => e8 (h.resolve_left (by decide)), fun h => e9 (h.resolve_left (by decide)), fun h => hQ (h.resolve_left (by decide)), fun h h' => hLit (h.resolve_left (by decide)) (fun k => h' (.inr k)), fun h h' => hA (h.resolve_left (by decide)) (fun k => h' (.inr k))⟩
            | 5, ho =>
              cases Option.some.inj ho
              have ev : a.tmps[5]?.getD undef = .pointer (some ⟨b5, 0, none⟩) := by rw [ha]; kernel_rfl
              have hb := hB.resolve_left (fun h => (fun h => hn (hcl 6 _ rfl h ⟨5, .data⟩ (by simp) rfl)) (hcl 7 _ rfl h ⟨6, .data⟩ (by simp) rfl))
              have q0 := (hb.cell (p := ⟨b5, 0, none⟩) (lt_of_cell x0)).trans x0
              have q1 := (hb.cell (p := ⟨b5, 1, none⟩) (lt_of_cell x1)).trans x1
              refine wp_value (w' := w') (v := .agg #[.int .i64 c, .slice xa xn xc]) (by simp [execOp, ev, go_sem, q0, q1]) ?_
              exact ⟨v60, v61, v62, v63, v64, (.agg #[.int .i64 c, .slice xa xn xc]), v66, v67, v68, v69, nb, a8, n8, c8, by rw [ha]; kernel_rfl, hC.imp_left .inr, hB.imp_left .inr, fun h => e0 (h.resolve_left (by decide)), fun h => e1 (h.resolve_left (by decide)), fun h => e2 (h.resolve_left (by decide)), fun h => e3 (h.resolve_left (by decide)), fun h => e4 (h.resolve_left (by decide)), fun _ => rfl, fun h => e6 (h.resolve_left (by decide)), fun h => e7 (h.resolve_left (by decide)), fun h => e8 (h.resolve_left (by decide)), fun h => e9 (h.resolve_left (by decide)), fun h => hQ (h.resolve_left (by decide)), fun h h' => hLit (h.resolve_left (by decide)) (fun k => h' (.inr k)), fun h h' => hA (h.resolve_left (by decide)) (fun k => h' (.inr k))⟩
            | 6, ho =>
              cases Option.some.inj ho
              have ev : a.tmps[65]?.getD undef = .agg #[.int .i64 c, .slice xa xn xc] := by rw [ha, e5 (hd ⟨5, .data⟩ (by simp) rfl)]; kernel_rfl
              refine wp_value (w' := w'.alloc (.cells #[.int .i64 c, .slice xa xn xc] 29)) (v := .slice (some ⟨w'.heap.size, 0, none⟩) 1 1) (by simp [execOp, ev, go_sem]) ?_
              exact ⟨v60, v61, v62, v63, v64, v65, (.slice (some ⟨w'.heap.size, 0, none⟩) 1 1), v67, v68, v69, w'.heap.size, a8, n8, c8, by rw [ha]; kernel_rfl, hC.imp .inr (fun h => (box_below.block b (lt_of_block (h.trans XB))).trans h), hB.imp .inr (fun h => below_size h h.size box_below), fun h => e0 (h.resolve_left (by decide)), fun h => e1 (h.resolve_left (by decide)), fun h => e2 (h.resolve_left (by decide)), fun h => e3 (h.resolve_left (by decide)), fun h => e4 (h.resolve_left (by decide)), fun h => e5 (h.resolve_left (by decide)), fun _ => rfl, fun h => e7 (h.resolve_left (by decide)), fun h => e8 (h.resolve_left (by decide)), fun h => e9 (h.resolve_left (by decide)), fun h => absurd (h.resolve_left (by decide)) (fun h => (fun h => hn (hcl 7 _ rfl h ⟨6, .data⟩ (by simp) rfl)) (hcl 10 _ rfl h ⟨7, .data⟩ (by simp) rfl)), fun _ _ => lit2 (w := w') (t := 29), fun h _ => absurd (h.resolve_left (by decide)) (fun h => hn (hcl 7 _ rfl h ⟨6, .data⟩ (by simp) rfl))⟩
            | 7, ho =>
              cases Option.some.inj ho
              have ev : a.tmps[64]?.getD undef = .slice a5 m5 cap5 := by rw [ha, e4 (hd ⟨4, .data⟩ (by simp) rfl)]; kernel_rfl
              have ev' : a.tmps[66]?.getD undef = .slice (some ⟨nb, 0, none⟩) 1 1 := by rw [ha, e6 (hd ⟨6, .data⟩ (by simp) rfl)]; kernel_rfl
              have hb := hB.resolve_left hn
              have hL := hLit (hd ⟨6, .data⟩ (by simp) rfl) hn
              obtain ⟨iet, hi, hz, hs, hbb⟩ := info_parts Try.info29
              obtain ⟨a8', n8', c8', w6, hr6, hO6, hG, hP⟩ := app_row w' 32 32 29 Try.underlying32 hi hz hs hbb rfl (by decide) (by decide) (own_below own hb) nb [.int .i64 c, .slice xa xn xc] rfl hL (by intro u hu; simp at hu; rcases hu with rfl | rfl <;> rfl) hlen (Nat.zero_le _)
              refine Lib.wp_append_run w' (.tmp 64) (.tmp 66) 32 32 rfl _ _ (by simpa [Act.eval] using ev) (by simpa [Act.eval] using ev') _ w6 hr6 ?_
              exact ⟨v60, v61, v62, v63, v64, v65, v66, (.slice a8' n8' c8'), v68, v69, nb, a8', n8', c8', by rw [ha]; kernel_rfl, hC.imp .inr (fun h => (hG.block b (lt_of_block (h.trans XB)) (fun e => hne e.symm)).trans h), .inl (.inl rfl), fun h => e0 (h.resolve_left (by decide)), fun h => e1 (h.resolve_left (by decide)), fun h => e2 (h.resolve_left (by decide)), fun h => e3 (h.resolve_left (by decide)), fun h => e4 (h.resolve_left (by decide)), fun h => e5 (h.resolve_left (by decide)), fun h => e6 (h.resolve_left (by decide)), fun _ => rfl, fun h => e8 (h.resolve_left (by decide)), fun h => e9 (h.resolve_left (by decide)), fun h => absurd (h.resolve_left (by decide)) (fun h => hn (hcl 10 _ rfl h ⟨7, .data⟩ (by simp) rfl)), fun _ h' => absurd (.inl rfl) h', fun _ _ => ⟨w', hb, hG, hO6, hP⟩⟩
            | 8, ho =>
              cases Option.some.inj ho
              have ev : a.tmps[60]?.getD undef = .pointer (some ⟨b, 0, none⟩) := by rw [ha, e0 (hd ⟨0, .data⟩ (by simp) rfl)]; kernel_rfl
              refine wp_value (w' := w') (v := .pointer (some ⟨b, 0, none⟩)) (by simp [execOp, ev, go_sem]) ?_
              exact ⟨v60, v61, v62, v63, v64, v65, v66, v67, (.pointer (some ⟨b, 0, none⟩)), v69, nb, a8, n8, c8, by rw [ha]; kernel_rfl, hC.imp_left .inr, hB.imp_left .inr, fun h => e0 (h.resolve_left (by decide)), fun h => e1 (h.resolve_left (by decide)), fun h => e2 (h.resolve_left (by decide)), fun h => e3 (h.resolve_left (by decide)), fun h => e4 (h.resolve_left (by decide)), fun h => e5 (h.resolve_left (by decide)), fun h => e6 (h.resolve_left (by decide)), fun h => e7 (h.resolve_left (by decide)), fun _ => rfl, fun h => e9 (h.resolve_left (by decide)), fun h => hQ (h.resolve_left (by decide)), fun h h' => hLit (h.resolve_left (by decide)) (fun k => h' (.inr k)), fun h h' => hA (h.resolve_left (by decide)) (fun k => h' (.inr k))⟩
            | 9, ho =>
              cases Option.some.inj ho
              have ev : a.tmps[68]?.getD undef = .pointer (some ⟨b, 0, none⟩) := by rw [ha, e8 (hd ⟨8, .data⟩ (by simp) rfl)]; kernel_rfl
              refine wp_value (w' := w') (v := .pointer (some ⟨b, 3, none⟩)) (by simp [execOp, ev, go_sem]) ?_
              exact ⟨v60, v61, v62, v63, v64, v65, v66, v67, v68, (.pointer (some ⟨b, 3, none⟩)), nb, a8, n8, c8, by rw [ha]; kernel_rfl, hC.imp_left .inr, hB.imp_left .inr, fun h => e0 (h.resolve_left (by decide)), fun h => e1 (h.resolve_left (by decide)), fun h => e2 (h.resolve_left (by decide)), fun h => e3 (h.resolve_left (by decide)), fun h => e4 (h.resolve_left (by decide)), fun h => e5 (h.resolve_left (by decide)), fun h => e6 (h.resolve_left (by decide)), fun h => e7 (h.resolve_left (by decide)), fun h => e8 (h.resolve_left (by decide)), fun _ => rfl, fun h => hQ (h.resolve_left (by decide)), fun h h' => hLit (h.resolve_left (by decide)) (fun k => h' (.inr k)), fun h h' => hA (h.resolve_left (by decide)) (fun k => h' (.inr k))⟩
            | 10, ho =>
              cases Option.some.inj ho
              have ev : a.tmps[69]?.getD undef = .pointer (some ⟨b, 3, none⟩) := by rw [ha, e9 (hd ⟨9, .data⟩ (by simp) rfl)]; kernel_rfl
              have ev' : a.tmps[67]?.getD undef = .slice a8 n8 c8 := by rw [ha, e7 (hd ⟨7, .data⟩ (by simp) rfl)]; kernel_rfl
              have hb := hC.resolve_left hn
              have hfr := rt_frozen (hb.trans XB) 3
              have hcc := (rt_cells (hb.trans XB)).2.2.2.1
              have hA' := hA (hd ⟨7, .data⟩ (by simp) rfl) hn
              refine wp_skip (w' := w'.setCell ⟨b, 3, none⟩ (.slice a8 n8 c8)) (by simp [execOp, ev, ev', go_sem, hfr, hcc]) ?_
              exact ⟨v60, v61, v62, v63, v64, v65, v66, v67, v68, v69, nb, a8, n8, c8, by rw [ha]; kernel_rfl, .inl (.inl rfl), .inl (.inr (hd ⟨7, .data⟩ (by simp) rfl)), fun h => e0 (h.resolve_left (by decide)), fun h => e1 (h.resolve_left (by decide)), fun h => e2 (h.resolve_left (by decide)), fun h => e3 (h.resolve_left (by decide)), fun h => e4 (h.resolve_left (by decide)), fun h => e5 (h.resolve_left (by decide)), fun h => e6 (h.resolve_left (by decide)), fun h => e7 (h.resolve_left (by decide)), fun h => e8 (h.resolve_left (by decide)), fun h => e9 (h.resolve_left (by decide)), fun _ => ⟨w', hb, rfl, hA'⟩, fun _ h' => absurd (.inr (hd ⟨7, .data⟩ (by simp) rfl)) h', fun _ h' => absurd (.inl rfl) h'⟩
            | i + 11, ho => simp at ho
          case done =>
            rintro D a w' ⟨v60, v61, v62, v63, v64, v65, v66, v67, v68, v69, nb, a8, n8, c8, ha, hC, hB, e0, e1, e2, e3, e4, e5, e6, e7, e8, e9, hQ, hLit, hA⟩ hall
            obtain rfl := e0 (hall 0 (by decide))
            obtain rfl := e1 (hall 1 (by decide))
            obtain rfl := e2 (hall 2 (by decide))
            obtain rfl := e3 (hall 3 (by decide))
            obtain rfl := e4 (hall 4 (by decide))
            obtain rfl := e5 (hall 5 (by decide))
            obtain rfl := e6 (hall 6 (by decide))
            obtain rfl := e7 (hall 7 (by decide))
            obtain rfl := e8 (hall 8 (by decide))
            obtain rfl := e9 (hall 9 (by decide))
            obtain ⟨w6, u1, rfl, wp, p1, p2, p3, p4⟩ := hQ (hall 10 (by decide))
            clear hC hB hLit hA hQ hall e0 e1 e2 e3 e4 e5 e6 e7 e8 e9
            rw [ha]
            clear ha
            simp only [Act.put, List.setIfInBounds_toArray, List.set_cons_zero, List.set_cons_succ]
            have XBs := rt_set3 (u1.trans XB) (.slice a8 n8 c8)
            obtain ⟨v0, v1, v2, v3, v4⟩ := rt_cells XBs
            have vf := rt_frozen XBs 1
            have oth3 : (w6.setCell ⟨b, 3, none⟩ (.slice a8 n8 c8)).heap[b3]? = some (recB c (.slice ra n cap) 29) := by
              rw [heap_setCell_other w6 ⟨b, 3, none⟩ b3 _ (by show b3 ≠ b; omega)]
              exact ((p2.block b3 (Nat.lt_of_lt_of_le (lt_of_block' R1.rb) p1.size) (fun e => by have h1 := inT b3 e.symm; have h2 := h.lt b3 h1; omega)).trans (p1.block b3 (lt_of_block' R1.rb))).trans R1.rb
            obtain ⟨k0, k1⟩ := rec_cells oth3
            have oth5 := heap_setCell_other w6 ⟨b, 3, none⟩ b5 (.slice a8 n8 c8) (show b5 ≠ b by omega)
            have hcl : ∀ w9, w9 = (w6.setCell ⟨b, 3, none⟩ (.slice a8 n8 c8)).setCell ⟨b, 1, none⟩ (.int .i64 c) → ∃ U', RTb w9 U' b (appU u c xs) (k + 1) ∧ Grow U U' w w9 ∧ Fr U w w9 := fun w9 e9 => by
              rw [em5'.out, ex5.out] at p3
              have own' := own
              rw [ex5.out] at own'
              exact R1.done hin.out hin.out h.lt h.own kc XB X5 hrs.out (by rw [← em5'.out]; exact own') inT hch hB0 kfew h.ge0.1 (by have := hr.size; omega) u1 p1 p2 p3 p4 e9
            replace hcl : Hid _ := hcl
            clear R1 XB X5 own inT hch u1 p1 p2 p3 p4 x0 x1 y0 y1 hin em5' ex5 hrs oth5 XBs
            have e2 : Hid (rapplyT u c xs = appU u c xs) := by show rapplyT u c xs = _; unfold rapplyT; rw [if_pos e1.out]
            generalize hw7 : w6.setCell ⟨b, 3, none⟩ (.slice a8 n8 c8) = w7 at *
            go_wp2
            go_ret
            refine ⟨by rw [e1.out]; rfl, ?_⟩
            rw [e2.out]
            exact hcl.out _ rfl
end Go.Proofs.Ytajdelinfkodbaa
