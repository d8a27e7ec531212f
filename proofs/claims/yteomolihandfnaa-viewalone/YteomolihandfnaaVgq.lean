/- Read and Get, which take no rows. -/
import Derived.Test.YteomolihandfnaaVkv
import Derived.Test.YteomolihandfnaaSpl
namespace Go.Proofs.Yteomolihandfnaa
open Go.RowKit
set_option maxRecDepth 100000
def VwQ (w : World) (V Q : Nat → Prop) (b tb : Nat) (v : Vw) (w' : World) : Prop := ∃ V', Vb w' V' Q b tb v ∧ Grow V V' w w' ∧ Fr V w w'
theorem Vb.readsQ {w wA w' : World} {V Q : Nat → Prop} {b tb mb : Nat} {v : Vw} {om : Option Nat} {F : Int → Option Value} {rd : Int → Bool} (h : Vb w V Q b tb v) (hO : OwM w V Q om v.own) (hsz : w.heap.size ≤ wA.heap.size) (hos : wA.os = w.os ∧ wA.tape = w.tape ∧ wA.output = w.output) (hk : ∀ g, g < w.heap.size → g ≠ b → wA.heap[g]? = w.heap[g]?) (hblk : wA.heap[b]? = some (viewB tb v.base (some mb) om v.made)) (hmb : V mb ∨ w.heap.size ≤ mb) (hom : om ≠ some mb) (hM : IsMap w' mb F) (hF : ∀ k, rd k = (F k).isSome) (hg : wA.grownBy w' (some mb)) (hnb : b ≠ mb) :
    VwQ w V Q b tb ⟨v.base, rd, v.own, v.made⟩ w' := by
  have lb := h.lt b (.inl h.own)
  have kk : ∀ g, g < w.heap.size → g ≠ b → g ≠ mb → w'.heap[g]? = w.heap[g]? := fun g h1 h2 h3 => (hg.block g (Nat.lt_of_lt_of_le h1 hsz) (fun e => h3 (Option.some.inj e))).trans (hk g h1 h2)
  have hQb : ∀ g, Q g → g ≠ b ∧ g ≠ mb := fun g hq => ⟨fun e => h.dis g hq (e ▸ h.own), fun e => by
    rcases hmb with z | z
    · exact h.dis g hq (e ▸ z)
    · have := h.lt g (.inr hq); omega⟩
  have hbl' : w'.heap[b]? = some (viewB tb v.base (some mb) om v.made) := (hg.block b (Nat.lt_of_lt_of_le lb hsz) (fun e => hnb (Option.some.inj e))).trans hblk
  refine ⟨fun g => V g ∨ g = mb, ⟨⟨some mb, om, hbl', ⟨F, hM, .inr rfl, hF⟩, hO.same (fun _ h => .inl h) (fun _ h => h) (fun m e => ?_) (fun g hq => kk g (h.lt g (.inr hq)) (hQb g hq).1 (hQb g hq).2), fun m e => by cases e; exact hom⟩, .inl h.own, fun g hg' => ?_, fun g hq e => ?_, fun g cur e hv hh => ?_, h.made0, h.good⟩, ⟨fun _ h => .inl h, fun g hg' => ?_⟩, ⟨hg.os.trans hos.1, hg.tape.trans hos.2.1, hg.output.trans hos.2.2, Nat.le_trans hsz hg.size, fun g hg' hn => kk g hg' (fun e => hn (e ▸ h.own)) (fun e => ?_)⟩⟩
  · obtain ⟨z1, es, c, z2⟩ := hO.in_ e
    refine kk m (lt_of_block' z2) (fun e' => ?_) (fun e' => hom (e' ▸ e))
    obtain ⟨_, _, hb0, _, _⟩ := h.blk
    rw [e', hb0] at z2
    cases z2
  · have h1 := hg.size
    rcases hg' with (hg' | rfl) | hg'
    · have := h.lt g (.inl hg'); omega
    · exact hM.lt
    · have := h.lt g (.inr hg'); omega
  · rcases e with e | e
    · exact h.dis g hq e
    · exact (hQb g hq).2 e
  · rcases hv with hv | rfl
    · by_cases e1 : g = b
      · rw [e1, hbl'] at hh
        unfold viewB at hh
        cases hh
        rfl
      · by_cases e2 : g = mb
        · subst e2
          exact absurd rfl (hM.noCells hh)
        · exact h.ty g cur e hv (by rw [← kk g (h.lt g (.inl hv)) e1 e2]; exact hh)
    · exact absurd rfl (hM.noCells hh)
  · rcases hg' with hg' | rfl
    · exact .inl hg'
    · rcases hmb with z | z
      · exact .inl z
      · exact .inr ⟨z, hM.lt⟩
  · rcases hmb with z | z
    · exact hn (e ▸ z)
    · omega
set_option maxHeartbeats 2000000 in
theorem read_anyQ {w : World} {V Q : Nat → Prop} {b tb : Nat} {v : Vw} (h : Vb w V Q b tb v) (k : Int) :
    Calls Try.prog 29 #[.pointer (some ⟨b, 0, none⟩), .int .i64 k] w fun e w' => e = .returned (.tuple #[]) ∧ VwQ w V Q b tb (readV v k) w' := by
  by_cases hk : 1 ≤ k ∧ k ≤ 4096
  · have er : readV v k = ⟨v.base, fun i => v.reads i || decide (i = k), v.own, v.made⟩ := by unfold readV; rw [if_pos hk]
    rw [er]
    clear er
    obtain ⟨hk1, hk2⟩ := hk
    obtain ⟨rm, om, hblk, hR, hO, hom⟩ := h.blk
    replace hom : Hid _ := hom
    obtain ⟨x0, x1, x2, x3, x4⟩ := view_cells hblk
    have xf := view_frozen hblk 2
    have hem := fun (r : Option Nat) (w : World) => run_eql_map_nil (P := Try.prog) w 80 2 101 r Try.underlying80
    have hmm := @run_makeMap Try.prog
    cases rm with
    | none =>
      have lb := h.lt b (.inl h.own)
      have eA := view_set2 ((Below.heap_alloc w (.map #[] 0) b lb).trans hblk) (some w.heap.size)
      obtain ⟨y0, y1, y2, y3, y4⟩ := view_cells eA
      have g2 : (w.alloc (.map #[] 0)).cell? ⟨b, 2, none⟩ = some (.map none) := ((box_below (o := .map #[] 0)).cell (p := ⟨b, 2, none⟩) lb).trans x2
      have gf : (w.alloc (.map #[] 0)).frozen? ⟨b, 2, none⟩ = false := view_frozen ((Below.heap_alloc w _ b lb).trans hblk) 2
      have kA : ∀ g, g < w.heap.size → g ≠ b → ((w.alloc (.map #[] 0)).setCell ⟨b, 2, none⟩ (.map (some w.heap.size))).heap[g]? = w.heap[g]? := fun g hg hne => (heap_setCell_other _ ⟨b, 2, none⟩ g _ hne).trans (Below.heap_alloc w _ g hg)
      have mA : IsMap ((w.alloc (.map #[] 0)).setCell ⟨b, 2, none⟩ (.map (some w.heap.size))) w.heap.size (fun _ => none) := (IsMap.made w).same (heap_setCell_other _ ⟨b, 2, none⟩ _ _ (by show w.heap.size ≠ b; omega))
      have sA : w.heap.size ≤ ((w.alloc (.map #[] 0)).setCell ⟨b, 2, none⟩ (.map (some w.heap.size))).heap.size := by simp
      have BA : Below 0 w ((w.alloc (.map #[] 0)).setCell ⟨b, 2, none⟩ (.map (some w.heap.size))) := ((Below.refl 0 w).alloc (Nat.zero_le _) _).setCell (p := ⟨b, 2, none⟩) (Nat.zero_le _) _
      obtain ⟨w7, hr7, M7, g7⟩ := mA.update (P := Try.prog) (t := 80) Try.underlying80 Try.underlying2 k (.agg #[])
      have fin := h.readsQ (rd := fun i => v.reads i || decide (i = k)) hO sA ⟨BA.os, BA.tape, BA.output⟩ kA eA (.inr (Nat.le_refl _)) (fun e => by obtain ⟨_, es, c, z⟩ := hO.in_ e; have := lt_of_block' z; omega) M7 (fun i => by
        rw [show v.reads i = false from hR i]
        by_cases e : i = k <;> simp [e]) g7 (by omega)
      replace fin : Hid _ := fin
      clear mA BA sA kA eA hR hO M7 g7 lb
      go_enter Try.func29, Try.ntmps29
      go_wp2
      go_end0
      exact ⟨rfl, fin.out⟩
    | some mb =>
      obtain ⟨F, hM, hV, hF⟩ := hR
      obtain ⟨w7, hr7, M7, g7⟩ := hM.update (P := Try.prog) (t := 80) Try.underlying80 Try.underlying2 k (.agg #[])
      have hnb : b ≠ mb := hM.noCells (by unfold viewB at hblk; exact hblk)
      have fin := h.readsQ (rd := fun i => v.reads i || decide (i = k)) hO (Nat.le_refl _) ⟨rfl, rfl, rfl⟩ (fun _ _ _ => rfl) hblk (.inl hV) (hom.out mb rfl) M7 (fun i => by
        rw [hF i]
        by_cases e : i = k <;> simp [e]) g7 hnb
      replace fin : Hid _ := fin
      clear hM hO M7 g7 hF
      go_enter Try.func29, Try.ntmps29
      go_wp2
      go_end0
      exact ⟨rfl, fin.out⟩
  · have er : readV v k = v := by unfold readV; rw [if_neg hk]
    rw [er]
    clear er
    have fin : Hid (VwQ w V Q b tb v w) := ⟨V, h, Grow.refl _ _, Fr.refl _ _⟩
    by_cases h1 : k < 1
    · clear hk
      go_enter Try.func29, Try.ntmps29
      go_wp2
      refine bodyPost_ret (results_none rfl _ _ _) rfl ?_
      exact ⟨rfl, fin.out⟩
    · have h2 : 4096 < k := by omega
      clear hk
      go_enter Try.func29, Try.ntmps29
      go_wp2
      refine bodyPost_ret (results_none rfl _ _ _) rfl ?_
      exact ⟨rfl, fin.out⟩
set_option maxHeartbeats 8000000 in
theorem get_anyQ {w : World} {V Q S R : Nat → Prop} {b tb : Nat} {v : Vw} {t : Tab} (h : Vb w V Q b tb v) (htb : Tb w S R tb t) (hd : ∀ g, S g ∨ R g → ¬ V g) (k : Int) :
    Calls Try.prog 20 #[.pointer (some ⟨b, 0, none⟩), .int .i64 k] w fun e w' => ∃ sa sn sc ba bn bc, e = .returned (.tuple #[.agg #[.int .i64 (clsR (peekR v t k)), .slice sa sn sc, .slice ba bn bc], .int .i64 (errR (peekR v t k))]) ∧ OwnV w' w.heap.size (.slice sa sn sc) (vsR (peekR v t k)) ∧ OwnB w' w.heap.size (.slice ba bn bc) (bsR (peekR v t k)) ∧ VwQ w V Q b tb (readV v k) w' := by
  have E4 := new1 w (objB 0 (.slice none 0 0) (.slice none 0 0))
  have B4 : Below w.heap.size w (w.alloc (objB 0 (.slice none 0 0) (.slice none 0 0))) := box_below
  have h1 := h.below B4
  have ht1 := htb.below B4
  have l4 : w.heap.size ≤ w.heap.size := Nat.le_refl _
  have s4 : w.heap.size < (w.alloc (objB 0 (.slice none 0 0) (.slice none 0 0))).heap.size := by simp
  unfold objB at E4 B4 h1 ht1 s4
  go_enter Try.func20, Try.ntmps20
  go_wp2_with fail
  generalize w.alloc (.cells #[.int .i64 0, .slice none 0 0, .slice none 0 0] 27) = w1 at *
  obtain ⟨b4, hb4⟩ : ∃ q, q = w.heap.size := ⟨_, rfl⟩
  rw [← hb4] at E4 ⊢
  replace l4 : w.heap.size ≤ b4 := Nat.le_of_eq hb4.symm
  replace E4 : w1.heap[b4]? = some (objB 0 (.slice none 0 0) (.slice none 0 0)) := E4
  have e4 : b4 < w1.heap.size := lt_of_block' E4
  have hv4 : ∀ g, V g ∨ Q g → g ≠ b4 := fun g hg e => by have := h.lt g hg; omega
  clear hb4 s4
  refine (read_anyQ h1 k).mono ?_
  rintro e w2 ⟨rfl, V2, k1, k2, k4⟩
  have ht2 : Tb w2 S R tb t := ht1.same k4.size (fun g hg => k4.block g (ht1.sets.lt hg) (hd g hg))
  have F4 : w2.heap[b4]? = some (objB 0 (.slice none 0 0) (.slice none 0 0)) := (k4.block b4 e4 (fun hg => hv4 b4 (.inl hg) rfl)).trans E4
  have hv2 : ∀ g, V2 g ∨ Q g → g ≠ b4 := fun g hg e => by
    rcases hg with hg | hg
    · rcases k2.new g hg with z | ⟨z, _⟩
      · exact hv4 g (.inl z) e
      · omega
    · exact hv4 g (.inr hg) e
  clear E4 ht1
  go_wp2_with fail
  refine (peek_any k1 ht2 k).mono ?_
  rw [readV_peek]
  rintro e w3 ⟨pa, pn, pc, qa, qn, qc, rfl, oV, oB, B3⟩
  have G4 := (B3.block b4 (lt_of_block F4)).trans F4
  obtain ⟨z0, z1, z2, zf⟩ := obj_cells G4
  have I4 := stO_blk G4 (clsR (peekR v t k)) (.slice pa pn pc) (.slice qa qn qc)
  have s12 : w.heap.size ≤ w2.heap.size := Nat.le_trans B4.size k4.size
  have oV3 := ownV_of (stO_own (oV.mono s12).1 G4 (by decide) (clsR (peekR v t k)) (.slice pa pn pc) (.slice qa qn qc)) oV.wf
  have oB3 := ownB_of (stO_own (oB.mono s12).1 G4 (by decide) (clsR (peekR v t k)) (.slice pa pn pc) (.slice qa qn qc)) oB.byte
  have fin : Hid (VwQ w V Q b tb (readV v k) (stO w3 b4 (clsR (peekR v t k)) (.slice pa pn pc) (.slice qa qn qc))) := by
    have Bs : Below 0 w3 (stO w3 b4 (clsR (peekR v t k)) (.slice pa pn pc) (.slice qa qn qc)) := stO_below (Below.refl _ _) (Nat.zero_le _) _ _ _
    have s13 := Nat.le_trans B3.size Bs.size
    have s1 := B4.size
    refine ⟨V2, k1.same s13 (fun g hg => (stO_other (hv2 g hg) _ _ _).trans (B3.block g (k1.lt g hg))), ⟨k2.old, fun g hg => ?_⟩, ⟨Bs.os.trans (B3.os.trans (k4.os.trans B4.os)), Bs.tape.trans (B3.tape.trans (k4.tape.trans B4.tape)), Bs.output.trans (B3.output.trans (k4.output.trans B4.output)), Nat.le_trans s12 s13, fun g hg hn => (stO_other (by omega) _ _ _).trans ((B3.block g (by omega)).trans ((k4.block g (by omega) hn).trans (B4.block g hg)))⟩⟩
    · rcases k2.new g hg with z | ⟨z, z'⟩
      · exact .inl z
      · exact .inr ⟨by omega, by omega⟩
  clear oV oB k1 ht2 F4
  go_wp2
  clear z0 z1 z2 zf
  obtain ⟨z0, z1, z2, zf⟩ := obj_cells I4
  exact bodyPost_ret (v := .tuple #[.agg #[.int .i64 (clsR (peekR v t k)), .slice pa pn pc, .slice qa qn qc], .int .i64 (errR (peekR v t k))]) (results_twoP Try.results20 rfl (load49 z0 z1 z2) rfl) rfl ⟨_, _, _, _, _, _, rfl, oV3, oB3, fin.out⟩
/-- What is kept of the blocks below a place. -/
structure KpN (N : Nat) (w w' : World) : Prop where
  size : w.heap.size ≤ w'.heap.size
  keep : ∀ (g : Nat) (cur : Array Value) (e : Nat), g < N → w.heap[g]? = some (Obj.cells cur e (0, 0)) → e ≠ 83 → w'.heap[g]? = w.heap[g]?
theorem KpN.refl (N : Nat) (w : World) : KpN N w w := ⟨Nat.le_refl _, fun _ _ _ _ _ _ => rfl⟩
theorem KpN.trans {N : Nat} {u v w : World} (h : KpN N u v) (k : KpN N v w) : KpN N u w := ⟨Nat.le_trans h.size k.size, fun g cur e hN hg h1 => (k.keep g cur e hN ((h.keep g cur e hN hg h1).trans hg) h1).trans (h.keep g cur e hN hg h1)⟩
theorem KpV.toN {w w' : World} (h : KpV w w') (N : Nat) : KpN N w w' := ⟨h.size, fun g cur e _ hg h1 => h.keep g cur e hg h1⟩
theorem KpN.ownV {w w' : World} (h : KpN w.heap.size w w') {base : Nat} {v : Value} {vs : List (Int × Int)} (ho : OwnV w base v vs) : OwnV w' base v vs := ho.same fun g hg => by
  obtain ⟨_, cur, hh⟩ := own_block ho.1 hg
  exact h.keep g cur _ (lt_of_block hh) hh (by decide)
theorem KpN.ownB {w w' : World} (h : KpN w.heap.size w w') {base : Nat} {v : Value} {vs : List Int} (ho : OwnB w base v vs) : OwnB w' base v vs := ho.same fun g hg => by
  obtain ⟨_, cur, hh⟩ := own_block ho.1 hg
  exact h.keep g cur _ (lt_of_block hh) hh (by decide)
theorem KpN.obj {w w' : World} (h : KpN w.heap.size w w') {b : Nat} {c : Int} {v1 v2 : Value} (ho : w.heap[b]? = some (objB c v1 v2)) : w'.heap[b]? = some (objB c v1 v2) := by
  unfold objB at ho ⊢
  exact (h.keep b _ _ (lt_of_block ho) ho (by decide)).trans ho
/-- Get of the one view: the answer's rows are nobody's. -/
theorem hw_getQ {W0 W1 w : World} {Y : Nat → Prop} {tb b b2 : Nat} {t : Tab} {v v2 : Vw} (h : Hw W0 W1 Y tb t b v b2 v2 w) (k : Int) :
    Calls Try.prog 20 #[.pointer (some ⟨b, 0, none⟩), .int .i64 k] w fun e w' => ∃ sa sn sc ba bn bc, e = .returned (.tuple #[.agg #[.int .i64 (clsR (peekR v t k)), .slice sa sn sc, .slice ba bn bc], .int .i64 (errR (peekR v t k))]) ∧ OwnV w' w.heap.size (.slice sa sn sc) (vsR (peekR v t k)) ∧ OwnB w' w.heap.size (.slice ba bn bc) (bsR (peekR v t k)) ∧ KpV w w' ∧ ∀ w'', Fr (fun g => (Value.slice sa sn sc).ownBlock = some g ∨ (Value.slice ba bn bc).ownBlock = some g) w' w'' → Hw W0 W1 Y tb t b (readV v k) b2 v2 w'' := by
  obtain ⟨S, R, V, Q, V2, Q2, h1, h2, h3, h4, h5, h6, h7, h8⟩ := h
  refine (get_anyQ h2 h1 (fun g hg q => hg.elim (h5 g q).2.1 (h5 g q).2.2.1) k).mono ?_
  rintro e w' ⟨sa, sn, sc, ba, bn, bc, rfl, o1, o2, V', k1, k2, k4⟩
  refine ⟨sa, sn, sc, ba, bn, bc, rfl, o1, o2, ⟨k4.size, fun g cur e hg he => k4.block g (lt_of_block hg) (fun q => he (h2.ty g cur e q hg))⟩, fun w'' hF => ?_⟩
  have rows : ∀ g, ((Value.slice sa sn sc).ownBlock = some g ∨ (Value.slice ba bn bc).ownBlock = some g) → w.heap.size ≤ g ∧ ∃ cur e, w'.heap[g]? = some (Obj.cells cur e (0, 0)) ∧ e ≠ 83 := fun g hg => by
    rcases hg with hg | hg
    · obtain ⟨z1, cur, z2⟩ := own_block o1.1 hg
      exact ⟨z1, cur, _, z2, by decide⟩
    · obtain ⟨z1, cur, z2⟩ := own_block o2.1 hg
      exact ⟨z1, cur, _, z2, by decide⟩
  have old : ∀ g, g < w.heap.size → w''.heap[g]? = w'.heap[g]? := fun g hg => hF.block g (Nat.lt_of_lt_of_le hg k4.size) (fun q => by have := (rows g q).1; omega)
  have vv : ∀ g, V' g → w''.heap[g]? = w'.heap[g]? := fun g hg => hF.block g (k1.lt g (.inl hg)) (fun q => by
    obtain ⟨_, cur, e, z1, z2⟩ := rows g q
    exact z2 (k1.ty g cur e hg z1))
  have s := h8.size
  have sz := Nat.le_trans k4.size hF.size
  have K1 : Vb w'' V' Q b tb (readV v k) := k1.same hF.size (fun g hg => by
    rcases hg with hg | hg
    · exact vv g hg
    · exact old g (h2.lt g (.inr hg)))
  refine ⟨S, R, V', Q, V2, Q2, h1.same sz (fun g hg => (old g (h1.sets.lt hg)).trans (k4.block g (h1.sets.lt hg) (fun q => hg.elim (h5 g q).2.1 (h5 g q).2.2.1))), K1, h3.same sz (fun g hg => (old g (h3.lt g hg)).trans (k4.block g (h3.lt g hg) (fun q => hg.elim (h5 g q).2.2.2.2.1 (h5 g q).2.2.2.2.2))), h4, fun g hg => ?_, fun g hg => ?_, fun g hg => ⟨Nat.lt_of_lt_of_le (h7 g hg).1 sz, (old g (h7 g hg).1).trans ((k4.block g (h7 g hg).1 (fun q => (h5 g q).2.2.2.1 hg)).trans (h7 g hg).2)⟩, ?_⟩
  · rcases k2.new g hg with z | ⟨z, _⟩
    · exact h5 g z
    · exact ⟨by omega, fun q => by have := h1.sets.lt (.inl q); omega, fun q => by have := h1.sets.lt (.inr q); omega, fun q => by have := (h7 g q).1; omega, fun q => by have := h3.lt g (.inl q); omega, fun q => by have := h3.lt g (.inr q); omega⟩
  · obtain ⟨z1, z2, z3, z4, z5, z6⟩ := h6 g hg
    have lt := h3.lt g (.inl hg)
    refine ⟨z1, z2, z3, z4, fun q => ?_, z6⟩
    rcases k2.new g q with y | ⟨y, _⟩
    · exact z5 y
    · omega
  · have B' : Below W0.heap.size W0 w' := k4.below h8 h8.size (fun g hg => (h5 g hg).1)
    exact ⟨hF.os.trans B'.os, hF.tape.trans B'.tape, hF.output.trans B'.output, Nat.le_trans B'.size hF.size, fun g hg => (old g (by omega)).trans (B'.block g hg)⟩
end Go.Proofs.Yteomolihandfnaa
