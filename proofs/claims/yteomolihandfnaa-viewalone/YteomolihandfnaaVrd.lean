/- View.Read. -/
import Derived.Test.YteomolihandfnaaVwd
namespace Go.Proofs.Yteomolihandfnaa
open Go.RowKit
set_option maxRecDepth 100000
/-- What a call on a view leaves. -/
def VwP (w : World) (V Q : Nat → Prop) (b tb : Nat) (v : Vw) (w' : World) : Prop := ∃ V' Q', Vb w' V' Q' b tb v ∧ Grow V V' w w' ∧ Grow Q Q' w w' ∧ Fr V w w'
theorem Vb.reads {w wA w' : World} {V Q : Nat → Prop} {b tb mb : Nat} {v : Vw} {om : Option Nat} {F : Int → Option Value} {rd : Int → Bool} (h : Vb w V Q b tb v) (hO : OwM w V Q om v.own) (hsz : w.heap.size ≤ wA.heap.size) (hos : wA.os = w.os ∧ wA.tape = w.tape ∧ wA.output = w.output) (hk : ∀ g, g < w.heap.size → g ≠ b → wA.heap[g]? = w.heap[g]?) (hblk : wA.heap[b]? = some (viewB tb v.base (some mb) om v.made)) (hmb : V mb ∨ w.heap.size ≤ mb) (hom : om ≠ some mb) (hM : IsMap w' mb F) (hF : ∀ k, rd k = (F k).isSome) (hg : wA.grownBy w' (some mb)) (hnb : b ≠ mb) :
    VwP w V Q b tb ⟨v.base, rd, v.own, v.made⟩ w' := by
  have lb := h.lt b (.inl h.own)
  have kk : ∀ g, g < w.heap.size → g ≠ b → g ≠ mb → w'.heap[g]? = w.heap[g]? := fun g h1 h2 h3 => (hg.block g (Nat.lt_of_lt_of_le h1 hsz) (fun e => h3 (Option.some.inj e))).trans (hk g h1 h2)
  have hQb : ∀ g, Q g → g ≠ b ∧ g ≠ mb := fun g hq => ⟨fun e => h.dis g hq (e ▸ h.own), fun e => by
    rcases hmb with z | z
    · exact h.dis g hq (e ▸ z)
    · have := h.lt g (.inr hq); omega⟩
  have hbl' : w'.heap[b]? = some (viewB tb v.base (some mb) om v.made) := (hg.block b (Nat.lt_of_lt_of_le lb hsz) (fun e => hnb (Option.some.inj e))).trans hblk
  refine ⟨fun g => V g ∨ g = mb, Q, ⟨⟨some mb, om, hbl', ⟨F, hM, .inr rfl, hF⟩, hO.same (fun _ h => .inl h) (fun _ h => h) (fun m e => ?_) (fun g hq => kk g (h.lt g (.inr hq)) (hQb g hq).1 (hQb g hq).2), fun m e => by cases e; exact hom⟩, .inl h.own, fun g hg' => ?_, fun g hq e => ?_, fun g cur e hv hh => ?_, h.made0, h.good⟩, ⟨fun _ h => .inl h, fun g hg' => ?_⟩, ⟨fun _ h => h, fun _ h => .inl h⟩, ⟨hg.os.trans hos.1, hg.tape.trans hos.2.1, hg.output.trans hos.2.2, Nat.le_trans hsz hg.size, fun g hg' hn => kk g hg' (fun e => hn (e ▸ h.own)) (fun e => ?_)⟩⟩
  · obtain ⟨z1, es, c, z2⟩ := hO.in_ e
    refine kk m (lt_of_block' z2) (fun e' => ?_) (fun e' => hom (e' ▸ e))
    obtain ⟨_, _, hb0, _, _⟩ := h.blk
    rw [e', hb0] at z2
    cases z2
  · have h1 := hg.size
    rcases hg' with (hg' | rfl) | hg'
    · have := h.lt g (.inl hg'); omega
    · exact hM.lt
    · have := h.lt g (.inr hg'); omega
  · rcases e with e | e
    · exact h.dis g hq e
    · exact (hQb g hq).2 e
  · rcases hv with hv | rfl
    · by_cases e1 : g = b
      · rw [e1, hbl'] at hh
        unfold viewB at hh
        cases hh
        rfl
      · by_cases e2 : g = mb
        · subst e2
          exact absurd rfl (hM.noCells hh)
        · exact h.ty g cur e hv (by rw [← kk g (h.lt g (.inl hv)) e1 e2]; exact hh)
    · exact absurd rfl (hM.noCells hh)
  · rcases hg' with hg' | rfl
    · exact .inl hg'
    · rcases hmb with z | z
      · exact .inl z
      · exact .inr ⟨z, hM.lt⟩
  · rcases hmb with z | z
    · exact hn (e ▸ z)
    · omega
set_option maxHeartbeats 2000000 in
theorem read_any {w : World} {V Q : Nat → Prop} {b tb : Nat} {v : Vw} (h : Vb w V Q b tb v) (k : Int) :
    Calls Try.prog 29 #[.pointer (some ⟨b, 0, none⟩), .int .i64 k] w fun e w' => e = .returned (.tuple #[]) ∧ VwP w V Q b tb (readV v k) w' := by
  by_cases hk : 1 ≤ k ∧ k ≤ 4096
  · have er : readV v k = ⟨v.base, fun i => v.reads i || decide (i = k), v.own, v.made⟩ := by unfold readV; rw [if_pos hk]
    rw [er]
    clear er
    obtain ⟨hk1, hk2⟩ := hk
    obtain ⟨rm, om, hblk, hR, hO, hom⟩ := h.blk
    replace hom : Hid _ := hom
    obtain ⟨x0, x1, x2, x3, x4⟩ := view_cells hblk
    have xf := view_frozen hblk 2
    have hem := fun (r : Option Nat) (w : World) => run_eql_map_nil (P := Try.prog) w 80 2 101 r Try.underlying80
    have hmm := @run_makeMap Try.prog
    cases rm with
    | none =>
      have lb := h.lt b (.inl h.own)
      have eA := view_set2 ((Below.heap_alloc w (.map #[] 0) b lb).trans hblk) (some w.heap.size)
      obtain ⟨y0, y1, y2, y3, y4⟩ := view_cells eA
      have g2 : (w.alloc (.map #[] 0)).cell? ⟨b, 2, none⟩ = some (.map none) := ((box_below (o := .map #[] 0)).cell (p := ⟨b, 2, none⟩) lb).trans x2
      have gf : (w.alloc (.map #[] 0)).frozen? ⟨b, 2, none⟩ = false := view_frozen ((Below.heap_alloc w _ b lb).trans hblk) 2
      have kA : ∀ g, g < w.heap.size → g ≠ b → ((w.alloc (.map #[] 0)).setCell ⟨b, 2, none⟩ (.map (some w.heap.size))).heap[g]? = w.heap[g]? := fun g hg hne => (heap_setCell_other _ ⟨b, 2, none⟩ g _ hne).trans (Below.heap_alloc w _ g hg)
      have mA : IsMap ((w.alloc (.map #[] 0)).setCell ⟨b, 2, none⟩ (.map (some w.heap.size))) w.heap.size (fun _ => none) := (IsMap.made w).same (heap_setCell_other _ ⟨b, 2, none⟩ _ _ (by show w.heap.size ≠ b; omega))
      have sA : w.heap.size ≤ ((w.alloc (.map #[] 0)).setCell ⟨b, 2, none⟩ (.map (some w.heap.size))).heap.size := by simp
      have BA : Below 0 w ((w.alloc (.map #[] 0)).setCell ⟨b, 2, none⟩ (.map (some w.heap.size))) := ((Below.refl 0 w).alloc (Nat.zero_le _) _).setCell (p := ⟨b, 2, none⟩) (Nat.zero_le _) _
      obtain ⟨w7, hr7, M7, g7⟩ := mA.update (P := Try.prog) (t := 80) Try.underlying80 Try.underlying2 k (.agg #[])
      have fin := h.reads (rd := fun i => v.reads i || decide (i = k)) hO sA ⟨BA.os, BA.tape, BA.output⟩ kA eA (.inr (Nat.le_refl _)) (fun e => by obtain ⟨_, es, c, z⟩ := hO.in_ e; have := lt_of_block' z; omega) M7 (fun i => by
        rw [show v.reads i = false from hR i]
        by_cases e : i = k <;> simp [e]) g7 (by omega)
      replace fin : Hid _ := fin
      clear mA BA sA kA eA hR hO M7 g7 lb
      go_enter Try.func29, Try.ntmps29
      go_wp2
      go_end0
      exact ⟨rfl, fin.out⟩
    | some mb =>
      obtain ⟨F, hM, hV, hF⟩ := hR
      obtain ⟨w7, hr7, M7, g7⟩ := hM.update (P := Try.prog) (t := 80) Try.underlying80 Try.underlying2 k (.agg #[])
      have hnb : b ≠ mb := hM.noCells (by unfold viewB at hblk; exact hblk)
      have fin := h.reads (rd := fun i => v.reads i || decide (i = k)) hO (Nat.le_refl _) ⟨rfl, rfl, rfl⟩ (fun _ _ _ => rfl) hblk (.inl hV) (hom.out mb rfl) M7 (fun i => by
        rw [hF i]
        by_cases e : i = k <;> simp [e]) g7 hnb
      replace fin : Hid _ := fin
      clear hM hO M7 g7 hF
      go_enter Try.func29, Try.ntmps29
      go_wp2
      go_end0
      exact ⟨rfl, fin.out⟩
  · have er : readV v k = v := by unfold readV; rw [if_neg hk]
    rw [er]
    clear er
    have fin : Hid (VwP w V Q b tb v w) := ⟨V, Q, h, Grow.refl _ _, Grow.refl _ _, Fr.refl _ _⟩
    by_cases h1 : k < 1
    · clear hk
      go_enter Try.func29, Try.ntmps29
      go_wp2
      refine bodyPost_ret (results_none rfl _ _ _) rfl ?_
      exact ⟨rfl, fin.out⟩
    · have h2 : 4096 < k := by omega
      clear hk
      go_enter Try.func29, Try.ntmps29
      go_wp2
      refine bodyPost_ret (results_none rfl _ _ _) rfl ?_
      exact ⟨rfl, fin.out⟩
end Go.Proofs.Yteomolihandfnaa
