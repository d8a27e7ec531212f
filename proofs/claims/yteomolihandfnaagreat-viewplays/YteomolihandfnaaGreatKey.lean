/- slices.Sorted(maps.Keys(m)) of a view's maps. -/
import Derived.Test.YteomolihandfnaaGreatVkv
import Derived.Test.YteomolihandfnaaGreatShelf
import Derived.WalkKit
import Derived.Shelf.Abstract
import Derived.Shelf.RegionOpen
namespace Go.Proofs.YteomolihandfnaaGreat
open Go.RowKit Go.Maps Go.Sort Go.Shelf
set_option maxRecDepth 100000
/-- The keys, rising. -/
def KeysOf (f : Int → Option Value) (ks : List Int) : Prop := ks.Pairwise (fun a b => a < b) ∧ ∀ k, k ∈ ks ↔ f k ≠ none
def Ru : Value → Option (DataW Unit × List MemPlace) := fun _ => some (.nil, [])
theorem lk_iff {k : Int} {L : List (Int × Value × Nat)} : k ∈ L.map (·.1) ↔ lk L k ≠ none := by
  constructor
  · intro h e
    exact lk_mem e h
  · intro h
    cases hl : lk L k with
    | none => exact absurd hl h
    | some v => exact lk_in hl
theorem IsMap.owns {P : Program} {kt : TypeId} (hk : P.underlying kt = some (.int .i64)) {w : World} {b : Nat} {f : Int → Option Value} (h : IsMap w b f) (hd : ∀ k, f k ≠ none → 1 ≤ k ∧ k ≤ 8192) :
    ∃ D : DataW Unit, w.ownsMap P kt Ru b 8192 D ∧ (intKeys D).Nodup ∧ (∀ k, k ∈ intKeys D ↔ f k ≠ none) ∧ Maps.size D ≤ 8192 := by
  obtain ⟨L, c, hb, hn, hf, hq1, hq2⟩ := h
  have hkeys : ∀ k, k ∈ L.map (·.1) → 1 ≤ k ∧ k ≤ 8192 := fun k hkm => hd k (by rw [hf]; exact lk_iff.1 hkm)
  have hlen : L.length ≤ 8192 := by
    have h1 := few 8192 _ hn hkeys
    simpa using h1
  have hwf : ∀ k, k ∈ L.map (·.1) → (Lit.int .i64 k).wf = true := fun k hkm => by
    have := hkeys k hkm
    show (decide (IntKind.min .i64 ≤ k) && decide (k ≤ IntKind.max .i64)) = true
    have e1 : IntKind.min .i64 = -9223372036854775808 := by decide
    have e2 : IntKind.max .i64 = 9223372036854775807 := by decide
    rw [e1, e2]
    simp
    omega
  have hrd : ∀ p ∈ L, WideElems.rd P kt Ru (ent p) = some (.int .i64 p.1, .nil) := fun p hp => by
    have hw := hwf p.1 (List.mem_map_of_mem hp)
    simp [WideElems.rd, ent, keyOf_int_mk hk hw, Ru]
  have hD : (L.map ent).map (WideElems.rg P kt Ru) = L.map (fun p => ((Lit.int .i64 p.1, DataW.nil) : Lit × DataW Unit)) := by
    rw [List.map_map]
    exact List.map_congr_left (fun p hp => WideElems.rg_of (hrd p hp))
  have hperm : (intKeys (DataW.map (((L.map ent).toArray.toList.map (WideElems.rg P kt Ru)).foldr DataW.insert []) : DataW Unit)).Perm (L.map (·.1)) := by
    refine ((WideShapes.sorted_perm _).map _).trans ?_
    simp only [hD, List.map_map]
    exact List.Perm.of_eq (List.map_congr_left (fun p _ => rfl))
  refine ⟨_, ⟨_, c, hb, ⟨?_, ⟨?_, ?_, ?_⟩, ?_⟩, ?_, rfl⟩, hperm.nodup_iff.2 hn, fun k => ?_, ?_⟩
  · simp; unfold maxLen; omega
  · intro x hx
    simp at hx
    obtain ⟨a, b, c', hm, rfl⟩ := hx
    exact hq1 _ hm
  · simp only [List.map_map]
    exact hq2
  · simp only [List.map_map]
    have : (L.map ((fun x => x.key) ∘ ent)) = (L.map (·.1)).map (fun k => Value.int .i64 k) := by simp [ent]
    rw [this]
    refine hn.map _ (fun a b hab e => hab (by injection e))
  · intro x hx
    obtain ⟨p, hp, rfl⟩ := List.mem_map.1 hx
    exact ⟨_, hrd p hp⟩
  · simpa using hlen
  · rw [hperm.mem_iff, hf]
    exact lk_iff
  · show List.length _ ≤ 8192
    have := hperm.length_eq
    unfold intKeys at this
    rw [List.length_map, List.length_map] at this
    rw [this]
    exact hlen
theorem sorted_keysOf {f : Int → Option Value} {ss : List Int} (hn : ss.Nodup) (hm : ∀ k, k ∈ ss ↔ f k ≠ none) : KeysOf f (ss.mergeSort fun x y => decide (x ≤ y)) := by
  have hp := List.mergeSort_perm ss (fun x y => decide (x ≤ y))
  refine ⟨?_, fun k => by rw [hp.mem_iff]; exact hm k⟩
  have h1 := List.pairwise_mergeSort (le := fun x y : Int => decide (x ≤ y)) (fun a b c h h' => by simp at h h' ⊢; omega) (fun a b => by simp; omega) ss
  have h2 : (ss.mergeSort fun x y => decide (x ≤ y)).Nodup := hp.nodup_iff.2 hn
  refine (h1.and h2).imp ?_
  rintro a b ⟨h, h'⟩
  simp at h
  omega
theorem sorts11 (m : Nat) : AnyZI.SortsIn Tryz.prog Tryz.sortedA_ren Fence.wide m :=
  ⟨fun blk off cap ss W hH hblk hsz => callsIn_wide.2 (AnyM.slices_Sort_int Tryz.sortA blk off cap ss W hH hblk hsz),
   fun p cap W => callsIn_wide.2 (AnyM.slices_Sort_int_none Tryz.sortA p cap W)⟩
/-- What slices.Sorted(maps.Keys(m)) tells. -/
def SortP (w : World) (f : Int → Option Value) (e : Ending) (w' : World) : Prop := ∃ (a : Option Addr) (n c : Nat) (ks : List Int), e = .returned (.slice a n c) ∧ n = ks.length ∧ KeysOf f ks ∧ w'.ownsRow w.heap.size 2 1 (.slice a n c) n (ks.map encZ) ∧ Below w.heap.size w w'
theorem own_slice {w : World} {base t k n : Nat} {v : Value} {l : List Value} (h : w.ownsRow base t k v n l) : ∃ a c, v = .slice a n c := by
  rcases h.2 with ⟨rfl, h0⟩ | ⟨g, cap, cur, rfl, _⟩
  · exact ⟨none, 0, by rw [h0]⟩
  · exact ⟨_, _, rfl⟩
theorem keys_callR (n : Nat) (mb : Option Nat) (W : World) : CallsIn Fence.wide n Tryz.prog 54 #[.map mb] W fun e w' => e = .returned (.func (.func 73) #[] #[.pointer (some ⟨W.heap.size, 0, none⟩)]) ∧ w' = W.alloc (.cells #[.map mb] 75) :=
  AnyZI.keys_in Tryz.keysR Fence.wide n trivial rfl mb W
theorem sorted_callR (n : Nat) (hn : 4 ≤ n) {w : World} {Bm b : Nat} {f : Int → Option Value} (hBm : Bm < w.heap.size) (hm : w.cell? ⟨Bm, 0, none⟩ = some (.map (some b))) (h : IsMap w b f) (hd : ∀ k, f k ≠ none → 1 ≤ k ∧ k ≤ 8192) :
    CallsIn Fence.wide n Tryz.prog 53 #[.func (.func 73) #[] #[.pointer (some ⟨Bm, 0, none⟩)]] w (SortP w f) := by
  obtain ⟨D, hown, h1, h2, h3⟩ := h.owns Tryz.underlying2 hd
  have hseq : SeqGives Fence.wide (n - 1 - 1 - 1) Tryz.prog 73 #[.pointer (some ⟨Bm, 0, none⟩)] encZ (fun ss => ss.Perm (intKeys D)) (Maps.size D) w :=
    AnyZI.keys_gives (ρ := Tryz.keysR_ren) { Tryz.keysR with } Fence.wide _ trivial rfl (by omega) Bm b 8192 D w hBm hm hown
  have cS := AnyZI.sorted_in Tryz.sortedA Fence.wide n trivial trivial trivial trivial rfl hn (sorts11 _) (enters_of Tryz.func72 (by kernel_rfl) rfl) 73 #[.pointer (some ⟨Bm, 0, none⟩)] trivial (enters_of Tryz.func73 (by kernel_rfl) rfl) _ _ (by unfold maxLen; omega) (by omega) _ hseq
  change CallsIn _ _ Tryz.prog 53 _ _ _ at cS
  refine cS.mono ?_
  rintro e w' ⟨v, ss, rfl, hS, hrow, _, hb⟩
  obtain ⟨a, c, rfl⟩ := own_slice hrow
  refine ⟨a, _, c, _, rfl, (List.length_mergeSort _).symm, sorted_keysOf (hS.nodup_iff.2 h1) (fun k => by rw [hS.mem_iff]; exact h2 k), hrow, hb⟩
theorem sorted_call_nilR (n : Nat) (hn : 4 ≤ n) {w : World} {Bm : Nat} (hBm : Bm < w.heap.size) (hm : w.cell? ⟨Bm, 0, none⟩ = some (.map none)) :
    CallsIn Fence.wide n Tryz.prog 53 #[.func (.func 73) #[] #[.pointer (some ⟨Bm, 0, none⟩)]] w (SortP w (fun _ => none)) := by
  have hseq : SeqGives Fence.wide (n - 1 - 1 - 1) Tryz.prog 73 #[.pointer (some ⟨Bm, 0, none⟩)] encZ (fun ss : List Int => ss = []) 0 w :=
    AnyZI.keys_gives_nil (ρ := Tryz.keysR_ren) { Tryz.keysR with } Fence.wide _ trivial rfl Bm w hBm hm
  have cS := AnyZI.sorted_in Tryz.sortedA Fence.wide n trivial trivial trivial trivial rfl hn (sorts11 _) (enters_of Tryz.func72 (by kernel_rfl) rfl) 73 #[.pointer (some ⟨Bm, 0, none⟩)] trivial (enters_of Tryz.func73 (by kernel_rfl) rfl) _ 0 (Nat.zero_le _) (by omega) _ hseq
  change CallsIn _ _ Tryz.prog 53 _ _ _ at cS
  refine cS.mono ?_
  rintro e w' ⟨v, ss, rfl, rfl, hrow, _, hb⟩
  obtain ⟨a, c, rfl⟩ := own_slice hrow
  exact ⟨a, _, c, _, rfl, (List.length_mergeSort _).symm, sorted_keysOf (by simp) (by simp), hrow, hb⟩
theorem keys_callO (n : Nat) (mb : Option Nat) (W : World) : CallsIn Fence.wide n Tryz.prog 75 #[.map mb] W fun e w' => e = .returned (.func (.func 88) #[] #[.pointer (some ⟨W.heap.size, 0, none⟩)]) ∧ w' = W.alloc (.cells #[.map mb] 76) :=
  AnyZI.keys_in Tryz.keysO Fence.wide n trivial rfl mb W
theorem sorted_callO (n : Nat) (hn : 4 ≤ n) {w : World} {Bm b : Nat} {f : Int → Option Value} (hBm : Bm < w.heap.size) (hm : w.cell? ⟨Bm, 0, none⟩ = some (.map (some b))) (h : IsMap w b f) (hd : ∀ k, f k ≠ none → 1 ≤ k ∧ k ≤ 8192) :
    CallsIn Fence.wide n Tryz.prog 53 #[.func (.func 88) #[] #[.pointer (some ⟨Bm, 0, none⟩)]] w (SortP w f) := by
  obtain ⟨D, hown, h1, h2, h3⟩ := h.owns Tryz.underlying2 hd
  have hseq : SeqGives Fence.wide (n - 1 - 1 - 1) Tryz.prog 88 #[.pointer (some ⟨Bm, 0, none⟩)] encZ (fun ss => ss.Perm (intKeys D)) (Maps.size D) w :=
    AnyZI.keys_gives (ρ := Tryz.keysO_ren) { Tryz.keysO with } Fence.wide _ trivial rfl (by omega) Bm b 8192 D w hBm hm hown
  have cS := AnyZI.sorted_in Tryz.sortedA Fence.wide n trivial trivial trivial trivial rfl hn (sorts11 _) (enters_of Tryz.func72 (by kernel_rfl) rfl) 88 #[.pointer (some ⟨Bm, 0, none⟩)] trivial (enters_of Tryz.func88 (by kernel_rfl) rfl) _ _ (by unfold maxLen; omega) (by omega) _ hseq
  change CallsIn _ _ Tryz.prog 53 _ _ _ at cS
  refine cS.mono ?_
  rintro e w' ⟨v, ss, rfl, hS, hrow, _, hb⟩
  obtain ⟨a, c, rfl⟩ := own_slice hrow
  refine ⟨a, _, c, _, rfl, (List.length_mergeSort _).symm, sorted_keysOf (hS.nodup_iff.2 h1) (fun k => by rw [hS.mem_iff]; exact h2 k), hrow, hb⟩
theorem sorted_call_nilO (n : Nat) (hn : 4 ≤ n) {w : World} {Bm : Nat} (hBm : Bm < w.heap.size) (hm : w.cell? ⟨Bm, 0, none⟩ = some (.map none)) :
    CallsIn Fence.wide n Tryz.prog 53 #[.func (.func 88) #[] #[.pointer (some ⟨Bm, 0, none⟩)]] w (SortP w (fun _ => none)) := by
  have hseq : SeqGives Fence.wide (n - 1 - 1 - 1) Tryz.prog 88 #[.pointer (some ⟨Bm, 0, none⟩)] encZ (fun ss : List Int => ss = []) 0 w :=
    AnyZI.keys_gives_nil (ρ := Tryz.keysO_ren) { Tryz.keysO with } Fence.wide _ trivial rfl Bm w hBm hm
  have cS := AnyZI.sorted_in Tryz.sortedA Fence.wide n trivial trivial trivial trivial rfl hn (sorts11 _) (enters_of Tryz.func72 (by kernel_rfl) rfl) 88 #[.pointer (some ⟨Bm, 0, none⟩)] trivial (enters_of Tryz.func88 (by kernel_rfl) rfl) _ 0 (Nat.zero_le _) (by omega) _ hseq
  change CallsIn _ _ Tryz.prog 53 _ _ _ at cS
  refine cS.mono ?_
  rintro e w' ⟨v, ss, rfl, rfl, hrow, _, hb⟩
  obtain ⟨a, c, rfl⟩ := own_slice hrow
  exact ⟨a, _, c, _, rfl, (List.length_mergeSort _).symm, sorted_keysOf (by simp) (by simp), hrow, hb⟩
end Go.Proofs.YteomolihandfnaaGreat
