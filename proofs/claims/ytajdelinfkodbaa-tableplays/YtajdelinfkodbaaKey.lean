/- maps.Keys, slices.Sorted, slices.Sort at int64, as this program bears them: contracts that the library proves once, laid by program. -/
import Derived.Shelf.SlIterI.Nil
import Derived.Shelf.SortM.Plain
import Derived.Shelf.SortM.SortNone
import Derived.Test.YtajdelinfkodbaaProg
import Derived.Test.YtajdelinfkodbaaMapI
import Derived.WalkKit
namespace Go.Proofs
open Go.Shelf
def Try.keysA_ren : Go.Shelf.Ren := ⟨fun | 7 => 57 | 10 => 70 | n => n, fun | 23 => 70 | 26 => 2 | 3 => 78 | 28 => 109 | 0 => 0 | 27 => 108 | 33 => 86 | 4 => 4 | n => n, fun | n => n⟩
theorem Try.keysA : Go.Proofs.SlLaysZI.n7 Try.prog Try.keysA_ren := {
  mixed := by kernel_rfl
  f7 := ⟨Try.f57.name, by decide, Try.func57.trans (congrArg some (by kernel_rfl))⟩
  f10 := ⟨Try.f70.name, by decide, Try.func70.trans (congrArg some (by kernel_rfl))⟩
  t0 := Try.underlying0
  a0 := Try.isAgg0
  z0 := Try.sizeOf0
  v0 := Try.zeroValue0
  t4 := Try.underlying4
  a4 := Try.isAgg4
  z4 := Try.sizeOf4
  v4 := Try.zeroValue4
  t23 := Try.underlying70
  a23 := Try.isAgg70
  z23 := Try.sizeOf70
  v23 := Try.zeroValue70
  t26 := Try.underlying2
  a26 := Try.isAgg2
  z26 := Try.sizeOf2
  v26 := Try.zeroValue2
  t27 := Try.underlying108
  a27 := Try.isAgg108
  z27 := Try.sizeOf108
  v27 := Try.zeroValue108
  t28 := Try.underlying109
  a28 := Try.isAgg109
  z28 := Try.sizeOf109
  v28 := Try.zeroValue109
  t33 := Try.underlying86
  a33 := Try.isAgg86
  z33 := Try.sizeOf86
  v33 := Try.zeroValue86 }
def Try.sortedA_ren : Go.Shelf.Ren := ⟨fun | 6 => 56 | 8 => 68 | 9 => 69 | 11 => 77 | 13 => 79 | 12 => 78 | 23 => 89 | 24 => 90 | 14 => 80 | 15 => 81 | 16 => 82 | 17 => 83 | 18 => 84 | 19 => 85 | 20 => 86 | 21 => 87 | 22 => 88 | 25 => 91 | 26 => 92 | 27 => 93 | 28 => 94 | 29 => 95 | 30 => 96 | 31 => 97 | n => n, fun | 26 => 2 | 28 => 109 | 24 => 60 | 0 => 0 | 3 => 3 | 37 => 127 | 48 => 137 | 50 => 139 | 4 => 4 | 40 => 130 | 39 => 129 | 45 => 134 | 5 => 5 | 9 => 9 | 51 => 140 | 55 => 144 | 57 => 146 | 58 => 147 | 33 => 86 | n => n, fun | n => n⟩
theorem Try.sortedA : Go.Proofs.SlLaysZI.n6 Try.prog Try.sortedA_ren := {
  mixed := by kernel_rfl
  f6 := ⟨Try.f56.name, by decide, Try.func56.trans (congrArg some (by kernel_rfl))⟩
  f8 := ⟨Try.f68.name, by decide, Try.func68.trans (congrArg some (by kernel_rfl))⟩
  f11 := ⟨Try.f77.name, by decide, Try.func77.trans (congrArg some (by kernel_rfl))⟩
  t0 := Try.underlying0
  a0 := Try.isAgg0
  z0 := Try.sizeOf0
  v0 := Try.zeroValue0
  t24 := Try.underlying60
  a24 := Try.isAgg60
  z24 := Try.sizeOf60
  v24 := Try.zeroValue60
  t26 := Try.underlying2
  a26 := Try.isAgg2
  z26 := Try.sizeOf2
  v26 := Try.zeroValue2
  t28 := Try.underlying109
  a28 := Try.isAgg109
  z28 := Try.sizeOf109
  v28 := Try.zeroValue109
  i26 := by kernel_rfl }
def Try.sortA_ren : Go.Shelf.Ren := ⟨fun | 5 => 69 | 8 => 79 | 7 => 78 | 19 => 89 | 20 => 90 | 10 => 80 | 11 => 81 | 12 => 82 | 13 => 83 | 14 => 84 | 15 => 85 | 16 => 86 | 17 => 87 | 18 => 88 | 30 => 91 | 31 => 92 | 32 => 93 | 33 => 94 | 34 => 95 | 35 => 96 | 40 => 97 | n => n, fun | 23 => 60 | 25 => 2 | 3 => 3 | 32 => 127 | 22 => 60 | 0 => 0 | 44 => 137 | 46 => 139 | 4 => 4 | 36 => 130 | 35 => 129 | 41 => 134 | 5 => 5 | 9 => 9 | 53 => 140 | 57 => 144 | 63 => 146 | 64 => 147 | n => n, fun | n => n⟩
theorem Try.sortA : Go.Proofs.SlLaysM.n5 Try.prog Try.sortA_ren := {
  mixed := by kernel_rfl
  f5 := ⟨Try.f69.name, by decide, Try.func69.trans (congrArg some (by kernel_rfl))⟩
  f7 := ⟨Try.f78.name, by decide, Try.func78.trans (congrArg some (by kernel_rfl))⟩
  f8 := Try.func79.trans (congrArg some (by kernel_rfl))
  f10 := ⟨Try.f80.name, by decide, Try.func80.trans (congrArg some (by kernel_rfl))⟩
  f11 := ⟨Try.f81.name, by decide, Try.func81.trans (congrArg some (by kernel_rfl))⟩
  f12 := ⟨Try.f82.name, by decide, Try.func82.trans (congrArg some (by kernel_rfl))⟩
  f13 := ⟨Try.f83.name, by decide, Try.func83.trans (congrArg some (by kernel_rfl))⟩
  f14 := ⟨Try.f84.name, by decide, Try.func84.trans (congrArg some (by kernel_rfl))⟩
  f15 := ⟨Try.f85.name, by decide, Try.func85.trans (congrArg some (by kernel_rfl))⟩
  f16 := ⟨Try.f86.name, by decide, Try.func86.trans (congrArg some (by kernel_rfl))⟩
  f17 := ⟨Try.f87.name, by decide, Try.func87.trans (congrArg some (by kernel_rfl))⟩
  f18 := ⟨Try.f88.name, by decide, Try.func88.trans (congrArg some (by kernel_rfl))⟩
  f19 := Try.func89.trans (congrArg some (by kernel_rfl))
  f20 := Try.func90.trans (congrArg some (by kernel_rfl))
  f30 := ⟨Try.f91.name, by decide, Try.func91.trans (congrArg some (by kernel_rfl))⟩
  f31 := Try.func92.trans (congrArg some (by kernel_rfl))
  f32 := Try.func93.trans (congrArg some (by kernel_rfl))
  f33 := ⟨Try.f94.name, by decide, Try.func94.trans (congrArg some (by kernel_rfl))⟩
  f34 := ⟨Try.f95.name, by decide, Try.func95.trans (congrArg some (by kernel_rfl))⟩
  f35 := ⟨Try.f96.name, by decide, Try.func96.trans (congrArg some (by kernel_rfl))⟩
  f40 := ⟨Try.f97.name, by decide, Try.func97.trans (congrArg some (by kernel_rfl))⟩
  t0 := Try.underlying0
  a0 := Try.isAgg0
  z0 := Try.sizeOf0
  v0 := Try.zeroValue0
  t3 := Try.underlying3
  a3 := Try.isAgg3
  z3 := Try.sizeOf3
  v3 := Try.zeroValue3
  t4 := Try.underlying4
  a4 := Try.isAgg4
  z4 := Try.sizeOf4
  v4 := Try.zeroValue4
  t5 := Try.underlying5
  a5 := Try.isAgg5
  z5 := Try.sizeOf5
  v5 := Try.zeroValue5
  t9 := Try.underlying9
  a9 := Try.isAgg9
  z9 := Try.sizeOf9
  v9 := Try.zeroValue9
  t22 := Try.underlying60
  a22 := Try.isAgg60
  z22 := Try.sizeOf60
  v22 := Try.zeroValue60
  t23 := Try.underlying60
  a23 := Try.isAgg60
  z23 := Try.sizeOf60
  v23 := Try.zeroValue60
  t25 := Try.underlying2
  a25 := Try.isAgg2
  z25 := Try.sizeOf2
  v25 := Try.zeroValue2
  t32 := Try.underlying127
  a32 := Try.isAgg127
  z32 := Try.sizeOf127
  v32 := Try.zeroValue127
  t35 := Try.underlying129
  a35 := Try.isAgg129
  z35 := Try.sizeOf129
  v35 := Try.zeroValue129
  t36 := Try.underlying130
  a36 := Try.isAgg130
  z36 := Try.sizeOf130
  v36 := Try.zeroValue130
  t41 := Try.underlying134
  a41 := Try.isAgg134
  z41 := Try.sizeOf134
  v41 := Try.zeroValue134
  t44 := Try.underlying137
  a44 := Try.isAgg137
  z44 := Try.sizeOf137
  v44 := Try.zeroValue137
  t46 := Try.underlying139
  a46 := Try.isAgg139
  z46 := Try.sizeOf139
  v46 := Try.zeroValue139
  t53 := Try.underlying140
  a53 := Try.isAgg140
  z53 := Try.sizeOf140
  v53 := Try.zeroValue140
  t57 := Try.underlying144
  a57 := Try.isAgg144
  z57 := Try.sizeOf144
  v57 := Try.zeroValue144
  t63 := Try.underlying146
  a63 := Try.isAgg146
  z63 := Try.sizeOf146
  v63 := Try.zeroValue146
  t64 := Try.underlying147
  a64 := Try.isAgg147
  z64 := Try.sizeOf147
  v64 := Try.zeroValue147 }
end Go.Proofs
namespace Go.Proofs.Ytajdelinfkodbaa
open Go.RowKit Go.Maps Go.Sort Go.Shelf
set_option maxRecDepth 100000
/-- Not more numbers than there are. -/
theorem few : ∀ (N : Nat) (l : List Int), l.Nodup → (∀ k ∈ l, 1 ≤ k ∧ k ≤ (N : Int)) → l.length ≤ N
  | 0, l, _, h => by
    cases l with
    | nil => simp
    | cons a r => have := h a (by simp); omega
  | N + 1, l, hn, h => by
    by_cases hm : ((N + 1 : Nat) : Int) ∈ l
    · have h1 := few N (l.erase ((N + 1 : Nat) : Int)) (hn.erase _) (fun k hk => by
        rw [hn.mem_erase_iff] at hk
        have h2 := h k hk.2
        have h3 := hk.1
        omega)
      rw [List.length_erase_of_mem hm] at h1
      omega
    · have h1 := few N l hn (fun k hk => by
        have h2 := h k hk
        have h3 : k ≠ ((N + 1 : Nat) : Int) := fun e => hm (e ▸ hk)
        omega)
      omega
/-- The keys, rising. -/
def KeysOf (f : Int → Option Value) (ks : List Int) : Prop := ks.Pairwise (fun a b => a < b) ∧ ∀ k, k ∈ ks ↔ f k ≠ none
def Ru : Value → Option (DataW Unit × List MemPlace) := fun _ => some (.nil, [])
theorem lk_iff {k : Int} {L : List (Int × Value × Nat)} : k ∈ L.map (·.1) ↔ lk L k ≠ none := by
  constructor
  · intro h e
    exact lk_mem e h
  · intro h
    cases hl : lk L k with
    | none => exact absurd hl h
    | some v => exact lk_in hl
theorem IsMap.owns {P : Program} {kt : TypeId} (hk : P.underlying kt = some (.int .i64)) {w : World} {b : Nat} {f : Int → Option Value} (h : IsMap w b f) (hd : ∀ k, f k ≠ none → 1 ≤ k ∧ k ≤ 4096) :
    ∃ D : DataW Unit, w.ownsMap P kt Ru b 4096 D ∧ (intKeys D).Nodup ∧ (∀ k, k ∈ intKeys D ↔ f k ≠ none) ∧ Maps.size D ≤ 4096 := by
  obtain ⟨L, c, hb, hn, hf, hq1, hq2⟩ := h
  have hkeys : ∀ k, k ∈ L.map (·.1) → 1 ≤ k ∧ k ≤ 4096 := fun k hkm => hd k (by rw [hf]; exact lk_iff.1 hkm)
  have hlen : L.length ≤ 4096 := by
    have h1 := few 4096 _ hn hkeys
    simpa using h1
  have hwf : ∀ k, k ∈ L.map (·.1) → (Lit.int .i64 k).wf = true := fun k hkm => by
    have := hkeys k hkm
    show (decide (IntKind.min .i64 ≤ k) && decide (k ≤ IntKind.max .i64)) = true
    have e1 : IntKind.min .i64 = -9223372036854775808 := by decide
    have e2 : IntKind.max .i64 = 9223372036854775807 := by decide
    rw [e1, e2]
    simp
    omega
  have hrd : ∀ p ∈ L, WideElems.rd P kt Ru (ent p) = some (.int .i64 p.1, .nil) := fun p hp => by
    have hw := hwf p.1 (List.mem_map_of_mem hp)
    simp [WideElems.rd, ent, keyOf_int_mk hk hw, Ru]
  have hD : (L.map ent).map (WideElems.rg P kt Ru) = L.map (fun p => ((Lit.int .i64 p.1, DataW.nil) : Lit × DataW Unit)) := by
    rw [List.map_map]
    exact List.map_congr_left (fun p hp => WideElems.rg_of (hrd p hp))
  have hperm : (intKeys (DataW.map (((L.map ent).toArray.toList.map (WideElems.rg P kt Ru)).foldr DataW.insert []) : DataW Unit)).Perm (L.map (·.1)) := by
    refine ((WideShapes.sorted_perm _).map _).trans ?_
    simp only [hD, List.map_map]
    exact List.Perm.of_eq (List.map_congr_left (fun p _ => rfl))
  refine ⟨_, ⟨_, c, hb, ⟨?_, ⟨?_, ?_, ?_⟩, ?_⟩, ?_, rfl⟩, hperm.nodup_iff.2 hn, fun k => ?_, ?_⟩
  · simp; unfold maxLen; omega
  · intro x hx
    simp at hx
    obtain ⟨a, b, c', hm, rfl⟩ := hx
    exact hq1 _ hm
  · simp only [List.map_map]
    exact hq2
  · simp only [List.map_map]
    have : (L.map ((fun x => x.key) ∘ ent)) = (L.map (·.1)).map (fun k => Value.int .i64 k) := by simp [ent]
    rw [this]
    refine hn.map _ (fun a b hab e => hab (by injection e))
  · intro x hx
    obtain ⟨p, hp, rfl⟩ := List.mem_map.1 hx
    exact ⟨_, hrd p hp⟩
  · simpa using hlen
  · rw [hperm.mem_iff, hf]
    exact lk_iff
  · show List.length _ ≤ 4096
    have := hperm.length_eq
    unfold intKeys at this
    rw [List.length_map, List.length_map] at this
    rw [this]
    exact hlen
theorem sorted_keysOf {f : Int → Option Value} {ss : List Int} (hn : ss.Nodup) (hm : ∀ k, k ∈ ss ↔ f k ≠ none) : KeysOf f (ss.mergeSort fun x y => decide (x ≤ y)) := by
  have hp := List.mergeSort_perm ss (fun x y => decide (x ≤ y))
  refine ⟨?_, fun k => by rw [hp.mem_iff]; exact hm k⟩
  have h1 := List.pairwise_mergeSort (le := fun x y : Int => decide (x ≤ y)) (fun a b c h h' => by simp at h h' ⊢; omega) (fun a b => by simp; omega) ss
  have h2 : (ss.mergeSort fun x y => decide (x ≤ y)).Nodup := hp.nodup_iff.2 hn
  refine (h1.and h2).imp ?_
  rintro a b ⟨h, h'⟩
  simp at h
  omega
theorem sorts11 (m : Nat) : AnyZI.SortsIn Try.prog Try.sortedA_ren Fence.wide m :=
  ⟨fun blk off cap ss W hH hblk hsz => callsIn_wide.2 (AnyM.slices_Sort_int Try.sortA blk off cap ss W hH hblk hsz),
   fun p cap W => callsIn_wide.2 (AnyM.slices_Sort_int_none Try.sortA p cap W)⟩
theorem keys_call (n : Nat) (mb : Option Nat) (W : World) : CallsIn Fence.wide n Try.prog 57 #[.map mb] W fun e w' => e = .returned (.func (.func 70) #[] #[.pointer (some ⟨W.heap.size, 0, none⟩)]) ∧ w' = W.alloc (.cells #[.map mb] 70) :=
  AnyZI.keys_in Try.keysA Fence.wide n trivial rfl mb W
/-- What slices.Sorted(maps.Keys(m)) tells. -/
def SortP (w : World) (f : Int → Option Value) (e : Ending) (w' : World) : Prop := ∃ (a : Option Addr) (n c : Nat) (ks : List Int), e = .returned (.slice a n c) ∧ n = ks.length ∧ KeysOf f ks ∧ w'.ownsRow w.heap.size 2 1 (.slice a n c) n (ks.map encZ) ∧ Below w.heap.size w w'
theorem own_slice {w : World} {base t k n : Nat} {v : Value} {l : List Value} (h : w.ownsRow base t k v n l) : ∃ a c, v = .slice a n c := by
  rcases h.2 with ⟨rfl, h0⟩ | ⟨g, cap, cur, rfl, _⟩
  · exact ⟨none, 0, by rw [h0]⟩
  · exact ⟨_, _, rfl⟩
theorem sorted_call (n : Nat) (hn : 4 ≤ n) {w : World} {Bm b : Nat} {f : Int → Option Value} (hBm : Bm < w.heap.size) (hm : w.cell? ⟨Bm, 0, none⟩ = some (.map (some b))) (h : IsMap w b f) (hd : ∀ k, f k ≠ none → 1 ≤ k ∧ k ≤ 4096) :
    CallsIn Fence.wide n Try.prog 56 #[.func (.func 70) #[] #[.pointer (some ⟨Bm, 0, none⟩)]] w (SortP w f) := by
  obtain ⟨D, hown, h1, h2, h3⟩ := h.owns Try.underlying2 hd
  have hseq : SeqGives Fence.wide (n - 1 - 1 - 1) Try.prog 70 #[.pointer (some ⟨Bm, 0, none⟩)] encZ (fun ss => ss.Perm (intKeys D)) (Maps.size D) w :=
    AnyZI.keys_gives (ρ := Try.keysA_ren) { Try.keysA with } Fence.wide _ trivial rfl (by omega) Bm b 4096 D w hBm hm hown
  have cS := AnyZI.sorted_in Try.sortedA Fence.wide n trivial trivial trivial trivial rfl hn (sorts11 _) (enters_of Try.func69 (by kernel_rfl) rfl) 70 #[.pointer (some ⟨Bm, 0, none⟩)] trivial (enters_of Try.func70 (by kernel_rfl) rfl) _ _ (by unfold maxLen; omega) (by omega) _ hseq
  change CallsIn _ _ Try.prog 56 _ _ _ at cS
  refine cS.mono ?_
  rintro e w' ⟨v, ss, rfl, hS, hrow, _, hb⟩
  obtain ⟨a, c, rfl⟩ := own_slice hrow
  refine ⟨a, _, c, _, rfl, (List.length_mergeSort _).symm, sorted_keysOf (hS.nodup_iff.2 h1) (fun k => by rw [hS.mem_iff]; exact h2 k), hrow, hb⟩
theorem sorted_call_nil (n : Nat) (hn : 4 ≤ n) {w : World} {Bm : Nat} (hBm : Bm < w.heap.size) (hm : w.cell? ⟨Bm, 0, none⟩ = some (.map none)) :
    CallsIn Fence.wide n Try.prog 56 #[.func (.func 70) #[] #[.pointer (some ⟨Bm, 0, none⟩)]] w (SortP w (fun _ => none)) := by
  have hseq : SeqGives Fence.wide (n - 1 - 1 - 1) Try.prog 70 #[.pointer (some ⟨Bm, 0, none⟩)] encZ (fun ss : List Int => ss = []) 0 w :=
    AnyZI.keys_gives_nil (ρ := Try.keysA_ren) { Try.keysA with } Fence.wide _ trivial rfl Bm w hBm hm
  have cS := AnyZI.sorted_in Try.sortedA Fence.wide n trivial trivial trivial trivial rfl hn (sorts11 _) (enters_of Try.func69 (by kernel_rfl) rfl) 70 #[.pointer (some ⟨Bm, 0, none⟩)] trivial (enters_of Try.func70 (by kernel_rfl) rfl) _ 0 (Nat.zero_le _) (by omega) _ hseq
  change CallsIn _ _ Try.prog 56 _ _ _ at cS
  refine cS.mono ?_
  rintro e w' ⟨v, ss, rfl, rfl, hrow, _, hb⟩
  obtain ⟨a, c, rfl⟩ := own_slice hrow
  exact ⟨a, _, c, _, rfl, (List.length_mergeSort _).symm, sorted_keysOf (by simp) (by simp), hrow, hb⟩
end Go.Proofs.Ytajdelinfkodbaa
