/- slices.SortFunc and SortedFunc over transactions, by their commits. -/
import Derived.Shelf.SlSortCmp.WholeK
import Derived.Shelf.SlSortCmp.NoneTotal
import Derived.Test.YtigmpmichhghdaaShelf
import Derived.Test.YtigmpmichhghdaaApq
namespace Go.Proofs.Ytigmpmichhghdaa
open Go.Shelf Go.RowKit Go.Lib Go.Sort
instance : Inhabited Tm := ⟨⟨0, 0, none, 0, 0, none, 0, 0, [], []⟩⟩
set_option maxHeartbeats 1000000 in
theorem isNaN_any (x : Int) (w : World) : Calls Try.prog 50 #[.int .i64 x] w fun e w' => e = .returned (.bool false) ∧ w = w' := by
  go_enter Try.func50, Try.ntmps50
  go_wp2
  go_ret
  exact ⟨by simp, rfl⟩
set_option maxHeartbeats 1000000 in
theorem compare_any (x y : Int) (w : World) : Calls Try.prog 42 #[.int .i64 x, .int .i64 y] w fun e w' => e = .returned (.int .i64 (Lib.compareInt x y)) ∧ w = w' := by
  have h1 := isNaN_any x w
  have h2 := isNaN_any y w
  unfold Lib.compareInt
  go_enter Try.func42, Try.ntmps42
  go_wp2_with fail
  refine h1.mono ?_
  rintro e w' ⟨rfl, rfl⟩
  go_wp2_with fail
  refine h2.mono ?_
  rintro e w' ⟨rfl, rfl⟩
  by_cases h1 : x < y
  · go_wp2
    go_ret
    exact ⟨rfl, rfl⟩
  · by_cases h2 : y < x
    · go_wp2
      go_ret
      exact ⟨rfl, rfl⟩
    · go_wp2
      go_ret
      exact ⟨rfl, rfl⟩
set_option maxHeartbeats 1000000 in
theorem closure41 (x y : Tm) (W : World) : Calls Try.prog 41 #[.agg #[.int .i64 x.base, .int .i64 x.com, .slice x.ra x.rn x.rc, .slice x.wa x.wn x.wc], .agg #[.int .i64 y.base, .int .i64 y.com, .slice y.ra y.rn y.rc, .slice y.wa y.wn y.wc]] W fun e w' => e = .returned (.int .i64 (Lib.compareInt x.com y.com)) ∧ ∃ q os', w' = grow (W.drewN q) os' := by
  have hcon := fun W' => compare_any x.com y.com W'
  generalize Lib.compareInt x.com y.com = r at hcon ⊢
  go_enter Try.func41, Try.ntmps41
  go_wp2_with (go_at_call 42; refine (hcon _).mono ?_; rintro e w' ⟨rfl, rfl⟩)
  go_ret
  exact ⟨rfl, 0, _, by rw [alloc_eq_grow, alloc_eq_grow, grow_grow]; rfl⟩
theorem cmpLays41 (blk off size : Nat) (w : World) : CmpLays Try.prog 41 #[] Tm.cells 4 (fun x y => Lib.compareInt x.com y.com) blk off size w :=
  fun _ _ _ _ x y => closure41 x y _
theorem ltCom (x y : Tm) : ltOf (fun x y : Tm => Lib.compareInt x.com y.com) x y = decide (x.com < y.com) := by
  unfold ltOf Lib.compareInt
  by_cases h1 : x.com < y.com
  · simp [h1]
  · by_cases h2 : y.com < x.com <;> simp [h1, h2]
theorem swoCom : SWO (ltOf fun x y : Tm => Lib.compareInt x.com y.com) where
  irrefl x := by rw [ltCom]; simp
  trans x y z h1 h2 := by rw [ltCom] at *; simp at *; omega
  ntrans x y z h1 h2 := by rw [ltCom] at *; simp at *; omega
theorem get_flatT (ms : List Tm) (t : Nat) (h : t < ms.length * 4) : (flatT ms)[t]? = some ((Tm.cells (ms.toArray[t / 4]!))[t % 4]!) := by
  have h1 : t / 4 < ms.length := by omega
  have h2 : t % 4 < 4 := by omega
  have e := flatT_at ms (t / 4) ms[t / 4] (List.getElem?_eq_getElem h1) (t % 4) h2
  rw [show t / 4 * 4 + t % 4 = t by omega] at e
  rw [e]
  have e2 : ms.toArray[t / 4]! = ms[t / 4] := by simp [h1]
  rw [e2]
  generalize ms[t / 4] = m
  have h3 : t % 4 < m.cells.length := by simpa [Tm.cells] using h2
  rw [List.getElem?_eq_getElem h3, getElem!_pos m.cells (t % 4) h3]
theorem holds_own {w : World} {base c g : Nat} {ms : List Tm} (h : w.ownsRow base 31 4 (.slice (some ⟨g, 0, none⟩) ms.length c) ms.length (flatT ms)) : HoldsK Tm.cells 4 w g 0 ms.toArray := by
  intro t ht
  rw [size_flatK] at ht
  have ht' : t < ms.length * 4 := by simpa using ht
  rw [get_flatK _ _ _ _ ht]
  have hc := World.ownsRow.cells h (g := g) rfl t _ (get_flatT ms t ht')
  rw [addr_add] at hc
  refine ⟨hc, ?_⟩
  obtain ⟨_, cur, hg⟩ := own_block h (g := g) rfl
  unfold World.frozen?
  rw [hg]
  rfl
theorem below_sort {w : World} {n₀ g m : Nat} {d : Array Tm} {os : Array Obj} (h : n₀ ≤ g) (hn : n₀ ≤ w.heap.size) : Below n₀ w (sortWorldK Tm.cells 4 w g 0 m d os) := by
  unfold sortWorldK putRowK putRow mapBlock Sort.ahead grow
  refine ⟨rfl, rfl, rfl, by simp, fun k hk => ?_⟩
  have hk' : k < w.heap.size := by omega
  have hne : g ≠ k := by omega
  simp [Array.getElem?_append, hk', Array.getElem_modify, hne]
/-- Sorted by commits. -/
def SortC (ms : List Tm) : Prop := ∀ (i j : Nat) (x y : Tm), i < j → ms[i]? = some x → ms[j]? = some y → x.com ≤ y.com
set_option maxHeartbeats 1000000 in
theorem sort_any {w : World} {base n c : Nat} {a : Option Addr} {ms : List Tm} (h : w.ownsRow base 31 4 (.slice a n c) ms.length (flatT ms)) (hn : ms.length ≤ 1048576) (hb : base ≤ w.heap.size) :
    Calls Try.prog 48 #[.slice a n c, .func (.func 41) #[] #[]] w fun e w' => e = .returned (.tuple #[]) ∧ ∃ ms', ms'.Perm ms ∧ SortC ms' ∧ n = ms.length ∧ n ≤ c ∧ c ≤ maxLen ∧ (a = none → c = 0) ∧ (0 < n → ∃ b off, a = some ⟨b, off, none⟩ ∧ RowT w' b off ms') ∧ Below base w w' := by
  rcases h.2 with ⟨e, h0⟩ | ⟨g, cap, cur, e, hbg, hgh, hl, hm, hrest⟩
  · have : ms = [] := List.eq_nil_of_length_eq_zero h0
    subst this
    cases e
    have hcon := AnyF.slices_SortFunc_none { Try.sortT with } none 0 (.func (.func 41) #[] #[]) w
    change Calls Try.prog 48 _ _ _ at hcon
    refine hcon.mono ?_
    rintro e w' ⟨rfl, rfl⟩
    exact ⟨rfl, [], List.Perm.refl _, fun i j x y _ hx => by simp at hx, rfl, by decide, by decide, fun _ => rfl, fun h => absurd h (by decide), Below.refl _ _⟩
  · cases e
    have eg : ∀ args w, (callFunc 41 args).run Try.prog w = .ok (.enter 41 args) w := enters_of Try.func41 (by kernel_rfl) rfl
    have hH := holds_own h
    have hgl := lt_of_block hgh
    have hcon := AnyQ.slices_SortFunc Try.sortT 4 Try.isAgg31 Try.sizeOf31 Tm.cells (fun _ => rfl) (fun x => cells_one x) (fun x y => Lib.compareInt x.com y.com) swoCom 41 #[] g 0 c ms.toArray w eg (cmpLays41 g 0 ms.toArray.size w) hH hgl (by simp; omega)
    change Calls Try.prog 48 _ _ _ at hcon
    rw [List.size_toArray] at hcon
    refine hcon.mono ?_
    rintro e w' ⟨rfl, d', q, os, hp, hs, rfl⟩
    have hps : d'.size = ms.length := hp.1.trans List.size_toArray
    have hpp := hp.2.2
    have e1 : (d'.extract 0 ms.length).toList = d'.toList := by rw [← hps]; simp
    have e2 : (ms.toArray.extract 0 ms.length).toList = ms := by simp
    rw [e1, e2] at hpp
    have hK := holdsK_sortWorldK_c (enc := Tm.cells) (k := 4) (w := w) (blk := g) (off := 0) ms.toArray d' q os hH hgl hp.1
    refine ⟨rfl, d'.toList, hpp, fun i j x y hij hx hy => ?_, rfl, hl, hm, by simp, fun _ => ⟨g, 0, rfl, fun i m hm' => ?_⟩, below_sort hbg hb⟩
    · have hj : j < d'.size := by have := (List.getElem?_eq_some_iff.1 hy).1; simpa using this
      have hi : i < d'.size := by omega
      have := hs i j (Nat.zero_le _) hij (by omega)
      rw [ltCom] at this
      rw [getElem!_pos d' i hi, getElem!_pos d' j hj] at this
      rw [Array.getElem?_toList, Array.getElem?_eq_getElem hi] at hx
      rw [Array.getElem?_toList, Array.getElem?_eq_getElem hj] at hy
      cases hx
      cases hy
      simpa using this
    · have hi : i < d'.size := by have := (List.getElem?_eq_some_iff.1 hm').1; simpa using this
      rw [Array.getElem?_toList, Array.getElem?_eq_getElem hi] at hm'
      cases hm'
      have key := fun c (hc : c < 4) => (hK.cell (i := i) (c := c) hi hc).1
      rw [getElem!_pos d' i hi] at key
      exact ⟨key 0 (by decide), key 1 (by decide), key 2 (by decide), key 3 (by decide)⟩
/-- What SortedFunc over a list's values leaves. -/
def SrtP (w : World) (ms : List Tm) (e : Ending) (w' : World) : Prop := ∃ a n c ms', e = .returned (.slice a n c) ∧ ms'.Perm ms ∧ SortC ms' ∧ IsTs w' a n c ms' ∧ Below w.heap.size w w'
set_option maxHeartbeats 1000000 in
theorem sorted_any {w : World} {Bs : Nat} {a : Option Addr} {len cap : Nat} {ms : List Tm} (hBs : Bs < w.heap.size) (hl : len ≤ 1048576) (hc : w.cell? ⟨Bs, 0, none⟩ = some (.slice a len cap)) (hI : IsTs w a len cap ms) :
    Calls Try.prog 39 #[.func (.func 49) #[] #[.pointer (some ⟨Bs, 0, none⟩)], .func (.func 41) #[] #[]] w fun e w' => SrtP w ms e w' := by
  have hs := collect_any hBs hl hc hI
  go_enter Try.func39, Try.ntmps39
  go_wp2_with fail
  refine hs.mono ?_
  rintro e w2 ⟨v, rfl, O, B⟩
  obtain ⟨sa, sn, sc, rfl⟩ : ∃ a n c, v = .slice a n c := by
    rcases O.2 with ⟨rfl, h0⟩ | ⟨g, cap, cur, rfl, _⟩
    · exact ⟨_, _, _, rfl⟩
    · exact ⟨_, _, _, rfl⟩
  have hs2 := sort_any O (by rw [hI.size]; exact hl) B.size
  go_wp2_with fail
  refine hs2.mono ?_
  rintro e w3 ⟨rfl, ms', hp, hso, hn, hl2, hm2, hnil, hcl, B2⟩
  replace hn : Hid (sn = ms.length) := hn
  have B3 := B.trans B2
  clear hs hs2
  go_wp2
  go_ret
  refine ⟨_, _, _, ms', rfl, hp, hso, ⟨by rw [hn.out]; exact hp.length_eq, hl2, hm2, hnil, hcl, fun m hm => ?_⟩, B3⟩
  exact (hI.each m (hp.mem_iff.1 hm)).below B3
end Go.Proofs.Ytigmpmichhghdaa
