/- wire.ReadText and the document's own ReadText: the same answer, for all bytes. -/
import Derived.Test.YtjfaflmmanjjbaaText
import Derived.Test.YtjfaflmmanjjbaaReadU
namespace Go.Proofs.Ytjfaflmmanjjbaa
open Go.RowKit
set_option maxRecDepth 100000

theorem rd_ok : ∀ (xs : List Int) (i acc n k : Nat), rd i acc xs = (n, k, 0) → i < k ∧ k ≤ i + xs.length
  | [], i, acc, n, k, h => by simp [rd] at h
  | x :: r, i, acc, n, k, h => by
    unfold rd at h
    split at h
    · simp at h
    · split at h
      · split at h
        · simp at h
        · simp at h; simp; omega
      · have := rd_ok r (i + 1) _ n k h
        simp; omega

/-- What ReadText answers: the bytes, how many were used, the error. -/
def rtx (xs : List Int) : List Int × Nat × Nat :=
  if (rd 0 0 xs).2.2 ≠ 0 then ([], 0, (rd 0 0 xs).2.2)
  else if 60000 < (rd 0 0 xs).1 then ([], 0, 3)
  else if xs.length < (rd 0 0 xs).2.1 + (rd 0 0 xs).1 then ([], 0, 10)
  else ((xs.drop (rd 0 0 xs).2.1).take (rd 0 0 xs).1, (rd 0 0 xs).2.1 + (rd 0 0 xs).1, 0)

theorem readU_to {a : Option Addr} {len cap r1 r2 r3 : Nat} {xs : List Int} {w : World} (h : IsB w a len cap xs) (hr : Hid (rd 0 0 xs = (r1, r2, r3))) :
    Calls Try.prog 76 #[.slice a len cap] w fun e w' => e = .returned (.tuple #[.int .u64 (r1 : Int), .int .i64 (r2 : Int), .int .i64 (r3 : Int)]) ∧ w = w' := by
  refine (readU_any h).mono ?_
  rintro e w' ⟨rfl, rfl⟩
  exact ⟨by rw [hr.out]; rfl, rfl⟩
theorem rreadU_to {a : Option Addr} {len cap r1 r2 r3 : Nat} {xs : List Int} {w : World} (h : IsB w a len cap xs) (hr : Hid (rd 0 0 xs = (r1, r2, r3))) :
    Calls Try.prog 68 #[.slice a len cap] w fun e w' => e = .returned (.tuple #[.int .u64 (r1 : Int), .int .i64 (r2 : Int), .int .i64 (r3 : Int)]) ∧ w = w' := by
  refine (rreadU_any h).mono ?_
  rintro e w' ⟨rfl, rfl⟩
  exact ⟨by rw [hr.out]; rfl, rfl⟩

/-- Where b[k:..] begins. -/
def winA (a : Option Addr) (k cap : Nat) : Option Addr := if cap = k then a else a.map (·.add (k * 1))

theorem run_win (a : Option Addr) (len cap k n : Nat) (w : World) (h : k + n ≤ cap) :
    (Instr.slice 25 (.slice a len cap) (some (.int .i64 (k : Int))) (some (.int .i64 ((k : Int) + (n : Int)))) none).run Try.prog w = .ok (.slice (winA a k cap) n (cap - k)) w := by
  have ht : Try.prog.underlying 25 = some (.slice (Try.prog.elem 25)) := by simp [Program.elem, Try.underlying25]
  have he : Try.prog.elem 25 = 5 := by simp [Program.elem, Try.underlying25]
  have hz : (sizeOf 5).run Try.prog w = .ok 1 w := by
    obtain ⟨i0, hi, hz0, hz1, hz2⟩ := info_parts Try.info5
    simp [sizeOf, typeInfo, hi, hz1]
  rw [run_slice_lh w 25 _ _ _ ht .i64 .i64 _ _ (by omega) (by omega) (by omega), he, hz]
  have e1 : ((k : Int) + (n : Int)).toNat - (k : Int).toNat = n := by omega
  simp only [Result.andThen, sliced, Int.toNat_natCast, winA]
  rw [show ((k : Int) + (n : Int)).toNat - k = n by omega]

theorem IsB.window {w : World} {a : Option Addr} {len cap : Nat} {xs : List Int} (h : IsB w a len cap xs) (k n : Nat) (hk : k + n ≤ len) : IsB w (winA a k cap) n (cap - k) ((xs.drop k).take n) := by
  have hs := h.size
  have hr := h.room
  have hm := h.most
  refine ⟨by simp; omega, by omega, by omega, ?_, fun x hx => h.byte x (List.mem_of_mem_drop (List.mem_of_mem_take hx)), fun h0 => ?_⟩
  · intro hn
    unfold winA at hn
    split at hn
    · omega
    · have : a = none := by cases a <;> simp_all
      have := h.nil0 this
      omega
  · obtain ⟨b, off, rfl, hc⟩ := h.cells (by omega)
    refine ⟨b, off + k, ?_, fun i hi => ?_⟩
    · unfold winA
      rw [if_neg (by omega)]
      simp [Addr.add]
    · rw [Nat.add_assoc, hc (k + i) (by omega)]
      simp [hi]

theorem rtx_err (xs : List Int) (r1 r2 r3 : Nat) (hr : rd 0 0 xs = (r1, r2, r3)) (h : r3 ≠ 0) : rtx xs = ([], 0, r3) := by unfold rtx; rw [hr, if_pos h]
theorem rtx_size (xs : List Int) (r1 r2 : Nat) (hr : rd 0 0 xs = (r1, r2, 0)) (h : 60000 < r1) : rtx xs = ([], 0, 3) := by unfold rtx; rw [hr, if_neg (by simp), if_pos h]
theorem rtx_short (xs : List Int) (r1 r2 : Nat) (hr : rd 0 0 xs = (r1, r2, 0)) (h : ¬ 60000 < r1) (h' : xs.length < r2 + r1) : rtx xs = ([], 0, 10) := by unfold rtx; rw [hr, if_neg (by simp), if_neg h, if_pos h']
theorem rtx_fine (xs : List Int) (r1 r2 : Nat) (hr : rd 0 0 xs = (r1, r2, 0)) (h : ¬ 60000 < r1) (h' : ¬ xs.length < r2 + r1) : rtx xs = ((xs.drop r2).take r1, r2 + r1, 0) := by unfold rtx; rw [hr, if_neg (by simp), if_neg h, if_neg h']

/-- The answers of ReadText as values. -/
def RT (w : World) (base : Nat) (t : List Int × Nat × Nat) (e : Ending) : Prop :=
  ∃ v, e = .returned (.tuple #[v, .int .i64 (t.2.1 : Int), .int .i64 (t.2.2 : Int)]) ∧ OwnB w base v t.1
theorem RT.nil (w : World) (base k : Nat) : RT w base ([], 0, k) (.returned (.tuple #[.slice none 0 0, .int .i64 0, .int .i64 (k : Int)])) :=
  ⟨_, rfl, ownB_of (n := 0) (World.ownsRow_nil _ _ _ _) (by simp)⟩

set_option maxHeartbeats 1000000 in
theorem readT_any {a : Option Addr} {len cap : Nat} {xs : List Int} {w : World} (h : IsB w a len cap xs) (hl : len ≤ 140737488500000) :
    Calls Try.prog 72 #[.slice a len cap] w fun e w' => RT w' w.heap.size (rtx xs) e ∧ Below w.heap.size w w' := by
  obtain ⟨r1, r2, r3, hr⟩ : ∃ r1 r2 r3, Hid (rd 0 0 xs = (r1, r2, r3)) := ⟨_, _, _, rfl⟩
  by_cases h3 : r3 = 0
  · subst h3
    have hk := rd_ok xs 0 0 r1 r2 hr.out
    have hsz := h.size
    by_cases h1 : 60000 < r1
    · have hres : Hid (rtx xs = ([], 0, 3)) := rtx_size xs r1 r2 hr.out h1
      have h1' : (60000 : Int) < (r1 : Int) := by omega
      go_enter Try.func72, Try.ntmps72
      go_wp2_with fail
      refine (readU_to h hr).mono ?_
      rintro e w1 ⟨rfl, rfl⟩
      go_wp2
      go_ret3
      exact ⟨by rw [hres.out]; exact RT.nil _ _ 3, Below.refl _ _⟩
    · have h1' : ¬ (60000 : Int) < (r1 : Int) := by omega
      by_cases h2 : xs.length < r2 + r1
      · have hres : Hid (rtx xs = ([], 0, 10)) := rtx_short xs r1 r2 hr.out h1 h2
        have h2' : (len : Int) < (r2 : Int) + (r1 : Int) := by omega
        go_enter Try.func72, Try.ntmps72
        go_wp2_with fail
        refine (readU_to h hr).mono ?_
        rintro e w1 ⟨rfl, rfl⟩
        go_wp2
        go_ret3
        exact ⟨by rw [hres.out]; exact RT.nil _ _ 10, Below.refl _ _⟩
      · have hres : Hid (rtx xs = ((xs.drop r2).take r1, r2 + r1, 0)) := rtx_fine xs r1 r2 hr.out h1 h2
        have h2' : ¬ (len : Int) < (r2 : Int) + (r1 : Int) := by omega
        have hroom := h.room
        have hw := run_win a len cap r2 r1 w (by omega)
        have hB := h.window r2 r1 (by omega)
        go_enter Try.func72, Try.ntmps72
        go_wp2_with fail
        refine (readU_to h hr).mono ?_
        rintro e w1 ⟨rfl, rfl⟩
        go_wp2_with fail
        refine (clone_any hB (by omega)).mono ?_
        rintro e w1 ⟨v, rfl, hO, hb⟩
        go_wp2
        go_ret3
        exact ⟨by rw [hres.out]; exact ⟨v, by simp, hO⟩, hb⟩
  · have hres : Hid (rtx xs = ([], 0, r3)) := rtx_err xs r1 r2 r3 hr.out h3
    have h3' : ((r3 : Int) != 0) = true := by simp; omega
    go_enter Try.func72, Try.ntmps72
    go_wp2_with fail
    refine (readU_to h hr).mono ?_
    rintro e w1 ⟨rfl, rfl⟩
    go_wp2
    go_ret3
    exact ⟨by rw [hres.out]; exact RT.nil _ _ r3, Below.refl _ _⟩
set_option maxHeartbeats 1000000 in
theorem rreadT_any {a : Option Addr} {len cap : Nat} {xs : List Int} {w : World} (h : IsB w a len cap xs) (hl : len ≤ 140737488500000) :
    Calls Try.prog 74 #[.slice a len cap] w fun e w' => RT w' w.heap.size (rtx xs) e ∧ Below w.heap.size w w' := by
  obtain ⟨r1, r2, r3, hr⟩ : ∃ r1 r2 r3, Hid (rd 0 0 xs = (r1, r2, r3)) := ⟨_, _, _, rfl⟩
  by_cases h3 : r3 = 0
  · subst h3
    have hk := rd_ok xs 0 0 r1 r2 hr.out
    have hsz := h.size
    by_cases h1 : 60000 < r1
    · have hres : Hid (rtx xs = ([], 0, 3)) := rtx_size xs r1 r2 hr.out h1
      have h1' : (60000 : Int) < (r1 : Int) := by omega
      go_enter Try.func74, Try.ntmps74
      go_wp2_with fail
      refine (rreadU_to h hr).mono ?_
      rintro e w1 ⟨rfl, rfl⟩
      go_wp2
      go_ret3
      exact ⟨by rw [hres.out]; exact RT.nil _ _ 3, Below.refl _ _⟩
    · have h1' : ¬ (60000 : Int) < (r1 : Int) := by omega
      by_cases h2 : xs.length < r2 + r1
      · have hres : Hid (rtx xs = ([], 0, 10)) := rtx_short xs r1 r2 hr.out h1 h2
        have h2' : (len : Int) - (r2 : Int) < (r1 : Int) := by omega
        go_enter Try.func74, Try.ntmps74
        go_wp2_with fail
        refine (rreadU_to h hr).mono ?_
        rintro e w1 ⟨rfl, rfl⟩
        go_wp2
        go_ret3
        exact ⟨by rw [hres.out]; exact RT.nil _ _ 10, Below.refl _ _⟩
      · have hres : Hid (rtx xs = ((xs.drop r2).take r1, r2 + r1, 0)) := rtx_fine xs r1 r2 hr.out h1 h2
        have h2' : ¬ (len : Int) - (r2 : Int) < (r1 : Int) := by omega
        have hroom := h.room
        have hw := run_win a len cap r2 r1 w (by omega)
        have hB := h.window r2 r1 (by omega)
        go_enter Try.func74, Try.ntmps74
        go_wp2_with fail
        refine (rreadU_to h hr).mono ?_
        rintro e w1 ⟨rfl, rfl⟩
        go_wp2_with (at_builtin; refine app_bytes _ rfl _ _ rfl w.heap.size _ 0 [] rfl (World.ownsRow_nil _ _ _ _) _ _ _ _ rfl hB (by omega) (by omega) (Nat.le_refl _) ?_)
        intro v w1 hown hb
        rw [← List.map_drop, ← List.map_take] at hown
        have hO := ownB_of hown hB.byte
        clear hown
        obtain ⟨a', c', hv, _⟩ := hO.2
        rw [hv] at hO ⊢
        go_wp2
        go_ret3
        exact ⟨by rw [hres.out]; exact ⟨_, by simp, hO⟩, hb⟩
  · have hres : Hid (rtx xs = ([], 0, r3)) := rtx_err xs r1 r2 r3 hr.out h3
    have h3' : ((r3 : Int) != 0) = true := by simp; omega
    go_enter Try.func74, Try.ntmps74
    go_wp2_with fail
    refine (rreadU_to h hr).mono ?_
    rintro e w1 ⟨rfl, rfl⟩
    go_wp2
    go_ret3
    exact ⟨by rw [hres.out]; exact RT.nil _ _ r3, Below.refl _ _⟩
end Go.Proofs.Ytjfaflmmanjjbaa
