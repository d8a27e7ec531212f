/- math/bits.Len64 as this program bears it: how many bits a number has. -/
import Derived.Test.YtjfaflmmanjjbaaRows
import Derived.WalkKit
import Derived.WalkSpells
import Derived.WalkLawsBesides
import Derived.Lib.BitFns
import Derived.Test.YtjfaflmmanjjbaaMath
namespace Go.Proofs.Ytjfaflmmanjjbaa
open Go.RowKit
set_option maxRecDepth 100000

theorem tab_get (y : Nat) (h : y < Lib.len8tab.size) : ((Lib.len8tab[y]'h).toNat : Int) = (Lib.bitLen y : Int) := by
  have hs := Lib.len8tab_size
  have e := Lib.len8_eq ⟨y, by omega⟩
  rw [← e]
  unfold Lib.len8
  simp [h]

theorem len_close (x y : Int) (k : Nat) (hx0 : 0 ≤ x) (hx1 : x ≤ 18446744073709551615) (hy0 : 0 ≤ y) (hy : y < 256) (hk : k ≤ 56)
    (he : y.toNat = x.toNat / 2 ^ k) (hs : k = 0 ∨ 2 ^ k ≤ x.toNat) (h : y.toNat < Lib.len8tab.size) :
    wrap64 ((k : Int) + wrap64 ((Lib.len8tab[y.toNat]'h).toNat : Int)) = (Lib.bitLen x.toNat : Int) := by
  rw [tab_get]
  have l := Lib.bitLen_le8 ⟨y.toNat, by omega⟩
  simp only at l
  have e : Lib.bitLen x.toNat = k + Lib.bitLen y.toNat := by
    rw [he]
    rcases hs with rfl | hs
    · simp
    · exact Lib.bitLen_shift k x.toNat hs (by omega)
  rw [e]
  have w1 : wrap64 (Lib.bitLen y.toNat : Int) = (Lib.bitLen y.toNat : Int) := by unfold wrap64; omega
  rw [w1]
  unfold wrap64; omega

set_option maxHeartbeats 4000000 in
set_option maxRecDepth 100000 in
theorem len64_any (x : Int) (w : World) (h0 : 0 ≤ x) (h1 : x ≤ 18446744073709551615) :
    Calls Try.prog 75 #[.int .u64 x] w fun e w' => e = .returned (.int .i64 (Lib.bitLen x.toNat)) ∧ w' = w := by
  have hsz : Lib.len8tab.size = 256 := Lib.len8tab_size
  go_enter Try.func75, Try.ntmps75
  go_wp2
  all_goals (go_ret; refine ⟨congrArg Ending.returned (congrArg (Value.int IntKind.i64) ?_), rfl⟩)
  · exact len_close x _ 56 h0 h1 (by omega) (by omega) (by omega) (by omega) (by omega) _
  · exact len_close x _ 48 h0 h1 (by omega) (by omega) (by omega) (by omega) (by omega) _
  · exact len_close x _ 40 h0 h1 (by omega) (by omega) (by omega) (by omega) (by omega) _
  · exact len_close x _ 32 h0 h1 (by omega) (by omega) (by omega) (by omega) (by omega) _
  · exact len_close x _ 24 h0 h1 (by omega) (by omega) (by omega) (by omega) (by omega) _
  · exact len_close x _ 16 h0 h1 (by omega) (by omega) (by omega) (by omega) (by omega) _
  · exact len_close x _ 8 h0 h1 (by omega) (by omega) (by omega) (by omega) (by omega) _
  · have := len_close x x 0 h0 h1 (by omega) (by omega) (by omega) (by simp) (by omega) (by omega)
    simpa using this

end Go.Proofs.Ytjfaflmmanjjbaa
