/- Free oops, by the document. -/
import Derived.Test.YtajdelinfkodbaaFre
import Derived.Test.YtajdelinfkodbaaDfg
namespace Go.Proofs.Ytajdelinfkodbaa
open Go.RowKit
set_option maxRecDepth 100000
theorem rd0_size : rd0.size = 4097 ∧ ∀ k, k < 4097 → rd0[k]? = some (.bool false) := by
  have e : rd0.toList = List.replicate 4097 (Value.bool false) := Go.toList_madeCells_one (.bool false) 4097
  refine ⟨by rw [← Array.length_toList, e, List.length_replicate], fun k hk => ?_⟩
  rw [← Array.getElem?_toList, e, List.getElem?_replicate, if_pos hk]
theorem OopP.up {w W w' : World} {ks : List Int} {e : Ending} (h : OopP W ks e w') (hb : Below w.heap.size w W) : OopP w ks e w' := by
  obtain ⟨a, n, c, h1, h2, h3, h4⟩ := h
  exact ⟨a, n, c, h1, h2, own_mono h3 hb.size, below_size hb hb.size h4⟩
def rdL (xs : List Ch) (n : Nat) : Bool := xs.any (fun x => decide (x.oop = (n : Int)))
theorem rdL_snoc (xs : List Ch) (x : Ch) (n : Nat) : rdL (xs ++ [x]) n = (rdL xs n || decide (x.oop = (n : Int))) := by simp [rdL]
def liveL (xs : List Ch) : List Ch := xs.filter (fun x => !x.gone)
def takenB (u : RTf) (n : Nat) : Bool := rdL (liveL u.base) n || u.recs.any (fun r => rdL (liveL r.2) n)
def rfreeP (u : RTf) (k : Int) : Bool := !takenB u k.toNat
/-- While the taken ones are marked. -/
structure TkQ (w1 : World) (tb : Nat) (rd : Nat → Bool) (wr : World) : Prop where
  row : RdR wr tb rd
  fr : Fr (fun g => g = tb) w1 wr
theorem TkQ.below {w1 wr w' : World} {tb : Nat} {rd : Nat → Bool} (h : TkQ w1 tb rd wr) (hb : Below wr.heap.size wr w') : TkQ w1 tb rd w' := by
  obtain ⟨cur, h1, h2, h3⟩ := h.row.row
  exact ⟨⟨cur, (hb.block tb (lt_of_block h1)).trans h1, h2, h3⟩, h.fr.trans (Fr.of_below (S := fun g => g = tb) hb) (fun _ _ q => q)⟩
theorem TkQ.set {w1 wr : World} {tb : Nat} {rd : Nat → Bool} (h : TkQ w1 tb rd wr) (k : Nat) : TkQ w1 tb (fun i => rd i || decide (i = k)) (wr.setCell ⟨tb, k, none⟩ (.bool true)) := by
  refine ⟨h.row.set k, h.fr.trans (S1 := fun g => g = tb) ⟨?_, ?_, ?_, ?_, fun g _ hg => heap_setCell_other wr ⟨tb, k, none⟩ g _ hg⟩ (fun _ _ q => q)⟩
  · exact ((Below.refl 0 wr).setCell (p := ⟨tb, k, none⟩) (Nat.zero_le _) _).os
  · exact ((Below.refl 0 wr).setCell (p := ⟨tb, k, none⟩) (Nat.zero_le _) _).tape
  · exact ((Below.refl 0 wr).setCell (p := ⟨tb, k, none⟩) (Nat.zero_le _) _).output
  · simp
theorem TkQ.ext {w1 wr : World} {tb : Nat} {rd rd' : Nat → Bool} (h : TkQ w1 tb rd wr) (he : ∀ n, rd n = rd' n) : TkQ w1 tb rd' wr := by
  have : rd = rd' := funext he
  rw [← this]
  exact h
theorem OwnD.fr {w w' : World} {base tb : Nat} {v : Value} {xs : List Ch} (h : OwnD w base v xs) (hf : Fr (fun g => g = tb) w w') (hb : tb < base) : OwnD w' base v xs := by
  obtain ⟨ss, h1, h2, h3, h4⟩ := h
  refine ⟨ss, own_same h1 (fun g hg => ?_), h2, fun s hs => (h3 s hs).same (fun _ h => h) (fun g hg hgb => hf.block g hg (fun e => ?_)), h4⟩
  · obtain ⟨q, cur, hh⟩ := own_block h1 hg
    exact hf.block g (lt_of_block hh) (fun e => by omega)
  · have hgb' : base ≤ g := hgb
    omega
set_option maxHeartbeats 16000000 in
theorem rfree_any {w : World} {U : Nat → Prop} {b k : Nat} {u : RTf} (h : RTb w U b u k) (ho : OkW u) (hk : k ≤ 1000) (hoks0 : ∀ r ∈ u.recs, r.2.length ≤ 4096) : Calls Try.prog 31 #[.pointer (some ⟨b, 0, none⟩), .int .i64 3] w (OopP w (fr3 (rfreeP u))) := by
  obtain ⟨p, hp⟩ : ∃ p, Hid (rfreeP u = p) := ⟨_, rfl⟩
  rw [hp.out]
  obtain ⟨bv, lv, wv, hblk, hB, hL, _⟩ := h.blk
  obtain ⟨ba, bn, bc, rfl, hbn⟩ := hB.shape
  obtain ⟨la, ln, lc, rfl, hln⟩ := hL.shape
  have hoks : Hid (∀ r ∈ u.recs, r.2.length ≤ 4096) := hoks0
  clear hoks0
  have hfl : ln ≤ 1000 := by have := h.few.1; omega
  have hbl := h.lt b h.own
  have hlu := h.lt
  replace hln : Hid _ := hln
  clear hbn
  have hbfew : Hid (u.base.length ≤ 4096) := rise_few ho.v.b ho.v.ok.rb
  have hmk := rd0_make w
  have B1 : Below w.heap.size w (w.alloc (.cells rd0 4)) := box_below
  have R1 : RdR (w.alloc (.cells rd0 4)) w.heap.size (fun _ => false) := ⟨rd0, new1 _ _, rd0_size.1, fun k hk => rd0_size.2 k hk⟩
  have X1 := (B1.block b hbl).trans hblk
  obtain ⟨y0, y1, y2, y3, y4⟩ := rt_cells X1
  have hB1 : ChT (w.alloc (.cells rd0 4)) U (.slice ba bn bc) u.base := hB.same (fun _ h => h) (fun g hg _ => B1.block g hg)
  go_enter Try.func31, Try.ntmps31
  go_wp2_with fail
  clear hmk
  generalize w.alloc (.cells rd0 4) = w1 at *
  obtain ⟨tb, htb⟩ : ∃ q, q = w.heap.size := ⟨_, rfl⟩
  rw [← htb] at R1 ⊢
  have hlt1 : tb < w1.heap.size := by obtain ⟨cur, q, _⟩ := R1.row; exact lt_of_block q
  have T1 : TkQ w1 tb (fun _ => false) w1 := ⟨R1, Fr.refl _ _⟩
  replace htb : Hid _ := htb
  clear R1
  have hbase : ∀ wr, Fr (fun g => g = tb) w1 wr → Below w.heap.size w wr := fun wr q => q.below B1 B1.size (fun g hg => by rw [hg, htb.out]; exact Nat.le_refl _)
  replace hbase : Hid _ := hbase
  refine (live_any hB1 ho.gb (by have := hbfew.out; omega)).mono ?_
  rintro e w2 ⟨va, vn, vc, rfl, hvn, q1, q2⟩
  have T2 := T1.below q2
  replace q1 : OwnD w2 w1.heap.size (.slice va vn vc) (liveL u.base) := q1
  replace hvn : Hid (vn = (liveL u.base).length) := hvn
  have hvl : vn ≤ 4096 := by have := hvn.out; have := hbfew.out; have := List.length_filter_le (fun x : Ch => !x.gone) u.base; unfold liveL at *; omega
  have hinB : Hid (∀ x ∈ liveL u.base, 1 ≤ x.oop ∧ x.oop ≤ 4096) := fun x hx => ho.v.b x (List.mem_filter.1 hx).1
  clear T1 y0 y1 y2 y3 y4 X1 hB1 q2
  go_wp2
  go_loopw [7] (fun iv wr => ∃ j : Nat, j ≤ vn ∧ iv = .int .i64 (j : Int) ∧ TkQ w1 tb (fun n => rdL ((liveL u.base).take j) n) wr ∧ Fr (fun g => g = tb) w2 wr) (fun iv _ => vn - (intOf iv).toNat)
  case atStart => exact ⟨0, by omega, rfl, T2.ext (fun n => by simp [rdL]), Fr.refl _ _⟩
  case round =>
    obtain ⟨j, hj, rfl, TQ, F0⟩ := hrel
    by_cases hlt : j < vn
    · have hji : (j : Int) < (vn : Int) := by omega
      obtain ⟨cb, s, rfl, hcb0, hcb, hcl, hxj, hxb⟩ := q1.at_ j (by have := hvn.out; omega)
      have hne : cb ≠ tb := by omega
      have hkc : wr.heap[cb]? = w2.heap[cb]? := F0.block cb hcb hne
      have d0 : wr.cell? ⟨cb, j * 5, none⟩ = some (.int .i64 s.x.oop) := by rw [cell_eq' hkc]; exact hcl 0 _ rfl
      obtain ⟨n0, hn0⟩ : ∃ n : Nat, s.x.oop = (n : Int) := ⟨s.x.oop.toNat, by have := hinB.out s.x (List.mem_of_getElem? hxj.out); omega⟩
      have hn1 : n0 < 4097 := by have := hinB.out s.x (List.mem_of_getElem? hxj.out); omega
      have hn2 : (n0 : Int) < 4097 := by omega
      rw [hn0] at d0
      obtain ⟨t0, tf⟩ := TQ.row.at_ hn1
      have TQ8 : TkQ w1 tb (fun n => rdL ((liveL u.base).take (j + 1)) n) (wr.setCell ⟨tb, n0, none⟩ (.bool true)) := (TQ.set n0).ext (fun n => by
        rw [take_at hxj.out, rdL_snoc, hn0, show (decide ((n0 : Int) = (n : Int))) = decide (n = n0) from decide_eq_decide.2 (by omega)]
        )
      have F8 : Fr (fun g => g = tb) w2 (wr.setCell ⟨tb, n0, none⟩ (.bool true)) := F0.trans (S1 := fun g => g = tb) ⟨((Below.refl 0 wr).setCell (p := ⟨tb, n0, none⟩) (Nat.zero_le _) _).os, ((Below.refl 0 wr).setCell (p := ⟨tb, n0, none⟩) (Nat.zero_le _) _).tape, ((Below.refl 0 wr).setCell (p := ⟨tb, n0, none⟩) (Nat.zero_le _) _).output, by simp, fun g _ hg => heap_setCell_other wr ⟨tb, n0, none⟩ g _ hg⟩ (fun _ _ q => q)
      replace TQ8 : Hid _ := TQ8
      replace F8 : Hid _ := F8
      replace hn0 : Hid _ := hn0
      clear TQ F0 hkc
      go_wp2
      go_roundw
      case rel => exact ⟨j + 1, by omega, by go_num, TQ8.out, F8.out⟩
      case measure => simp [intOf]; omega
    · have hji : ¬ (j : Int) < (vn : Int) := by omega
      have hall : (liveL u.base).take j = liveL u.base := List.take_of_length_le (by have := hvn.out; omega)
      rw [hall] at TQ
      clear hall
      go_wp2
      clear q1 hvn hvl hinB T2
      go_loopw [8] (fun iv wr => ∃ i : Nat, i ≤ ln ∧ iv = .int .i64 (i : Int) ∧ TkQ w1 tb (fun n => rdL (liveL u.base) n || (u.recs.take i).any (fun r => rdL (liveL r.2) n)) wr) (fun iv _ => ln - (intOf iv).toNat)
      case atStart => exact ⟨0, by omega, rfl, TQ.ext (fun n => by simp)⟩
      case round =>
        clear TQ F0
        obtain ⟨i, hi, rfl, TQ⟩ := hrel
        have BW : Below w.heap.size w wr := hbase.out wr TQ.fr
        obtain ⟨y0, y1, y2, y3, y4⟩ := rt_cells ((BW.block b hbl).trans hblk)
        by_cases hlt2 : i < ln
        · have hii : (i : Int) < (ln : Int) := by omega
          obtain ⟨rb, com, ra, rn, rc, xs, rfl, hrb, r0, r1, hC, hrn, hrj⟩ := hL.atT i (by have := hln.out; omega)
          have d1 : wr.cell? ⟨rb, i * 2 + 1, none⟩ = some (.slice ra rn rc) := (BW.cell hrb).trans r1
          have hCw : ChT wr U (.slice ra rn rc) xs := hC.same (fun _ h => h) (fun g hg _ => BW.block g hg)
          clear hrn
          have hrm := List.mem_of_getElem? hrj.out
          have hgx : ∀ x ∈ xs, okCh x.gone x.cls x.vs x.bs = true := ho.gr _ hrm
          have hinX0 : InK xs := ho.v.r _ hrm
          have hfx : Hid (xs.length ≤ 4096) := hoks.out _ hrm
          go_wp2_with fail
          refine (live_any hCw hgx (by have := hfx.out; omega)).mono ?_
          rintro e w3 ⟨va, vn, vc, rfl, hvn, q1, q2⟩
          have T3 := TQ.below q2
          replace q1 : OwnD w3 wr.heap.size (.slice va vn vc) (liveL xs) := q1
          replace hvn : Hid (vn = (liveL xs).length) := hvn
          have hvl : vn ≤ 4096 := by have := hvn.out; have := hfx.out; have := List.length_filter_le (fun x : Ch => !x.gone) xs; unfold liveL at *; omega
          have hinX : Hid (∀ x ∈ liveL xs, 1 ≤ x.oop ∧ x.oop ≤ 4096) := fun x hx => hinX0 x (List.mem_filter.1 hx).1
          have hltw : tb < wr.heap.size := by have := TQ.fr.size; omega
          clear TQ BW y0 y1 y2 y3 y4 d1 hCw hgx hinX0 hrm q2
          go_wp2
          go_loopw [10] (fun iv wr => ∃ j : Nat, j ≤ vn ∧ iv = .int .i64 (j : Int) ∧ TkQ w1 tb (fun n => (rdL (liveL u.base) n || (u.recs.take i).any (fun r => rdL (liveL r.2) n)) || rdL ((liveL xs).take j) n) wr ∧ Fr (fun g => g = tb) w3 wr) (fun iv _ => vn - (intOf iv).toNat)
          case atStart => exact ⟨0, by omega, rfl, T3.ext (fun n => by simp [rdL]), Fr.refl _ _⟩
          case round =>
            obtain ⟨j, hj, rfl, TQ, F0⟩ := hrel
            by_cases hlt : j < vn
            · have hji : (j : Int) < (vn : Int) := by omega
              obtain ⟨cb, s, rfl, hcb0, hcb, hcl, hxj, hxb⟩ := q1.at_ j (by have := hvn.out; omega)
              have hne : cb ≠ tb := by omega
              have hkc : wr.heap[cb]? = w3.heap[cb]? := F0.block cb hcb hne
              have d0 : wr.cell? ⟨cb, j * 5, none⟩ = some (.int .i64 s.x.oop) := by rw [cell_eq' hkc]; exact hcl 0 _ rfl
              obtain ⟨n0, hn0⟩ : ∃ n : Nat, s.x.oop = (n : Int) := ⟨s.x.oop.toNat, by have := hinX.out s.x (List.mem_of_getElem? hxj.out); omega⟩
              have hn1 : n0 < 4097 := by have := hinX.out s.x (List.mem_of_getElem? hxj.out); omega
              have hn2 : (n0 : Int) < 4097 := by omega
              rw [hn0] at d0
              obtain ⟨t0, tf⟩ := TQ.row.at_ hn1
              have TQ8 : TkQ w1 tb (fun n => (rdL (liveL u.base) n || (u.recs.take i).any (fun r => rdL (liveL r.2) n)) || rdL ((liveL xs).take (j + 1)) n) (wr.setCell ⟨tb, n0, none⟩ (.bool true)) := (TQ.set n0).ext (fun n => by
                rw [take_at hxj.out, rdL_snoc, hn0, ← Bool.or_assoc]
                congr 1; exact decide_eq_decide.2 (by omega))
              have F8 : Fr (fun g => g = tb) w3 (wr.setCell ⟨tb, n0, none⟩ (.bool true)) := F0.trans (S1 := fun g => g = tb) ⟨((Below.refl 0 wr).setCell (p := ⟨tb, n0, none⟩) (Nat.zero_le _) _).os, ((Below.refl 0 wr).setCell (p := ⟨tb, n0, none⟩) (Nat.zero_le _) _).tape, ((Below.refl 0 wr).setCell (p := ⟨tb, n0, none⟩) (Nat.zero_le _) _).output, by simp, fun g _ hg => heap_setCell_other wr ⟨tb, n0, none⟩ g _ hg⟩ (fun _ _ q => q)
              replace TQ8 : Hid _ := TQ8
              replace F8 : Hid _ := F8
              replace hn0 : Hid _ := hn0
              clear TQ F0 hkc
              go_wp2
              go_roundw
              case rel => exact ⟨j + 1, by omega, by go_num, TQ8.out, F8.out⟩
              case measure => simp [intOf]; omega
            · have hji : ¬ (j : Int) < (vn : Int) := by omega
              have hall : (liveL xs).take j = liveL xs := List.take_of_length_le (by have := hvn.out; omega)
              rw [hall] at TQ
              clear hall
              have TQ9 : TkQ w1 tb (fun n => rdL (liveL u.base) n || (u.recs.take (i + 1)).any (fun r => rdL (liveL r.2) n)) wr := TQ.ext (fun n => by rw [take_at hrj.out, List.any_append, ← Bool.or_assoc]; simp)
              clear TQ F0
              go_wp2
              go_roundw
              case rel => exact ⟨i + 1, by omega, by go_num, TQ9⟩
              case measure => simp [intOf]; omega
        · have hii : ¬ (i : Int) < (ln : Int) := by omega
          have hall : u.recs.take i = u.recs := List.take_of_length_le (by have := hln.out; omega)
          rw [hall] at TQ
          clear hall BW
          have hfin : Below w.heap.size w wr := hbase.out wr TQ.fr
          obtain ⟨cur, k1, k2, k3⟩ := TQ.row.row
          have RR : RdR wr tb (takenB u) := TQ.row
          have htl := lt_of_block k1
          have up : Hid (∀ e w', OopP wr (fr3 p) e w' → OopP w (fr3 p) e w') := fun e w' q => q.up hfin
          clear TQ k1 k2 k3 hfin
          generalize wr = wz at *
          go_wp2
          go_loopw [11, 12] (fun ov iv wr => ∃ (k : Nat) (oa : Option Addr) (on oc : Nat), k ≤ 4096 ∧ iv = .int .i64 ((k : Int) + 1) ∧ ov = .slice oa on oc ∧ Hid (on = (frK p k).length) ∧ FrQ wz p k ov wr) (fun _ iv _ => 5000 - (intOf iv).toNat)
          case atStart => exact ⟨0, none, 0, 0, by omega, by go_num, rfl, rfl, World.ownsRow_nil _ _ _ _, by simp [frK], Below.refl _ _⟩
          case round =>
            obtain ⟨k, oa, on, oc, hk', rfl, rfl, hon, FQ⟩ := hrel
            by_cases hk2 : k < 4096
            · have c1 : (k : Int) + 1 ≤ 4096 := by omega
              by_cases h3 : on < 3
              · have c2 : (on : Int) < 3 := by omega
                have c3 : ((k + 1 : Nat) : Int) < 4097 := by omega
                have d0 : wr.cell? ⟨tb, k + 1, none⟩ = some (.bool (takenB u (k + 1))) := (FQ.bel.cell htl).trans (RR.at_ (by omega)).1
                have ek : ((k : Int) + 1) = ((k + 1 : Nat) : Int) := by omega
                have hpk : Hid (p ((k : Int) + 1) = !takenB u (k + 1)) := by show _ = _; rw [← hp.out]; unfold rfreeP; rw [ek]; rfl
                rw [ek]
                replace ek : Hid _ := ek
                cases htk : takenB u (k + 1) with
                | false =>
                  have hpt : Hid (p ((k : Int) + 1) = true) := by show _ = _; rw [hpk.out, htk]; rfl
                  rw [htk] at d0
                  have E8 := new1 wr (.cells #[.int .i64 ((k + 1 : Nat) : Int)] 2)
                  have B8 : Below wr.heap.size wr (wr.alloc (.cells #[.int .i64 ((k + 1 : Nat) : Int)] 2)) := box_below
                  have own8 := own_below FQ.own B8
                  have c8 : (wr.alloc (.cells #[.int .i64 ((k + 1 : Nat) : Int)] 2)).cell? ⟨wr.heap.size, 0, none⟩ = some (.int .i64 ((k + 1 : Nat) : Int)) := by rw [cell_of_row _ _ _ _ _ _ E8]; rfl
                  have B9 : Hid (Below wz.heap.size wz (wr.alloc (.cells #[.int .i64 ((k + 1 : Nat) : Int)] 2))) := below_size FQ.bel FQ.bel.size B8
                  have hsz8 : wz.heap.size ≤ (wr.alloc (.cells #[.int .i64 ((k + 1 : Nat) : Int)] 2)).heap.size := B9.out.size
                  obtain ⟨fl, hfl⟩ : ∃ q, Hid (frK p k = q) := ⟨_, rfl⟩
                  rw [hfl.out] at own8
                  have hll : fl.length ≤ 1000000 := by have h1 := FQ.len; rw [hfl.out] at h1; omega
                  clear E8 B8 htk hpk
                  go_wp2_with (at_builtin; refine app_ints _ (by rfl) _ _ (by rfl) wz.heap.size _ fl (by rfl) own8 wr.heap.size ((k + 1 : Nat) : Int) (by rfl) c8 hll hsz8 ?_)
                  intro o8a o8n o8c w8 hn8 r8 B10
                  have FQ8 : FrQ wz p (k + 1) (.slice o8a o8n o8c) w8 := FQ.push hpt.out (by have := hon.out; omega) (by rw [hfl.out, List.map_append, ek.out]; exact r8) (B9.out.trans B10)
                  have hn9 : Hid (o8n = (frK p (k + 1)).length) := by show _ = _; rw [hn8, frK_succ, if_pos hpt.out, List.length_append, hfl.out]; rfl
                  clear r8 B10 B9 own8 c8 hll hsz8 hn8 hfl FQ hpt d0
                  go_wp2
                  go_roundw
                  case rel => exact ⟨k + 1, o8a, o8n, o8c, by omega, by go_num, rfl, hn9, FQ8⟩
                  case measure => simp [intOf]; omega
                | true =>
                  have hpt : p ((k : Int) + 1) = false := by rw [hpk.out, htk]; rfl
                  rw [htk] at d0
                  have FQ8 := FQ.skip hpt (Below.refl _ _)
                  have hn9 : Hid (on = (frK p (k + 1)).length) := by show _ = _; rw [frK_succ, if_neg (by rw [hpt]; simp), List.append_nil]; exact hon.out
                  clear hpk FQ hpt htk
                  go_wp2
                  go_roundw
                  case rel => exact ⟨k + 1, oa, on, oc, by omega, by go_num, rfl, hn9, FQ8⟩
                  case measure => simp [intOf]; omega
              · have c2 : ¬ (on : Int) < 3 := by omega
                have fin := up.out _ _ (FQ.fin hon.out (fr3_full hk' (by have := FQ.len; have := hon.out; omega)))
                go_wp2
                go_ret
                exact fin
            · have c1 : ¬ (k : Int) + 1 ≤ 4096 := by omega
              have ek : k = 4096 := by omega
              have fin := up.out _ _ (FQ.fin hon.out (by subst ek; exact fr3_end FQ.len))
              go_wp2
              go_ret
              exact fin
end Go.Proofs.Ytajdelinfkodbaa
