/-
  DiskPlays, walked.
-/
import Derived.Test.YtmecimhlnajaoaaDoorDkPa
import Derived.Test.YtmecimhlnajaoaaDoorRg
namespace Go.Proofs.YtmecimhlnajaoaaDoor
open Go.RowKit Go.Maps

set_option maxRecDepth 100000 in
set_option maxHeartbeats 4000000 in
theorem plays_any (w : World) (E : Nat → Addr) (he : ErrEnv w w.heap.size E) (N : Int) (A : Option Addr) (n c : Nat) (zs : List OpV) (hn : zs.length = n) (hz : OpsAt w A zs) :
    Calls Tryd.prog 3 #[.int .i64 N, .slice A n c] w fun e w' => e = .returned (.bool true) ∧ w.grownBy w' none := by
  obtain ⟨z6, hz6⟩ : ∃ z6 : Array Value, z6 = (zeroR.map (Value.int .u8)).toArray := ⟨_, rfl⟩
  have hzv : ∀ w, Sem.run Tryd.prog (zeroValue 36) w = .ok (.agg z6) w := fun w => by rw [hz6]; exact zero_sec w (by kernel_rfl)
  have hz64 : z6.size = 64 := by rw [hz6]; simp [zeroR]
  have HE := Lib.hid he
  have HY := Lib.hid (And.intro hn (And.intro hz (And.intro hz64 (show ((#[Value.int .u8 0, Value.int .u8 0, Value.int .u8 0, Value.int .u8 0, Value.int .u8 0, Value.int .u8 0, Value.int .u8 0, Value.int .u8 0, Value.int .u8 0, Value.int .u8 0, Value.int .u8 0, Value.int .u8 0, Value.int .u8 0, Value.int .u8 0, Value.int .u8 0, Value.int .u8 0, Value.int .u8 0, Value.int .u8 0, Value.int .u8 0, Value.int .u8 0, Value.int .u8 0, Value.int .u8 0, Value.int .u8 0, Value.int .u8 0, Value.int .u8 0, Value.int .u8 0, Value.int .u8 0, Value.int .u8 0, Value.int .u8 0, Value.int .u8 0, Value.int .u8 0, Value.int .u8 0, Value.int .u8 0, Value.int .u8 0, Value.int .u8 0, Value.int .u8 0, Value.int .u8 0, Value.int .u8 0, Value.int .u8 0, Value.int .u8 0, Value.int .u8 0, Value.int .u8 0, Value.int .u8 0, Value.int .u8 0, Value.int .u8 0, Value.int .u8 0, Value.int .u8 0, Value.int .u8 0, Value.int .u8 0, Value.int .u8 0, Value.int .u8 0, Value.int .u8 0, Value.int .u8 0, Value.int .u8 0, Value.int .u8 0, Value.int .u8 0, Value.int .u8 0, Value.int .u8 0, Value.int .u8 0, Value.int .u8 0, Value.int .u8 0, Value.int .u8 0, Value.int .u8 0, Value.int .u8 0] : Array Value) = z6) by rw [hz6]; rfl))))
  have HZ := Lib.hid hzv
  clear he hn hz hz64 hz6 hzv
  refine (callsIn_wide (n := 9)).1 ?_
  refine callsIn_of_wp Tryd.func3 rfl trivial ?_ rfl
  simp only [Tryd.ntmps3, List.size_toArray, List.length_cons, List.length_nil, Nat.reduceAdd, Nat.reduceSub, Array.replicate_succ, Array.replicate_zero, List.push_toArray, List.append_toArray, List.nil_append, List.cons_append]
  gi_wp2
  refine ⟨trivial, ?_⟩
  refine (callsIn_wide.2 (alive_is w (E 0) (E 5) (HE.out.var 0 (by omega)) (HE.out.var 5 (by omega)))).mono ?_
  rintro e w1 ⟨rfl, k1⟩
  have K1 := Lib.hid k1
  clear k1
  by_cases h100 : 100 < n
  · have d1 : decide ((100 : Int) < (n : Int)) = true := by simp; omega
    gi_wp2
    go_ret
    exact ⟨rfl, K1.out⟩
  have d1 : decide ((100 : Int) < (n : Int)) = false := by simp; omega
  have hn100 : n ≤ 100 := by omega
  clear h100
  have hE1 : ErrEnv w1 w.heap.size E := HE.out.grown K1.out (fun _ e => by cases e)
  gi_wp2
  refine ⟨trivial, ?_⟩
  refine (callsIn_wide.2 (dk_new w1 w.heap.size N (E 0) (hE1.var 0 (by omega)))).mono ?_
  rintro e w2 ⟨g2, hor⟩
  have hE2 : ErrEnv w2 w.heap.size E := hE1.grown g2 (fun _ e => by cases e)
  rcases hor with ⟨hno, rfl⟩ | ⟨S, d, b, m, rfl, hS1, hS2, rfl, hdk, hld, hlb, hlm⟩
  · have K2 := Lib.hid (And.intro (grown_trans K1.out g2) hE2)
    clear g2 hE1 hE2
    by_cases hN1 : N < 1
    · have e1 : decide (N < 1) = true := by simpa using hN1
      clear hno
      gi_wp2
      refine ⟨trivial, ?_⟩
      refine (callsIn_wide.2 (num_err w2 w.heap.size E 0 (by omega) K2.out.2)).mono ?_
      rintro e w3 ⟨rfl, g3⟩
      have K3 := Lib.hid (grown_trans K2.out.1 g3)
      clear g3
      gi_wp2
      go_ret
      exact ⟨rfl, K3.out⟩
    · have e1 : decide (N < 1) = false := by simpa using hN1
      have e2 : decide (4096 < N) = true := by simp; omega
      clear hno
      gi_wp2
      refine ⟨trivial, ?_⟩
      refine (callsIn_wide.2 (num_err w2 w.heap.size E 0 (by omega) K2.out.2)).mono ?_
      rintro e w3 ⟨rfl, g3⟩
      have K3 := Lib.hid (grown_trans K2.out.1 g3)
      clear g3
      gi_wp2
      go_ret
      exact ⟨rfl, K3.out⟩
  · have e1 : decide ((S : Int) < 1) = false := by simp; omega
    have e2 : decide ((4096 : Int) < (S : Int)) = false := by simp; omega
    have hD2 : Dsk w w2 d b m (newS S) := ⟨hdk, Kept.of_grown (F := fun j => w.heap.size ≤ j) (grown_trans K1.out g2) (fun _ e => by cases e), by have := K1.out.size; omega, by have := K1.out.size; omega, by have := K1.out.size; omega⟩
    have hsz := dk_size w2 d b m (newS S) hdk
    have hSl : ((newS S).syn.length : Int) = (S : Int) := by simp [newS]
    rw [hSl] at hsz
    have H2 := Lib.hid (And.intro hD2 (And.intro hsz (And.intro (show 1 ≤ S ∧ S ≤ 4096 from ⟨hS1, hS2⟩) (show d < w2.heap.size ∧ b < w2.heap.size ∧ m < w2.heap.size by obtain ⟨D, hD, _⟩ := hdk.2.2.1; exact ⟨hdk.1.lt, hdk.2.1.lt, hD.lt⟩))))
    clear hD2 hsz hdk hld hlb hlm g2 hE1 hE2 hS1 hS2 hSl
    gi_wp2
    refine ⟨trivial, ?_⟩
    refine (callsIn_wide.2 H2.out.2.1).mono ?_
    rintro e w3 ⟨rfl, hw3⟩
    obtain rfl : w2 = w3 := hw3.symm
    clear hw3
    gi_wp2
    refine ⟨trivial, ?_⟩
    refine (callsIn_wide.2 (md_new w2 S H2.out.2.2.1)).mono ?_
    rintro e w3 ⟨g3, p, s, u, v, rfl, hmd, hp, hs, hu, hv⟩
    have hap : Apart w d b m p s u v := by
      have := H2.out.2.2.2
      have := H2.out.1.grownNone.size
      exact ⟨w2.heap.size, by omega, by omega, by omega, hp, hs, hu, hv, by omega⟩
    have hKp : w.heap.size ≤ p ∧ w.heap.size ≤ s ∧ w.heap.size ≤ u ∧ w.heap.size ≤ v := by have := H2.out.1.grownNone.size; omega
    have H3 := Lib.hid (And.intro (H2.out.1.grown g3) (And.intro hmd (And.intro hap hKp)))
    clear g3 hmd hp hs hu hv hap hKp e1 e2
    gi_wp2
    gi_loopw [55] (fun i wr => ∃ k : Nat, k ≤ n ∧ i = .int .i64 (k : Int) ∧ ∃ z, Dsk w wr d b m z ∧ MdIs wr p s u v z) (fun i _ => n - (intOf i).toNat)
    case atStart => exact ⟨0, by omega, rfl, _, H3.out.1, H3.out.2.1⟩
    case round =>
      obtain ⟨k, hkn, rfl, z, hdz, hmz⟩ := hrel
      rename World => wx
      by_cases hlt : k < n
      · have e3 : decide ((k : Int) < (n : Int)) = true := by simp; omega
        have hkz : k < zs.length := by rw [HY.out.1]; exact hlt
        have hne : zs ≠ [] := by rintro rfl; simp at hkz
        obtain ⟨bo', oo', ee', hc1⟩ := HY.out.2.1 hne
        obtain ⟨bo, oo, rfl, hc0⟩ := (HY.out.2.1.low hdz.2.1 (fun _ h => h)) hne
        obtain ⟨hcell, hbl, hib⟩ := hc0 k hkz
        obtain ⟨_, hbl1, _⟩ := hc1 k hkz
        generalize zs[k] = op at *
        obtain ⟨ok_, oi, ob, oA, oc, ol⟩ := op
        have x0 := hcell 0 _ rfl
        have x1 := hcell 1 _ rfl
        have x2 := hcell 2 _ rfl
        have x3 := hcell 3 _ rfl
        simp only [Nat.add_zero] at x0 x1 x2 x3
        obtain ⟨on, hon⟩ : ∃ on, ol.length = on := ⟨_, rfl⟩
        rw [hon] at x3
        have hk2 : k < n ∧ n ≤ 100 := ⟨hlt, hn100⟩
        obtain ⟨q, hq⟩ : ∃ q, wx.heap.size = q := ⟨_, rfl⟩
        obtain ⟨W1, hW1⟩ : ∃ W1, wx.alloc (.cells #[.int .i64 ok_, .int .i64 oi, .int .u8 ob, .slice oA on oc] 35) = W1 := ⟨_, rfl⟩
        have gW1 : wx.grownBy W1 none := by rw [← hW1]; exact World.grownBy_alloc _ _ none
        have bq : Blk W1 q 35 #[.int .i64 ok_, .int .i64 oi, .int .u8 ob, .slice oA on oc] := by rw [← hW1, ← hq]; exact Blk.new _ _ _
        have y0 := bq.cell 0
        have y1 := bq.cell 1
        have y2 := bq.cell 2
        have y3 := bq.cell 3
        simp only [List.getElem?_toArray, List.getElem?_cons_zero, List.getElem?_cons_succ] at y0 y1 y2 y3
        have hbw : d < q ∧ b < q ∧ m < q ∧ p < q ∧ s < q ∧ u < q ∧ v < q := by
          obtain ⟨D, hD, _⟩ := hdz.1.2.2.1
          obtain ⟨W, hW, _⟩ := hmz.2.2.1
          rw [← hq]
          exact ⟨hdz.1.1.lt, hdz.1.2.1.lt, hD.lt, hmz.1.lt, hmz.2.1.lt, hW.lt, hmz.2.2.2.1.lt⟩
        have hkl : ∀ a, oA = some a → ol ≠ [] → a.block < w.heap.size := hbl1.lt
        have HX := Lib.hid (And.intro (hdz.grown gW1) (And.intro (hmz.grown gW1) (And.intro bq (And.intro hbw (And.intro (hbl.grown gW1) (And.intro hkl (And.intro hon hib)))))))
        clear hdz hmz hkz hne hc0 hcell hbl hib hc1 hbl1 hkl ee' gW1 bq hbw hon
        by_cases h100 : 100 < on
        · have e4 : decide ((100 : Int) < (on : Int)) = true := by simp; omega
          gi_wp2
          try rw [hq]
          try rw [hW1]
          gi_wp2
          first | exact ⟨_, results_tmp rfl _ _ _, rfl, HX.out.1.grownNone⟩ | exact ⟨rfl, _, results_tmp rfl _ _ _, rfl, HX.out.1.grownNone⟩
        have e4 : decide ((100 : Int) < (on : Int)) = false := by simp; omega
        clear h100
        by_cases hk1 : ok_ = 1
        · obtain rfl := hk1
          gi_upto_region 19 with fail
          try rw [hq]
          try rw [hW1]
          obtain ⟨e7, he7⟩ : ∃ e7, ((sevenR ob).map (Value.int .u8)).toArray = e7 := ⟨_, rfl⟩
          have HB7 := Lib.hid (fun V : World => build_seven V ob e7 he7)
          have h7z : e7.size = 64 := by rw [← he7]; simp [sevenR]
          have h7o : e7.all (·.oneCell') = true := by rw [← he7]; simp [Array.all_eq_true_iff_forall_mem, Value.oneCell']
          have H7_ := Lib.hid (And.intro h7z (And.intro h7o (show secV (sevenR ob) = .agg e7 by rw [secV, he7])))
          clear he7 h7z h7o
          have hz := HZ.out
          gi_upto_region 20 with (first
            | (refine wpListIn_build_run rfl _ _ rfl (.agg e7) (by simpa [Act.eval] using HB7.out W1) ?_)
            | (refine wpListIn_store_row rfl 36 _ _ rfl W1.heap.size e7 rfl rfl 36 z6 (heap_alloc_new W1 _) (by rw [H7_.out.1]; kernel_rfl) (by rw [H7_.out.1, HY.out.2.2.1]) H7_.out.2.1 ?_)
            | gi_in)
          clear hz
          rename_i K8_ hK8_
          obtain ⟨q7, hq7⟩ : ∃ q7, W1.heap.size = q7 := ⟨_, rfl⟩
          obtain ⟨W2, hW2⟩ : ∃ W2, (W1.alloc (.cells z6 36)).setRow q7 e7 = W2 := ⟨_, rfl⟩
          rw [hq7, hW2]
          obtain ⟨W3, hW3⟩ : ∃ W3, W2.drew = W3 := ⟨_, rfl⟩
          have g2_ : W1.grownBy W2 none := by rw [← hW2]; exact grown_row (World.grownBy_alloc _ _ none) (.inl (by omega)) _
          have g3_ : W1.grownBy W3 none := by rw [← hW3]; exact grown_drew g2_
          have b7 : Blk W3 q7 36 e7 := by rw [← hW3, ← hW2, ← hq7]; exact ((Blk.new W1 _ _).row e7).drew
          have HV := Lib.hid (And.intro (HX.out.2.2.1.grown g3_ (by simp)) (And.intro b7 (show q < q7 by rw [← hq7]; exact HX.out.2.2.1.lt)))
          have HV2 := Lib.hid (HX.out.2.1.grown g3_)
          have hds := dsk_write (HX.out.1.grown g3_) (HE.out.var 0 (by omega)) (HE.out.var 5 (by omega)) oi (sevenR ob) (sevenR_len ob)
          rw [H7_.out.2.2] at hds
          have HDS := Lib.hid hds
          have HSB := Lib.hid (show ∀ Y : World, Blk Y q 35 #[.int .i64 1, .int .i64 oi, .int .u8 ob, .slice oA on oc] → Blk Y q7 36 e7 → Y.cell? ⟨q, 1, none⟩ = some (.int .i64 oi) ∧ Y.rangeAt q7 0 e7.toList from fun Y h1 h2 => ⟨h1.cell 1, range_of_blk h2⟩)
          clear hds g2_ g3_ b7 hq7 hW2
          refine wpIn_normal ?_
          refine wpIn_region_held_wide (S := fun Y => Y.cell? ⟨q, 1, none⟩ = some (.int .i64 oi) ∧ Y.rangeAt q7 0 e7.toList) (by kernel_rfl) (by kernel_rfl) (by rintro ⟨_, _, h, _⟩; cases h) (by rw [hW3]; exact HSB.out _ HV.out.1 HV.out.2.1) (fun hHeld => ?_)
          rw [hW3] at hHeld ⊢
          refine wpAnyH_take (i := 0) (oi := _) (v := ?vw0) rfl (by kernel_rfl) (by kernel_rfl) (by kernel_rfl) (fun _ _ _ h => by cases h.1) (Or.inl ⟨by rfl, ?hyw0⟩) (by assumption) ?restw0
          case hyw0 => (intro V hSw; (try dsimp only at hSw); go_simp) <;> with_reducible rfl
          try simp only [Act.put, List.getElem_toArray, List.getElem_cons_succ, List.getElem_cons_zero, List.setIfInBounds_toArray, List.set_cons_zero, List.set_cons_succ]
          refine wpAnyH_take (i := 1) (oi := _) (v := ?vw1) rfl (by kernel_rfl) (by kernel_rfl) (by kernel_rfl) (fun _ _ _ h => by cases h.1) (Or.inl ⟨by rfl, ?hyw1⟩) (by assumption) ?restw1
          case hyw1 => (intro V hSw; (try dsimp only at hSw); go_simp) <;> with_reducible rfl
          try simp only [Act.put, List.getElem_toArray, List.getElem_cons_succ, List.getElem_cons_zero, List.setIfInBounds_toArray, List.set_cons_zero, List.set_cons_succ]
          refine wpAnyH_take (i := 2) (oi := _) (v := ?vw2) rfl (by kernel_rfl) (by kernel_rfl) (by kernel_rfl) (fun _ _ _ h => by cases h.1) (Or.inl ⟨by rfl, ?hyw2⟩) (by assumption) ?restw2
          case hyw2 => (intro V hSw; (try dsimp only at hSw); go_simp) <;> with_reducible rfl
          try simp only [Act.put, List.getElem_toArray, List.getElem_cons_succ, List.getElem_cons_zero, List.setIfInBounds_toArray, List.set_cons_zero, List.set_cons_succ]
          refine wpAnyH_take (i := 6) (oi := _) (v := ?vw6) rfl (by kernel_rfl) (by kernel_rfl) (by kernel_rfl) (fun _ _ _ h => by cases h.1) (Or.inl ⟨by rfl, ?hyw6⟩) (by assumption) ?restw6
          case hyw6 => (intro V hSw; (try dsimp only at hSw); go_simp) <;> with_reducible rfl
          try simp only [Act.put, List.getElem_toArray, List.getElem_cons_succ, List.getElem_cons_zero, List.setIfInBounds_toArray, List.set_cons_zero, List.set_cons_succ]
          refine wpAnyH_take (i := 7) (oi := _) (v := ?vw7) rfl (by kernel_rfl) (by kernel_rfl) (by kernel_rfl) (fun _ _ _ h => by cases h.1) (Or.inl ⟨by rfl, ?hyw7⟩) (by assumption) ?restw7
          case hyw7 => (intro V hSw; (try dsimp only at hSw); go_simp) <;> with_reducible rfl
          try simp only [Act.put, List.getElem_toArray, List.getElem_cons_succ, List.getElem_cons_zero, List.setIfInBounds_toArray, List.set_cons_zero, List.set_cons_succ]
          refine wpAnyH_take (i := 8) (oi := _) (v := ?vw8) rfl (by kernel_rfl) (by kernel_rfl) (by kernel_rfl) (fun _ _ _ h => by cases h.1) (Or.inl ⟨by rfl, ?hyw8⟩) (by assumption) ?restw8
          case hyw8 => (intro V hSw; (try dsimp only at hSw); go_simp) <;> with_reducible rfl
          try simp only [Act.put, List.getElem_toArray, List.getElem_cons_succ, List.getElem_cons_zero, List.setIfInBounds_toArray, List.set_cons_zero, List.set_cons_succ]
          refine wpAnyH_take (i := 3) (oi := _) (v := .agg e7) rfl (by kernel_rfl) (by kernel_rfl) (by kernel_rfl) (fun _ _ _ h => by cases h.1) (yieldsIf_load_mid (by rfl) _ _ rfl q7 0 rfl e7.toList _ (fun V hSw => hSw.2) Tryd.underlying36 rfl (by rw [Array.length_toList, H7_.out.1]; kernel_rfl)) (by assumption) ?restw3
          try simp only [Act.put, List.getElem_toArray, List.getElem_cons_succ, List.getElem_cons_zero, List.setIfInBounds_toArray, List.set_cons_zero, List.set_cons_succ]
          refine wpAnyH_take (i := 9) (oi := _) (v := .agg e7) rfl (by kernel_rfl) (by kernel_rfl) (by kernel_rfl) (fun _ _ _ h => by cases h.1) (yieldsIf_load_mid (by rfl) _ _ rfl q7 0 rfl e7.toList _ (fun V hSw => hSw.2) Tryd.underlying36 rfl (by rw [Array.length_toList, H7_.out.1]; kernel_rfl)) (by assumption) ?restw9
          try simp only [Act.put, List.getElem_toArray, List.getElem_cons_succ, List.getElem_cons_zero, List.setIfInBounds_toArray, List.set_cons_zero, List.set_cons_succ]
          refine wpAnyH_ready (rs := [4]) (by kernel_rfl) (by simp) ?_
          refine (AllReadyH.cons (o := _) rfl (fun K9 hK => ?_) AllReadyH.nil)
          go_simp
          refine HDS.out.mono ?_
          rintro e w4 ⟨rfl, hd4, ht4⟩
          have hb4 := HV.out.1.kept ht4 (show ¬ (q = d ∨ q = b ∨ q = m) by have := HX.out.2.2.2.1; omega)
          have hc4 := HV.out.2.1.kept ht4 (show ¬ (q7 = d ∨ q7 = b ∨ q7 = m) by have := HX.out.2.2.2.1; have := HV.out.2.2; omega)
          have H4 := Lib.hid (And.intro hd4 (And.intro (md_beside HV2.out H3.out.2.2.1 ht4) (And.intro hb4 hc4)))
          clear hd4 ht4 hb4 hc4
          (try go_wp2_with fail)
          refine hK.out _ _ (HSB.out _ H4.out.2.2.1 H4.out.2.2.2) (fun hHeld => ?_)
          clear hK K9
          try simp only [Act.put, List.getElem_toArray, List.getElem_cons_succ, List.getElem_cons_zero, List.setIfInBounds_toArray, List.set_cons_zero, List.set_cons_succ]
          refine wpAnyH_ready (rs := [5]) (by kernel_rfl) (by simp) ?_
          refine (AllReadyH.cons (o := _) rfl (fun K9 hK => ?_) AllReadyH.nil)
          go_simp
          refine (num_eV w4 w.heap.size E (HE.out.grown H4.out.1.grownNone (fun _ e => by cases e)) (wE z oi)).mono ?_
          rintro e w5 ⟨rfl, g5⟩
          have H5_ := Lib.hid g5
          clear g5
          (try go_wp2_with fail)
          refine hK.out _ _ (HSB.out _ (H4.out.2.2.1.grown H5_.out (by simp)) (H4.out.2.2.2.grown H5_.out (by simp))) (fun hHeld => ?_)
          clear hK K9
          try simp only [Act.put, List.getElem_toArray, List.getElem_cons_succ, List.getElem_cons_zero, List.setIfInBounds_toArray, List.set_cons_zero, List.set_cons_succ]
          refine wpAnyH_ready (rs := [10]) (by kernel_rfl) (by simp) ?_
          refine (AllReadyH.cons (o := _) rfl (fun K9 hK => ?_) AllReadyH.nil)
          go_simp
          have hmw := md_write w5 p s u v z (H4.out.2.1.grown H5_.out) oi (sevenR ob) (sevenR_len ob)
          rw [H7_.out.2.2] at hmw
          refine hmw.mono ?_
          rintro e w6 ⟨rfl, hm6, k6⟩
          have hb6 := (H4.out.2.2.1.grown H5_.out (by simp)).kept k6 (show ¬ (q = p ∨ q = u ∨ q = v) by have := HX.out.2.2.2.1; omega)
          have hc6 := (H4.out.2.2.2.grown H5_.out (by simp)).kept k6 (show ¬ (q7 = p ∨ q7 = u ∨ q7 = v) by have := HX.out.2.2.2.1; have := HV.out.2.2; omega)
          obtain ⟨y, hy⟩ : ∃ y, wS z oi (sevenR ob) = y := ⟨_, rfl⟩
          rw [hy] at hm6
          have HT : Hid (Dsk w w6 d b m y ∧ MdIs w6 p s u v y ∧ Blk w6 q 35 #[.int .i64 1, .int .i64 oi, .int .u8 ob, .slice oA on oc]) := Lib.hid ⟨by rw [← hy]; exact dk_beside (H4.out.1.grown H5_.out) H3.out.2.2.1 (k6.mono (fun j _ h => by rcases h with h | h | h; exact .inl h; exact .inr (.inr (.inl h)); exact .inr (.inr (.inr h)))), hm6, hb6⟩
          have HSX := Lib.hid (HSB.out _ hb6 hc6)
          clear hm6 k6 hy hb6 hc6 hmw
          (try go_wp2_with fail)
          refine hK.out _ _ HSX.out (fun hHeld => ?_)
          clear hK K9
          try simp only [Act.put, List.getElem_toArray, List.getElem_cons_succ, List.getElem_cons_zero, List.setIfInBounds_toArray, List.set_cons_zero, List.set_cons_succ]
          refine wpAnyH_take (i := 11) (oi := _) (v := ?vw11) rfl (by kernel_rfl) (by kernel_rfl) (by kernel_rfl) (fun _ _ _ h => by cases h.1) (Or.inl ⟨by rfl, ?hyw11⟩) (by assumption) ?restw11
          case hyw11 => (intro V hSw; (try dsimp only at hSw); go_simp) <;> with_reducible rfl
          try simp only [Act.put, List.getElem_toArray, List.getElem_cons_succ, List.getElem_cons_zero, List.setIfInBounds_toArray, List.set_cons_zero, List.set_cons_succ]
          refine wpAnyH_take (i := 12) (oi := _) (v := ?vw12) rfl (by kernel_rfl) (by kernel_rfl) (by kernel_rfl) (fun _ _ _ h => by cases h.1) (Or.inl ⟨by rfl, ?hyw12⟩) (by assumption) ?restw12
          case hyw12 => (intro V hSw; (try dsimp only at hSw); go_simp) <;> with_reducible rfl
          try simp only [Act.put, List.getElem_toArray, List.getElem_cons_succ, List.getElem_cons_zero, List.setIfInBounds_toArray, List.set_cons_zero, List.set_cons_succ]
          refine wpAnyH_done (by kernel_rfl) ?_ _
          refine ⟨rfl, hK8_ _ _ ?_⟩
          gi_upto_region 29 with fail
          obtain ⟨es, hes⟩ : ∃ es, ((rV y oi).map (Value.int .u8)).toArray = es := ⟨_, rfl⟩
          have hl64 := readS_len HT.out.2.1 oi
          have hsec : secV (rV y oi) = .agg es := by rw [secV, hes]
          have hez : es.size = 64 := by rw [← hes]; simpa using hl64
          have heo : es.all (·.oneCell') = true := by rw [← hes]; simp [Array.all_eq_true_iff_forall_mem, Value.oneCell']
          have hr1 := dsk_read HT.out.1 (HE.out.var 0 (by omega)) (HE.out.var 5 (by omega)) oi
          rw [hsec] at hr1
          have HR1 := Lib.hid hr1
          have HQ := Lib.hid (And.intro hsec (And.intro hez (And.intro heo (fun w => eq_row w _ hl64 es hes))))
          clear hes hl64 hsec hez heo hr1
          have y1 := HT.out.2.2.cell 1
          simp only [List.getElem?_toArray, List.getElem?_cons_zero, List.getElem?_cons_succ] at y1
          gi_wp2
          refine ⟨trivial, ?_⟩
          refine (callsIn_wide.2 HR1.out).mono ?_
          rintro e w5 ⟨rfl, g5⟩
          have H5 := Lib.hid g5
          have y1 := (HT.out.2.2.grown g5 (by simp)).cell 1
          simp only [List.getElem?_toArray, List.getElem?_cons_zero, List.getElem?_cons_succ] at y1
          clear g5
          have hz := HZ.out
          gi_upto_region 30 with (first
            | (refine wpListIn_store_row rfl 36 _ _ rfl w5.heap.size es rfl rfl 36 z6 (heap_alloc_new w5 _) (by rw [HQ.out.2.1]; kernel_rfl) (by rw [HQ.out.2.1, HY.out.2.2.1]) HQ.out.2.2.1 ?_)
            | gi_in)
          clear hz
          obtain ⟨q6, hq6⟩ : ∃ q6, w5.heap.size = q6 := ⟨_, rfl⟩
          obtain ⟨W6, hW6⟩ : ∃ W6, (w5.alloc (.cells z6 36)).setRow q6 es = W6 := ⟨_, rfl⟩
          have g6 : w6.grownBy W6 none := grown_trans H5.out (by rw [← hW6]; exact grown_row (World.grownBy_alloc _ _ none) (.inl (by omega)) _)
          have b6 : Blk W6 q6 36 es := by rw [← hW6, ← hq6]; exact (Blk.new w5 _ _).row es
          have hr2 := md_read W6 p s u v y (HT.out.2.1.grown g6) oi
          rw [HQ.out.1] at hr2
          have y1 := (HT.out.2.2.grown g6 (by simp)).cell 1
          simp only [List.getElem?_toArray, List.getElem?_cons_zero, List.getElem?_cons_succ] at y1
          have H6 := Lib.hid (And.intro g6 (And.intro b6 hr2))
          rw [hq6, hW6]
          clear g6 b6 hr2 hq6 hW6
          gi_wp2
          refine ⟨trivial, ?_⟩
          refine (callsIn_wide.2 H6.out.2.2).mono ?_
          rintro e w7 ⟨rfl, g7⟩
          have H7 := Lib.hid g7
          clear g7
          have hz := HZ.out
          gi_upto_region 31 with (first
            | (refine wpListIn_store_row rfl 36 _ _ rfl w7.heap.size es rfl rfl 36 z6 (heap_alloc_new w7 _) (by rw [HQ.out.2.1]; kernel_rfl) (by rw [HQ.out.2.1, HY.out.2.2.1]) HQ.out.2.2.1 ?_)
            | gi_in)
          rename_i K8 hK8
          clear hz
          obtain ⟨q8, hq8⟩ : ∃ q8, w7.heap.size = q8 := ⟨_, rfl⟩
          obtain ⟨W7, hW7⟩ : ∃ W7, (w7.alloc (.cells z6 36)).setRow q8 es = W7 := ⟨_, rfl⟩
          have g8 : W6.grownBy W7 none := grown_trans H7.out (by rw [← hW7]; exact grown_row (World.grownBy_alloc _ _ none) (.inl (by omega)) _)
          have b8 : Blk W7 q8 36 es := by rw [← hW7, ← hq8]; exact (Blk.new w7 _ _).row es
          rw [hq8, hW7]
          obtain ⟨W8, hW8⟩ : ∃ W8, W7.drew = W8 := ⟨_, rfl⟩
          have g78 : W7.grownBy W8 none := by rw [← hW8]; exact grown_drew (World.grownBy.refl W7 none)
          have g68 := grown_trans g8 g78
          have gT8 := grown_trans H6.out.1 g68
          have hss : ∀ Y, W8.grownBy Y none → Y.rangeAt q6 0 es.toList ∧ Y.rangeAt q8 0 es.toList ∧ Y.cell? ⟨p, 3, none⟩ = some (.bool y.off) := fun Y hY =>
            ⟨range_of_blk (H6.out.2.1.grown (grown_trans g68 hY) (by simp)), range_of_blk (b8.grown (grown_trans g78 hY) (by simp)), (HT.out.2.1.1.grown (grown_trans gT8 hY) (by simp)).cell 3⟩
          have HSS := Lib.hid hss
          have HG8 := Lib.hid (And.intro (And.intro (HT.out.1.grown gT8) (HT.out.2.1.grown gT8)) hq8)
          clear hss g8 b8 g78 g68 gT8 hq8 hW7
          refine wpIn_normal ?_
          refine wpIn_region_held_wide (S := fun Y => Y.rangeAt q6 0 es.toList ∧ Y.rangeAt q8 0 es.toList ∧ Y.cell? ⟨p, 3, none⟩ = some (.bool y.off)) (by kernel_rfl) (by kernel_rfl) (by rintro ⟨_, _, h, _⟩; cases h) (by rw [hW8]; exact HSS.out _ (World.grownBy.refl W8 none)) (fun hHeld => ?_)
          rw [hW8] at hHeld ⊢
          refine wpAnyH_take (i := 0) (oi := _) (v := ?vpf0) rfl (by kernel_rfl) (by kernel_rfl) (by kernel_rfl) (fun _ _ _ h => by cases h.1) (Or.inl ⟨by rfl, ?hypf0⟩) (by assumption) ?restpf0
          case hypf0 => (intro V hSw; (try dsimp only at hSw); go_simp) <;> with_reducible rfl
          try simp only [Act.put, List.getElem_toArray, List.getElem_cons_succ, List.getElem_cons_zero, List.setIfInBounds_toArray, List.set_cons_zero, List.set_cons_succ]
          refine wpAnyH_take (i := 1) (oi := _) (v := ?vpf1) rfl (by kernel_rfl) (by kernel_rfl) (by kernel_rfl) (fun _ _ _ h => by cases h.1) (Or.inl ⟨by rfl, ?hypf1⟩) (by assumption) ?restpf1
          case hypf1 => (intro V hSw; (try dsimp only at hSw); go_simp) <;> with_reducible rfl
          try simp only [Act.put, List.getElem_toArray, List.getElem_cons_succ, List.getElem_cons_zero, List.setIfInBounds_toArray, List.set_cons_zero, List.set_cons_succ]
          refine wpAnyH_take (i := 2) (oi := _) (v := ?vpf2) rfl (by kernel_rfl) (by kernel_rfl) (by kernel_rfl) (fun _ _ _ h => by cases h.1) (Or.inl ⟨by rfl, ?hypf2⟩) (by assumption) ?restpf2
          case hypf2 => (intro V hSw; (try dsimp only at hSw); go_simp) <;> with_reducible rfl
          try simp only [Act.put, List.getElem_toArray, List.getElem_cons_succ, List.getElem_cons_zero, List.setIfInBounds_toArray, List.set_cons_zero, List.set_cons_succ]
          refine wpAnyH_take (i := 3) (oi := _) (v := .agg es) rfl (by kernel_rfl) (by kernel_rfl) (by kernel_rfl) (fun _ _ _ h => by cases h.1) (yieldsIf_load_mid (by rfl) _ _ rfl q6 0 rfl es.toList _ (fun V hSw => hSw.1) Tryd.underlying36 rfl (by rw [Array.length_toList, HQ.out.2.1]; kernel_rfl)) (by assumption) ?restpf3
          try simp only [Act.put, List.getElem_toArray, List.getElem_cons_succ, List.getElem_cons_zero, List.setIfInBounds_toArray, List.set_cons_zero, List.set_cons_succ]
          refine wpAnyH_take (i := 4) (oi := _) (v := .agg es) rfl (by kernel_rfl) (by kernel_rfl) (by kernel_rfl) (fun _ _ _ h => by cases h.1) (yieldsIf_load_mid (by rfl) _ _ rfl q8 0 rfl es.toList _ (fun V hSw => hSw.2.1) Tryd.underlying36 rfl (by rw [Array.length_toList, HQ.out.2.1]; kernel_rfl)) (by assumption) ?restpf4
          try simp only [Act.put, List.getElem_toArray, List.getElem_cons_succ, List.getElem_cons_zero, List.setIfInBounds_toArray, List.set_cons_zero, List.set_cons_succ]
          have heq := HQ.out.2.2.2
          refine wpAnyH_take (i := 5) (oi := _) (v := ?vpf5) rfl (by kernel_rfl) (by kernel_rfl) (by kernel_rfl) (fun _ _ _ h => by cases h.1) (Or.inl ⟨by rfl, ?hypf5⟩) (by assumption) ?restpf5
          case hypf5 => (intro V hSw; (try dsimp only at hSw); go_simp) <;> with_reducible rfl
          try simp only [Act.put, List.getElem_toArray, List.getElem_cons_succ, List.getElem_cons_zero, List.setIfInBounds_toArray, List.set_cons_zero, List.set_cons_succ]
          clear heq
          refine wpAnyH_take (i := 6) (oi := _) (v := ?vpf6) rfl (by kernel_rfl) (by kernel_rfl) (by kernel_rfl) (fun _ _ _ h => by cases h.1) (Or.inl ⟨by rfl, ?hypf6⟩) (by assumption) ?restpf6
          case hypf6 => (intro V hSw; (try dsimp only at hSw); go_simp) <;> with_reducible rfl
          try simp only [Act.put, List.getElem_toArray, List.getElem_cons_succ, List.getElem_cons_zero, List.setIfInBounds_toArray, List.set_cons_zero, List.set_cons_succ]
          refine wpAnyH_take (i := 7) (oi := _) (v := ?vpf7) rfl (by kernel_rfl) (by kernel_rfl) (by kernel_rfl) (fun _ _ _ h => by cases h.1) (Or.inl ⟨by rfl, ?hypf7⟩) (by assumption) ?restpf7
          case hypf7 => (intro V hSw; (try dsimp only at hSw); go_simp) <;> with_reducible rfl
          try simp only [Act.put, List.getElem_toArray, List.getElem_cons_succ, List.getElem_cons_zero, List.setIfInBounds_toArray, List.set_cons_zero, List.set_cons_succ]
          refine wpAnyH_take (i := 8) (oi := _) (v := ?vpf8) rfl (by kernel_rfl) (by kernel_rfl) (by kernel_rfl) (fun _ _ _ h => by cases h.1) (Or.inl ⟨by rfl, ?hypf8⟩) (by assumption) ?restpf8
          case hypf8 => (intro V hSw; (try dsimp only at hSw); go_simp) <;> with_reducible rfl
          try simp only [Act.put, List.getElem_toArray, List.getElem_cons_succ, List.getElem_cons_zero, List.setIfInBounds_toArray, List.set_cons_zero, List.set_cons_succ]
          refine wpAnyH_take (i := 10) (oi := _) (v := ?vpf10) rfl (by kernel_rfl) (by kernel_rfl) (by kernel_rfl) (fun _ _ _ h => by cases h.1) (Or.inl ⟨by rfl, ?hypf10⟩) (by assumption) ?restpf10
          case hypf10 => (intro V hSw; (try dsimp only at hSw); go_simp) <;> with_reducible rfl
          try simp only [Act.put, List.getElem_toArray, List.getElem_cons_succ, List.getElem_cons_zero, List.setIfInBounds_toArray, List.set_cons_zero, List.set_cons_succ]
          refine wpAnyH_ready (rs := [9]) (by kernel_rfl) (by simp) ?_
          refine (AllReadyH.cons (o := _) rfl (fun K9 hK => ?_) AllReadyH.nil)
          go_simp
          refine (num_eV W8 w.heap.size E (HE.out.grown (HG8.out.1.1.grownNone) (fun _ e => by cases e)) (rE y oi)).mono ?_
          rintro e w9 ⟨rfl, g9⟩
          have H9 := Lib.hid g9
          clear g9
          (try go_wp2_with fail)
          refine hK.out _ _ (HSS.out _ H9.out) (fun hHeld => ?_)
          clear hK K9
          try simp only [Act.put, List.getElem_toArray, List.getElem_cons_succ, List.getElem_cons_zero, List.setIfInBounds_toArray, List.set_cons_zero, List.set_cons_succ]
          refine wpAnyH_take (i := 11) (oi := _) (v := ?vpf11) rfl (by kernel_rfl) (by kernel_rfl) (by kernel_rfl) (fun _ _ _ h => by cases h.1) (Or.inl ⟨by rfl, ?hypf11⟩) (by assumption) ?restpf11
          case hypf11 => (intro V hSw; (try dsimp only at hSw); go_simp) <;> with_reducible rfl
          try simp only [Act.put, List.getElem_toArray, List.getElem_cons_succ, List.getElem_cons_zero, List.setIfInBounds_toArray, List.set_cons_zero, List.set_cons_succ]
          refine wpAnyH_take (i := 12) (oi := _) (v := ?vpf12) rfl (by kernel_rfl) (by kernel_rfl) (by kernel_rfl) (fun _ _ _ h => by cases h.1) (Or.inl ⟨by rfl, ?hypf12⟩) (by assumption) ?restpf12
          case hypf12 => (intro V hSw; (try dsimp only at hSw); go_simp) <;> with_reducible rfl
          try simp only [Act.put, List.getElem_toArray, List.getElem_cons_succ, List.getElem_cons_zero, List.setIfInBounds_toArray, List.set_cons_zero, List.set_cons_succ]
          refine wpAnyH_take (i := 13) (oi := _) (v := ?vpf13) rfl (by kernel_rfl) (by kernel_rfl) (by kernel_rfl) (fun _ _ _ h => by cases h.1) (Or.inl ⟨by rfl, ?hypf13⟩) (by assumption) ?restpf13
          case hypf13 => (intro V hSw; (try dsimp only at hSw); go_simp) <;> with_reducible rfl
          try simp only [Act.put, List.getElem_toArray, List.getElem_cons_succ, List.getElem_cons_zero, List.setIfInBounds_toArray, List.set_cons_zero, List.set_cons_succ]
          refine wpAnyH_take (i := 14) (oi := _) (v := ?vpf14) rfl (by kernel_rfl) (by kernel_rfl) (by kernel_rfl) (fun _ _ _ h => by cases h.1) (Or.inl ⟨by rfl, ?hypf14⟩) (by assumption) ?restpf14
          case hypf14 => (intro V hSw; (try dsimp only at hSw); go_simp) <;> with_reducible rfl
          try simp only [Act.put, List.getElem_toArray, List.getElem_cons_succ, List.getElem_cons_zero, List.setIfInBounds_toArray, List.set_cons_zero, List.set_cons_succ]
          refine wpAnyH_take (i := 16) (oi := _) (v := ?vpf16) rfl (by kernel_rfl) (by kernel_rfl) (by kernel_rfl) (fun _ _ _ h => by cases h.1) (Or.inl ⟨by rfl, ?hypf16⟩) (by assumption) ?restpf16
          case hypf16 => (intro V hSw; (try dsimp only at hSw); go_simp) <;> with_reducible rfl
          try simp only [Act.put, List.getElem_toArray, List.getElem_cons_succ, List.getElem_cons_zero, List.setIfInBounds_toArray, List.set_cons_zero, List.set_cons_succ]
          refine wpAnyH_take (i := 17) (oi := _) (v := ?vpf17) rfl (by kernel_rfl) (by kernel_rfl) (by kernel_rfl) (fun _ _ _ h => by cases h.1) (Or.inl ⟨by rfl, ?hypf17⟩) (by assumption) ?restpf17
          case hypf17 => (intro V hSw; (try dsimp only at hSw); go_simp) <;> with_reducible rfl
          try simp only [Act.put, List.getElem_toArray, List.getElem_cons_succ, List.getElem_cons_zero, List.setIfInBounds_toArray, List.set_cons_zero, List.set_cons_succ]
          refine wpAnyH_take (i := 18) (oi := _) (v := ?vpf18) rfl (by kernel_rfl) (by kernel_rfl) (by kernel_rfl) (fun _ _ _ h => by cases h.1) (Or.inl ⟨by rfl, ?hypf18⟩) (by assumption) ?restpf18
          case hypf18 => (intro V hSw; (try dsimp only at hSw); go_simp) <;> with_reducible rfl
          try simp only [Act.put, List.getElem_toArray, List.getElem_cons_succ, List.getElem_cons_zero, List.setIfInBounds_toArray, List.set_cons_zero, List.set_cons_succ]
          refine wpAnyH_take (i := 19) (oi := _) (v := ?vpf19) rfl (by kernel_rfl) (by kernel_rfl) (by kernel_rfl) (fun _ _ _ h => by cases h.1) (Or.inl ⟨by rfl, ?hypf19⟩) (by assumption) ?restpf19
          case hypf19 => (intro V hSw; (try dsimp only at hSw); go_simp) <;> with_reducible rfl
          try simp only [Act.put, List.getElem_toArray, List.getElem_cons_succ, List.getElem_cons_zero, List.setIfInBounds_toArray, List.set_cons_zero, List.set_cons_succ]
          refine wpAnyH_ready (rs := [15]) (by kernel_rfl) (by simp) ?_
          refine (AllReadyH.cons (o := _) rfl (fun K9 hK => ?_) AllReadyH.nil)
          go_simp
          refine (dk_off w9 d b m y (HG8.out.1.1.1.grown H9.out)).mono ?_
          rintro e w10 ⟨rfl, hw10⟩
          obtain rfl : w9 = w10 := hw10.symm
          (try go_wp2_with fail)
          refine hK.out _ _ (HSS.out _ H9.out) (fun hHeld => ?_)
          clear hK K9
          try simp only [Act.put, List.getElem_toArray, List.getElem_cons_succ, List.getElem_cons_zero, List.setIfInBounds_toArray, List.set_cons_zero, List.set_cons_succ]
          refine wpAnyH_take (i := 20) (oi := _) (v := ?vpf20) rfl (by kernel_rfl) (by kernel_rfl) (by kernel_rfl) (fun _ _ _ h => by cases h.1) (Or.inl ⟨by rfl, ?hypf20⟩) (by assumption) ?restpf20
          case hypf20 => (intro V hSw; (try dsimp only at hSw); go_simp) <;> with_reducible rfl
          try simp only [Act.put, List.getElem_toArray, List.getElem_cons_succ, List.getElem_cons_zero, List.setIfInBounds_toArray, List.set_cons_zero, List.set_cons_succ]
          refine wpAnyH_take (i := 21) (oi := _) (v := ?vpf21) rfl (by kernel_rfl) (by kernel_rfl) (by kernel_rfl) (fun _ _ _ h => by cases h.1) (Or.inl ⟨by rfl, ?hypf21⟩) (by assumption) ?restpf21
          case hypf21 => (intro V hSw; (try dsimp only at hSw); go_simp) <;> with_reducible rfl
          try simp only [Act.put, List.getElem_toArray, List.getElem_cons_succ, List.getElem_cons_zero, List.setIfInBounds_toArray, List.set_cons_zero, List.set_cons_succ]
          refine wpAnyH_take (i := 22) (oi := _) (v := ?vpf22) rfl (by kernel_rfl) (by kernel_rfl) (by kernel_rfl) (fun _ _ _ h => by cases h.1) (Or.inl ⟨by rfl, ?hypf22⟩) (by assumption) ?restpf22
          case hypf22 => (intro V hSw; (try dsimp only at hSw); go_simp) <;> with_reducible rfl
          try simp only [Act.put, List.getElem_toArray, List.getElem_cons_succ, List.getElem_cons_zero, List.setIfInBounds_toArray, List.set_cons_zero, List.set_cons_succ]
          refine wpAnyH_take (i := 23) (oi := _) (v := ?vpf23) rfl (by kernel_rfl) (by kernel_rfl) (by kernel_rfl) (fun _ _ _ h => by cases h.1) (Or.inl ⟨by rfl, ?hypf23⟩) (by assumption) ?restpf23
          case hypf23 => (intro V hSw; (try dsimp only at hSw); go_simp) <;> with_reducible rfl
          try simp only [Act.put, List.getElem_toArray, List.getElem_cons_succ, List.getElem_cons_zero, List.setIfInBounds_toArray, List.set_cons_zero, List.set_cons_succ]
          refine wpAnyH_take (i := 25) (oi := _) (v := ?vpf25) rfl (by kernel_rfl) (by kernel_rfl) (by kernel_rfl) (fun _ _ _ h => by cases h.1) (Or.inl ⟨by rfl, ?hypf25⟩) (by assumption) ?restpf25
          case hypf25 => (intro V hSw; (try dsimp only at hSw); go_simp) <;> with_reducible rfl
          try simp only [Act.put, List.getElem_toArray, List.getElem_cons_succ, List.getElem_cons_zero, List.setIfInBounds_toArray, List.set_cons_zero, List.set_cons_succ]
          refine wpAnyH_ready (rs := [24]) (by kernel_rfl) (by simp) ?_
          refine (AllReadyH.cons (o := _) rfl (fun K9 hK => ?_) AllReadyH.nil)
          go_simp
          refine (dsk_unsynced (HG8.out.1.1.grown H9.out)).mono ?_
          rintro e w11 ⟨A1, c1, rfl, hc1, hi1, g11⟩
          have H11 := Lib.hid (And.intro (grown_trans H9.out g11) (And.intro hi1 hc1))
          clear g11 hi1 hc1
          (try go_wp2_with fail)
          refine hK.out _ _ (HSS.out _ H11.out.1) (fun hHeld => ?_)
          clear hK K9
          try simp only [Act.put, List.getElem_toArray, List.getElem_cons_succ, List.getElem_cons_zero, List.setIfInBounds_toArray, List.set_cons_zero, List.set_cons_succ]
          refine wpAnyH_ready (rs := [26]) (by kernel_rfl) (by simp) ?_
          refine (AllReadyH.cons (o := _) rfl (fun K9 hK => ?_) AllReadyH.nil)
          go_simp
          refine (md_unsynced w11 p s u v y (HG8.out.1.2.grown H11.out.1)).mono ?_
          rintro e w12 ⟨x12, rfl, ho12, g12⟩
          obtain ⟨A2, c2, rfl, hc2, hi2⟩ := own_ints ho12
          have H12 := Lib.hid (And.intro (grown_trans H11.out.1 g12) (And.intro (IntsAt.kept H11.out.2.1 (F := fun _ => False) (Kept.of_grown g12 fun _ e => by cases e) (fun _ _ h => h)) (And.intro hi2 hc2)))
          clear ho12 g12 hi2 hc2
          (try go_wp2_with fail)
          refine hK.out _ _ (HSS.out _ H12.out.1) (fun hHeld => ?_)
          clear hK K9
          try simp only [Act.put, List.getElem_toArray, List.getElem_cons_succ, List.getElem_cons_zero, List.setIfInBounds_toArray, List.set_cons_zero, List.set_cons_succ]
          refine wpAnyH_ready (rs := [27]) (by kernel_rfl) (by simp) ?_
          refine (AllReadyH.cons (o := _) rfl (fun K9 hK => ?_) AllReadyH.nil)
          go_simp
          refine (sameints_is w12 A1 A2 c1 c2 (dirtyL y.wr).length (dirtyL y.wr) rfl (by have := dirtyL_length_le y.wr; have := HG8.out.1.2.2.2.2.2.1; have := HG8.out.1.2.2.2.2.2.2.2.1; omega) H12.out.2.1 H12.out.2.2.1).mono ?_
          rintro e w13 ⟨rfl, g13⟩
          have H13 := Lib.hid (grown_trans H12.out.1 g13)
          clear g13
          (try go_wp2_with fail)
          refine hK.out _ _ (HSS.out _ H13.out) (fun hHeld => ?_)
          clear hK K9
          try simp only [Act.put, List.getElem_toArray, List.getElem_cons_succ, List.getElem_cons_zero, List.setIfInBounds_toArray, List.set_cons_zero, List.set_cons_succ]
          refine wpAnyH_take (i := 28) (oi := _) (v := ?vpf28) rfl (by kernel_rfl) (by kernel_rfl) (by kernel_rfl) (fun _ _ _ h => by cases h.1) (Or.inl ⟨by rfl, ?hypf28⟩) (by assumption) ?restpf28
          case hypf28 => (intro V hSw; (try dsimp only at hSw); go_simp) <;> with_reducible rfl
          try simp only [Act.put, List.getElem_toArray, List.getElem_cons_succ, List.getElem_cons_zero, List.setIfInBounds_toArray, List.set_cons_zero, List.set_cons_succ]
          refine wpAnyH_take (i := 29) (oi := _) (v := ?vpf29) rfl (by kernel_rfl) (by kernel_rfl) (by kernel_rfl) (fun _ _ _ h => by cases h.1) (Or.inl ⟨by rfl, ?hypf29⟩) (by assumption) ?restpf29
          case hypf29 => (intro V hSw; (try dsimp only at hSw); go_simp) <;> with_reducible rfl
          try simp only [Act.put, List.getElem_toArray, List.getElem_cons_succ, List.getElem_cons_zero, List.setIfInBounds_toArray, List.set_cons_zero, List.set_cons_succ]
          refine wpAnyH_done (by kernel_rfl) ?_ _
          refine ⟨rfl, hK8 _ _ ?_⟩
          gi_wp2
          go_roundw
          case rel => exact ⟨k + 1, by omega, by simp, y, HG8.out.1.1.grown H13.out, HG8.out.1.2.grown H13.out⟩
          case measure => simp [intOf]; omega

        by_cases hk2_ : ok_ = 2
        · obtain rfl := hk2_
          clear hk1
          have hds := dsk_sync HX.out.1 (HE.out.var 5 (by omega)) (E 0)
          have HDS := Lib.hid hds
          clear hds
          gi_wp2
          try rw [hq]
          try rw [hW1]
          refine ⟨trivial, ?_⟩
          refine (callsIn_wide.2 (HDS.out)).mono ?_
          rintro e w4 ⟨rfl, hd4, ht4⟩
          have H4 := Lib.hid (And.intro hd4 (And.intro (md_beside HX.out.2.1 H3.out.2.2.1 ht4) (HX.out.2.2.1.kept ht4 (by have := HX.out.2.2.2.1; omega))))
          clear hd4 ht4
          gi_wp2
          refine ⟨trivial, ?_⟩
          refine (callsIn_wide.2 (num_eV w4 w.heap.size E (HE.out.grown H4.out.1.grownNone (fun _ e => by cases e)) (sE z))).mono ?_
          rintro e w5 ⟨rfl, g5⟩
          have H5_ := Lib.hid g5
          clear g5
          gi_wp2
          refine ⟨trivial, ?_⟩
          refine (callsIn_wide.2 (md_sync w5 p s u v z (H4.out.2.1.grown H5_.out))).mono ?_
          rintro e w6 ⟨rfl, hm6, k6⟩
          obtain ⟨y, hy⟩ : ∃ y, sS z = y := ⟨_, rfl⟩
          rw [hy] at hm6
          have HT : Hid (Dsk w w6 d b m y ∧ MdIs w6 p s u v y ∧ Blk w6 q 35 #[.int .i64 2, .int .i64 oi, .int .u8 ob, .slice oA on oc]) := Lib.hid ⟨by rw [← hy]; exact dk_beside (H4.out.1.grown H5_.out) H3.out.2.2.1 (k6.mono (fun j _ h => by rcases h with h | h | h; exact .inl h; exact .inr (.inl h); exact .inr (.inr (.inr h)))), hm6, (H4.out.2.2.grown H5_.out (by simp)).kept k6 (by have := HX.out.2.2.2.1; omega)⟩
          clear hm6 k6 hy
          gi_upto_region 29 with fail
          obtain ⟨es, hes⟩ : ∃ es, ((rV y oi).map (Value.int .u8)).toArray = es := ⟨_, rfl⟩
          have hl64 := readS_len HT.out.2.1 oi
          have hsec : secV (rV y oi) = .agg es := by rw [secV, hes]
          have hez : es.size = 64 := by rw [← hes]; simpa using hl64
          have heo : es.all (·.oneCell') = true := by rw [← hes]; simp [Array.all_eq_true_iff_forall_mem, Value.oneCell']
          have hr1 := dsk_read HT.out.1 (HE.out.var 0 (by omega)) (HE.out.var 5 (by omega)) oi
          rw [hsec] at hr1
          have HR1 := Lib.hid hr1
          have HQ := Lib.hid (And.intro hsec (And.intro hez (And.intro heo (fun w => eq_row w _ hl64 es hes))))
          clear hes hl64 hsec hez heo hr1
          have y1 := HT.out.2.2.cell 1
          simp only [List.getElem?_toArray, List.getElem?_cons_zero, List.getElem?_cons_succ] at y1
          gi_wp2
          refine ⟨trivial, ?_⟩
          refine (callsIn_wide.2 HR1.out).mono ?_
          rintro e w5 ⟨rfl, g5⟩
          have H5 := Lib.hid g5
          have y1 := (HT.out.2.2.grown g5 (by simp)).cell 1
          simp only [List.getElem?_toArray, List.getElem?_cons_zero, List.getElem?_cons_succ] at y1
          clear g5
          have hz := HZ.out
          gi_upto_region 30 with (first
            | (refine wpListIn_store_row rfl 36 _ _ rfl w5.heap.size es rfl rfl 36 z6 (heap_alloc_new w5 _) (by rw [HQ.out.2.1]; kernel_rfl) (by rw [HQ.out.2.1, HY.out.2.2.1]) HQ.out.2.2.1 ?_)
            | gi_in)
          clear hz
          obtain ⟨q6, hq6⟩ : ∃ q6, w5.heap.size = q6 := ⟨_, rfl⟩
          obtain ⟨W6, hW6⟩ : ∃ W6, (w5.alloc (.cells z6 36)).setRow q6 es = W6 := ⟨_, rfl⟩
          have g6 : w6.grownBy W6 none := grown_trans H5.out (by rw [← hW6]; exact grown_row (World.grownBy_alloc _ _ none) (.inl (by omega)) _)
          have b6 : Blk W6 q6 36 es := by rw [← hW6, ← hq6]; exact (Blk.new w5 _ _).row es
          have hr2 := md_read W6 p s u v y (HT.out.2.1.grown g6) oi
          rw [HQ.out.1] at hr2
          have y1 := (HT.out.2.2.grown g6 (by simp)).cell 1
          simp only [List.getElem?_toArray, List.getElem?_cons_zero, List.getElem?_cons_succ] at y1
          have H6 := Lib.hid (And.intro g6 (And.intro b6 hr2))
          rw [hq6, hW6]
          clear g6 b6 hr2 hq6 hW6
          gi_wp2
          refine ⟨trivial, ?_⟩
          refine (callsIn_wide.2 H6.out.2.2).mono ?_
          rintro e w7 ⟨rfl, g7⟩
          have H7 := Lib.hid g7
          clear g7
          have hz := HZ.out
          gi_upto_region 31 with (first
            | (refine wpListIn_store_row rfl 36 _ _ rfl w7.heap.size es rfl rfl 36 z6 (heap_alloc_new w7 _) (by rw [HQ.out.2.1]; kernel_rfl) (by rw [HQ.out.2.1, HY.out.2.2.1]) HQ.out.2.2.1 ?_)
            | gi_in)
          rename_i K8 hK8
          clear hz
          obtain ⟨q8, hq8⟩ : ∃ q8, w7.heap.size = q8 := ⟨_, rfl⟩
          obtain ⟨W7, hW7⟩ : ∃ W7, (w7.alloc (.cells z6 36)).setRow q8 es = W7 := ⟨_, rfl⟩
          have g8 : W6.grownBy W7 none := grown_trans H7.out (by rw [← hW7]; exact grown_row (World.grownBy_alloc _ _ none) (.inl (by omega)) _)
          have b8 : Blk W7 q8 36 es := by rw [← hW7, ← hq8]; exact (Blk.new w7 _ _).row es
          rw [hq8, hW7]
          obtain ⟨W8, hW8⟩ : ∃ W8, W7.drew = W8 := ⟨_, rfl⟩
          have g78 : W7.grownBy W8 none := by rw [← hW8]; exact grown_drew (World.grownBy.refl W7 none)
          have g68 := grown_trans g8 g78
          have gT8 := grown_trans H6.out.1 g68
          have hss : ∀ Y, W8.grownBy Y none → Y.rangeAt q6 0 es.toList ∧ Y.rangeAt q8 0 es.toList ∧ Y.cell? ⟨p, 3, none⟩ = some (.bool y.off) := fun Y hY =>
            ⟨range_of_blk (H6.out.2.1.grown (grown_trans g68 hY) (by simp)), range_of_blk (b8.grown (grown_trans g78 hY) (by simp)), (HT.out.2.1.1.grown (grown_trans gT8 hY) (by simp)).cell 3⟩
          have HSS := Lib.hid hss
          have HG8 := Lib.hid (And.intro (And.intro (HT.out.1.grown gT8) (HT.out.2.1.grown gT8)) hq8)
          clear hss g8 b8 g78 g68 gT8 hq8 hW7
          refine wpIn_normal ?_
          refine wpIn_region_held_wide (S := fun Y => Y.rangeAt q6 0 es.toList ∧ Y.rangeAt q8 0 es.toList ∧ Y.cell? ⟨p, 3, none⟩ = some (.bool y.off)) (by kernel_rfl) (by kernel_rfl) (by rintro ⟨_, _, h, _⟩; cases h) (by rw [hW8]; exact HSS.out _ (World.grownBy.refl W8 none)) (fun hHeld => ?_)
          rw [hW8] at hHeld ⊢
          refine wpAnyH_take (i := 0) (oi := _) (v := ?vpc0) rfl (by kernel_rfl) (by kernel_rfl) (by kernel_rfl) (fun _ _ _ h => by cases h.1) (Or.inl ⟨by rfl, ?hypc0⟩) (by assumption) ?restpc0
          case hypc0 => (intro V hSw; (try dsimp only at hSw); go_simp) <;> with_reducible rfl
          try simp only [Act.put, List.getElem_toArray, List.getElem_cons_succ, List.getElem_cons_zero, List.setIfInBounds_toArray, List.set_cons_zero, List.set_cons_succ]
          refine wpAnyH_take (i := 1) (oi := _) (v := ?vpc1) rfl (by kernel_rfl) (by kernel_rfl) (by kernel_rfl) (fun _ _ _ h => by cases h.1) (Or.inl ⟨by rfl, ?hypc1⟩) (by assumption) ?restpc1
          case hypc1 => (intro V hSw; (try dsimp only at hSw); go_simp) <;> with_reducible rfl
          try simp only [Act.put, List.getElem_toArray, List.getElem_cons_succ, List.getElem_cons_zero, List.setIfInBounds_toArray, List.set_cons_zero, List.set_cons_succ]
          refine wpAnyH_take (i := 2) (oi := _) (v := ?vpc2) rfl (by kernel_rfl) (by kernel_rfl) (by kernel_rfl) (fun _ _ _ h => by cases h.1) (Or.inl ⟨by rfl, ?hypc2⟩) (by assumption) ?restpc2
          case hypc2 => (intro V hSw; (try dsimp only at hSw); go_simp) <;> with_reducible rfl
          try simp only [Act.put, List.getElem_toArray, List.getElem_cons_succ, List.getElem_cons_zero, List.setIfInBounds_toArray, List.set_cons_zero, List.set_cons_succ]
          refine wpAnyH_take (i := 3) (oi := _) (v := .agg es) rfl (by kernel_rfl) (by kernel_rfl) (by kernel_rfl) (fun _ _ _ h => by cases h.1) (yieldsIf_load_mid (by rfl) _ _ rfl q6 0 rfl es.toList _ (fun V hSw => hSw.1) Tryd.underlying36 rfl (by rw [Array.length_toList, HQ.out.2.1]; kernel_rfl)) (by assumption) ?restpc3
          try simp only [Act.put, List.getElem_toArray, List.getElem_cons_succ, List.getElem_cons_zero, List.setIfInBounds_toArray, List.set_cons_zero, List.set_cons_succ]
          refine wpAnyH_take (i := 4) (oi := _) (v := .agg es) rfl (by kernel_rfl) (by kernel_rfl) (by kernel_rfl) (fun _ _ _ h => by cases h.1) (yieldsIf_load_mid (by rfl) _ _ rfl q8 0 rfl es.toList _ (fun V hSw => hSw.2.1) Tryd.underlying36 rfl (by rw [Array.length_toList, HQ.out.2.1]; kernel_rfl)) (by assumption) ?restpc4
          try simp only [Act.put, List.getElem_toArray, List.getElem_cons_succ, List.getElem_cons_zero, List.setIfInBounds_toArray, List.set_cons_zero, List.set_cons_succ]
          have heq := HQ.out.2.2.2
          refine wpAnyH_take (i := 5) (oi := _) (v := ?vpc5) rfl (by kernel_rfl) (by kernel_rfl) (by kernel_rfl) (fun _ _ _ h => by cases h.1) (Or.inl ⟨by rfl, ?hypc5⟩) (by assumption) ?restpc5
          case hypc5 => (intro V hSw; (try dsimp only at hSw); go_simp) <;> with_reducible rfl
          try simp only [Act.put, List.getElem_toArray, List.getElem_cons_succ, List.getElem_cons_zero, List.setIfInBounds_toArray, List.set_cons_zero, List.set_cons_succ]
          clear heq
          refine wpAnyH_take (i := 6) (oi := _) (v := ?vpc6) rfl (by kernel_rfl) (by kernel_rfl) (by kernel_rfl) (fun _ _ _ h => by cases h.1) (Or.inl ⟨by rfl, ?hypc6⟩) (by assumption) ?restpc6
          case hypc6 => (intro V hSw; (try dsimp only at hSw); go_simp) <;> with_reducible rfl
          try simp only [Act.put, List.getElem_toArray, List.getElem_cons_succ, List.getElem_cons_zero, List.setIfInBounds_toArray, List.set_cons_zero, List.set_cons_succ]
          refine wpAnyH_take (i := 7) (oi := _) (v := ?vpc7) rfl (by kernel_rfl) (by kernel_rfl) (by kernel_rfl) (fun _ _ _ h => by cases h.1) (Or.inl ⟨by rfl, ?hypc7⟩) (by assumption) ?restpc7
          case hypc7 => (intro V hSw; (try dsimp only at hSw); go_simp) <;> with_reducible rfl
          try simp only [Act.put, List.getElem_toArray, List.getElem_cons_succ, List.getElem_cons_zero, List.setIfInBounds_toArray, List.set_cons_zero, List.set_cons_succ]
          refine wpAnyH_take (i := 8) (oi := _) (v := ?vpc8) rfl (by kernel_rfl) (by kernel_rfl) (by kernel_rfl) (fun _ _ _ h => by cases h.1) (Or.inl ⟨by rfl, ?hypc8⟩) (by assumption) ?restpc8
          case hypc8 => (intro V hSw; (try dsimp only at hSw); go_simp) <;> with_reducible rfl
          try simp only [Act.put, List.getElem_toArray, List.getElem_cons_succ, List.getElem_cons_zero, List.setIfInBounds_toArray, List.set_cons_zero, List.set_cons_succ]
          refine wpAnyH_take (i := 10) (oi := _) (v := ?vpc10) rfl (by kernel_rfl) (by kernel_rfl) (by kernel_rfl) (fun _ _ _ h => by cases h.1) (Or.inl ⟨by rfl, ?hypc10⟩) (by assumption) ?restpc10
          case hypc10 => (intro V hSw; (try dsimp only at hSw); go_simp) <;> with_reducible rfl
          try simp only [Act.put, List.getElem_toArray, List.getElem_cons_succ, List.getElem_cons_zero, List.setIfInBounds_toArray, List.set_cons_zero, List.set_cons_succ]
          refine wpAnyH_ready (rs := [9]) (by kernel_rfl) (by simp) ?_
          refine (AllReadyH.cons (o := _) rfl (fun K9 hK => ?_) AllReadyH.nil)
          go_simp
          refine (num_eV W8 w.heap.size E (HE.out.grown (HG8.out.1.1.grownNone) (fun _ e => by cases e)) (rE y oi)).mono ?_
          rintro e w9 ⟨rfl, g9⟩
          have H9 := Lib.hid g9
          clear g9
          (try go_wp2_with fail)
          refine hK.out _ _ (HSS.out _ H9.out) (fun hHeld => ?_)
          clear hK K9
          try simp only [Act.put, List.getElem_toArray, List.getElem_cons_succ, List.getElem_cons_zero, List.setIfInBounds_toArray, List.set_cons_zero, List.set_cons_succ]
          refine wpAnyH_take (i := 11) (oi := _) (v := ?vpc11) rfl (by kernel_rfl) (by kernel_rfl) (by kernel_rfl) (fun _ _ _ h => by cases h.1) (Or.inl ⟨by rfl, ?hypc11⟩) (by assumption) ?restpc11
          case hypc11 => (intro V hSw; (try dsimp only at hSw); go_simp) <;> with_reducible rfl
          try simp only [Act.put, List.getElem_toArray, List.getElem_cons_succ, List.getElem_cons_zero, List.setIfInBounds_toArray, List.set_cons_zero, List.set_cons_succ]
          refine wpAnyH_take (i := 12) (oi := _) (v := ?vpc12) rfl (by kernel_rfl) (by kernel_rfl) (by kernel_rfl) (fun _ _ _ h => by cases h.1) (Or.inl ⟨by rfl, ?hypc12⟩) (by assumption) ?restpc12
          case hypc12 => (intro V hSw; (try dsimp only at hSw); go_simp) <;> with_reducible rfl
          try simp only [Act.put, List.getElem_toArray, List.getElem_cons_succ, List.getElem_cons_zero, List.setIfInBounds_toArray, List.set_cons_zero, List.set_cons_succ]
          refine wpAnyH_take (i := 13) (oi := _) (v := ?vpc13) rfl (by kernel_rfl) (by kernel_rfl) (by kernel_rfl) (fun _ _ _ h => by cases h.1) (Or.inl ⟨by rfl, ?hypc13⟩) (by assumption) ?restpc13
          case hypc13 => (intro V hSw; (try dsimp only at hSw); go_simp) <;> with_reducible rfl
          try simp only [Act.put, List.getElem_toArray, List.getElem_cons_succ, List.getElem_cons_zero, List.setIfInBounds_toArray, List.set_cons_zero, List.set_cons_succ]
          refine wpAnyH_take (i := 14) (oi := _) (v := ?vpc14) rfl (by kernel_rfl) (by kernel_rfl) (by kernel_rfl) (fun _ _ _ h => by cases h.1) (Or.inl ⟨by rfl, ?hypc14⟩) (by assumption) ?restpc14
          case hypc14 => (intro V hSw; (try dsimp only at hSw); go_simp) <;> with_reducible rfl
          try simp only [Act.put, List.getElem_toArray, List.getElem_cons_succ, List.getElem_cons_zero, List.setIfInBounds_toArray, List.set_cons_zero, List.set_cons_succ]
          refine wpAnyH_take (i := 16) (oi := _) (v := ?vpc16) rfl (by kernel_rfl) (by kernel_rfl) (by kernel_rfl) (fun _ _ _ h => by cases h.1) (Or.inl ⟨by rfl, ?hypc16⟩) (by assumption) ?restpc16
          case hypc16 => (intro V hSw; (try dsimp only at hSw); go_simp) <;> with_reducible rfl
          try simp only [Act.put, List.getElem_toArray, List.getElem_cons_succ, List.getElem_cons_zero, List.setIfInBounds_toArray, List.set_cons_zero, List.set_cons_succ]
          refine wpAnyH_take (i := 17) (oi := _) (v := ?vpc17) rfl (by kernel_rfl) (by kernel_rfl) (by kernel_rfl) (fun _ _ _ h => by cases h.1) (Or.inl ⟨by rfl, ?hypc17⟩) (by assumption) ?restpc17
          case hypc17 => (intro V hSw; (try dsimp only at hSw); go_simp) <;> with_reducible rfl
          try simp only [Act.put, List.getElem_toArray, List.getElem_cons_succ, List.getElem_cons_zero, List.setIfInBounds_toArray, List.set_cons_zero, List.set_cons_succ]
          refine wpAnyH_take (i := 18) (oi := _) (v := ?vpc18) rfl (by kernel_rfl) (by kernel_rfl) (by kernel_rfl) (fun _ _ _ h => by cases h.1) (Or.inl ⟨by rfl, ?hypc18⟩) (by assumption) ?restpc18
          case hypc18 => (intro V hSw; (try dsimp only at hSw); go_simp) <;> with_reducible rfl
          try simp only [Act.put, List.getElem_toArray, List.getElem_cons_succ, List.getElem_cons_zero, List.setIfInBounds_toArray, List.set_cons_zero, List.set_cons_succ]
          refine wpAnyH_take (i := 19) (oi := _) (v := ?vpc19) rfl (by kernel_rfl) (by kernel_rfl) (by kernel_rfl) (fun _ _ _ h => by cases h.1) (Or.inl ⟨by rfl, ?hypc19⟩) (by assumption) ?restpc19
          case hypc19 => (intro V hSw; (try dsimp only at hSw); go_simp) <;> with_reducible rfl
          try simp only [Act.put, List.getElem_toArray, List.getElem_cons_succ, List.getElem_cons_zero, List.setIfInBounds_toArray, List.set_cons_zero, List.set_cons_succ]
          refine wpAnyH_ready (rs := [15]) (by kernel_rfl) (by simp) ?_
          refine (AllReadyH.cons (o := _) rfl (fun K9 hK => ?_) AllReadyH.nil)
          go_simp
          refine (dk_off w9 d b m y (HG8.out.1.1.1.grown H9.out)).mono ?_
          rintro e w10 ⟨rfl, hw10⟩
          obtain rfl : w9 = w10 := hw10.symm
          (try go_wp2_with fail)
          refine hK.out _ _ (HSS.out _ H9.out) (fun hHeld => ?_)
          clear hK K9
          try simp only [Act.put, List.getElem_toArray, List.getElem_cons_succ, List.getElem_cons_zero, List.setIfInBounds_toArray, List.set_cons_zero, List.set_cons_succ]
          refine wpAnyH_take (i := 20) (oi := _) (v := ?vpc20) rfl (by kernel_rfl) (by kernel_rfl) (by kernel_rfl) (fun _ _ _ h => by cases h.1) (Or.inl ⟨by rfl, ?hypc20⟩) (by assumption) ?restpc20
          case hypc20 => (intro V hSw; (try dsimp only at hSw); go_simp) <;> with_reducible rfl
          try simp only [Act.put, List.getElem_toArray, List.getElem_cons_succ, List.getElem_cons_zero, List.setIfInBounds_toArray, List.set_cons_zero, List.set_cons_succ]
          refine wpAnyH_take (i := 21) (oi := _) (v := ?vpc21) rfl (by kernel_rfl) (by kernel_rfl) (by kernel_rfl) (fun _ _ _ h => by cases h.1) (Or.inl ⟨by rfl, ?hypc21⟩) (by assumption) ?restpc21
          case hypc21 => (intro V hSw; (try dsimp only at hSw); go_simp) <;> with_reducible rfl
          try simp only [Act.put, List.getElem_toArray, List.getElem_cons_succ, List.getElem_cons_zero, List.setIfInBounds_toArray, List.set_cons_zero, List.set_cons_succ]
          refine wpAnyH_take (i := 22) (oi := _) (v := ?vpc22) rfl (by kernel_rfl) (by kernel_rfl) (by kernel_rfl) (fun _ _ _ h => by cases h.1) (Or.inl ⟨by rfl, ?hypc22⟩) (by assumption) ?restpc22
          case hypc22 => (intro V hSw; (try dsimp only at hSw); go_simp) <;> with_reducible rfl
          try simp only [Act.put, List.getElem_toArray, List.getElem_cons_succ, List.getElem_cons_zero, List.setIfInBounds_toArray, List.set_cons_zero, List.set_cons_succ]
          refine wpAnyH_take (i := 23) (oi := _) (v := ?vpc23) rfl (by kernel_rfl) (by kernel_rfl) (by kernel_rfl) (fun _ _ _ h => by cases h.1) (Or.inl ⟨by rfl, ?hypc23⟩) (by assumption) ?restpc23
          case hypc23 => (intro V hSw; (try dsimp only at hSw); go_simp) <;> with_reducible rfl
          try simp only [Act.put, List.getElem_toArray, List.getElem_cons_succ, List.getElem_cons_zero, List.setIfInBounds_toArray, List.set_cons_zero, List.set_cons_succ]
          refine wpAnyH_take (i := 25) (oi := _) (v := ?vpc25) rfl (by kernel_rfl) (by kernel_rfl) (by kernel_rfl) (fun _ _ _ h => by cases h.1) (Or.inl ⟨by rfl, ?hypc25⟩) (by assumption) ?restpc25
          case hypc25 => (intro V hSw; (try dsimp only at hSw); go_simp) <;> with_reducible rfl
          try simp only [Act.put, List.getElem_toArray, List.getElem_cons_succ, List.getElem_cons_zero, List.setIfInBounds_toArray, List.set_cons_zero, List.set_cons_succ]
          refine wpAnyH_ready (rs := [24]) (by kernel_rfl) (by simp) ?_
          refine (AllReadyH.cons (o := _) rfl (fun K9 hK => ?_) AllReadyH.nil)
          go_simp
          refine (dsk_unsynced (HG8.out.1.1.grown H9.out)).mono ?_
          rintro e w11 ⟨A1, c1, rfl, hc1, hi1, g11⟩
          have H11 := Lib.hid (And.intro (grown_trans H9.out g11) (And.intro hi1 hc1))
          clear g11 hi1 hc1
          (try go_wp2_with fail)
          refine hK.out _ _ (HSS.out _ H11.out.1) (fun hHeld => ?_)
          clear hK K9
          try simp only [Act.put, List.getElem_toArray, List.getElem_cons_succ, List.getElem_cons_zero, List.setIfInBounds_toArray, List.set_cons_zero, List.set_cons_succ]
          refine wpAnyH_ready (rs := [26]) (by kernel_rfl) (by simp) ?_
          refine (AllReadyH.cons (o := _) rfl (fun K9 hK => ?_) AllReadyH.nil)
          go_simp
          refine (md_unsynced w11 p s u v y (HG8.out.1.2.grown H11.out.1)).mono ?_
          rintro e w12 ⟨x12, rfl, ho12, g12⟩
          obtain ⟨A2, c2, rfl, hc2, hi2⟩ := own_ints ho12
          have H12 := Lib.hid (And.intro (grown_trans H11.out.1 g12) (And.intro (IntsAt.kept H11.out.2.1 (F := fun _ => False) (Kept.of_grown g12 fun _ e => by cases e) (fun _ _ h => h)) (And.intro hi2 hc2)))
          clear ho12 g12 hi2 hc2
          (try go_wp2_with fail)
          refine hK.out _ _ (HSS.out _ H12.out.1) (fun hHeld => ?_)
          clear hK K9
          try simp only [Act.put, List.getElem_toArray, List.getElem_cons_succ, List.getElem_cons_zero, List.setIfInBounds_toArray, List.set_cons_zero, List.set_cons_succ]
          refine wpAnyH_ready (rs := [27]) (by kernel_rfl) (by simp) ?_
          refine (AllReadyH.cons (o := _) rfl (fun K9 hK => ?_) AllReadyH.nil)
          go_simp
          refine (sameints_is w12 A1 A2 c1 c2 (dirtyL y.wr).length (dirtyL y.wr) rfl (by have := dirtyL_length_le y.wr; have := HG8.out.1.2.2.2.2.2.1; have := HG8.out.1.2.2.2.2.2.2.2.1; omega) H12.out.2.1 H12.out.2.2.1).mono ?_
          rintro e w13 ⟨rfl, g13⟩
          have H13 := Lib.hid (grown_trans H12.out.1 g13)
          clear g13
          (try go_wp2_with fail)
          refine hK.out _ _ (HSS.out _ H13.out) (fun hHeld => ?_)
          clear hK K9
          try simp only [Act.put, List.getElem_toArray, List.getElem_cons_succ, List.getElem_cons_zero, List.setIfInBounds_toArray, List.set_cons_zero, List.set_cons_succ]
          refine wpAnyH_take (i := 28) (oi := _) (v := ?vpc28) rfl (by kernel_rfl) (by kernel_rfl) (by kernel_rfl) (fun _ _ _ h => by cases h.1) (Or.inl ⟨by rfl, ?hypc28⟩) (by assumption) ?restpc28
          case hypc28 => (intro V hSw; (try dsimp only at hSw); go_simp) <;> with_reducible rfl
          try simp only [Act.put, List.getElem_toArray, List.getElem_cons_succ, List.getElem_cons_zero, List.setIfInBounds_toArray, List.set_cons_zero, List.set_cons_succ]
          refine wpAnyH_take (i := 29) (oi := _) (v := ?vpc29) rfl (by kernel_rfl) (by kernel_rfl) (by kernel_rfl) (fun _ _ _ h => by cases h.1) (Or.inl ⟨by rfl, ?hypc29⟩) (by assumption) ?restpc29
          case hypc29 => (intro V hSw; (try dsimp only at hSw); go_simp) <;> with_reducible rfl
          try simp only [Act.put, List.getElem_toArray, List.getElem_cons_succ, List.getElem_cons_zero, List.setIfInBounds_toArray, List.set_cons_zero, List.set_cons_succ]
          refine wpAnyH_done (by kernel_rfl) ?_ _
          refine ⟨rfl, hK8 _ _ ?_⟩
          gi_wp2
          go_roundw
          case rel => exact ⟨k + 1, by omega, by simp, y, HG8.out.1.1.grown H13.out, HG8.out.1.2.grown H13.out⟩
          case measure => simp [intOf]; omega

        by_cases hk3 : ok_ = 3
        · obtain rfl := hk3
          clear hk1 hk2_
          have hds := dsk_arm HX.out.1 oi HX.out.2.2.2.2.2.2.2
          have HDS := Lib.hid hds
          clear hds
          gi_wp2
          try rw [hq]
          try rw [hW1]
          refine ⟨trivial, ?_⟩
          refine (callsIn_wide.2 (HDS.out)).mono ?_
          rintro e w4 ⟨rfl, hd4, ht4⟩
          have hb4 := HX.out.2.2.1.kept ht4 (show ¬ (q = d ∨ q = b ∨ q = m) by have := HX.out.2.2.2.1; omega)
          have y1 := hb4.cell 1
          simp only [List.getElem?_toArray, List.getElem?_cons_zero, List.getElem?_cons_succ] at y1
          have H4 := Lib.hid (And.intro hd4 (And.intro (md_beside HX.out.2.1 H3.out.2.2.1 ht4) hb4))
          clear hd4 ht4 hb4
          gi_wp2
          refine ⟨trivial, ?_⟩
          refine (callsIn_wide.2 (md_arm w4 p s u v z H4.out.2.1 oi HX.out.2.2.2.2.2.2.2)).mono ?_
          rintro e w6 ⟨rfl, hm6, k6⟩
          obtain ⟨y, hy⟩ : ∃ y, armS z oi = y := ⟨_, rfl⟩
          rw [hy] at hm6
          have HT : Hid (Dsk w w6 d b m y ∧ MdIs w6 p s u v y ∧ Blk w6 q 35 #[.int .i64 3, .int .i64 oi, .int .u8 ob, .slice oA on oc]) := Lib.hid ⟨by rw [← hy]; exact dk_beside H4.out.1 H3.out.2.2.1 (k6.mono (fun j _ h => .inl h)), hm6, H4.out.2.2.kept k6 (by have := HX.out.2.2.2.1; omega)⟩
          clear hm6 k6 hy y1
          gi_upto_region 29 with fail
          obtain ⟨es, hes⟩ : ∃ es, ((rV y oi).map (Value.int .u8)).toArray = es := ⟨_, rfl⟩
          have hl64 := readS_len HT.out.2.1 oi
          have hsec : secV (rV y oi) = .agg es := by rw [secV, hes]
          have hez : es.size = 64 := by rw [← hes]; simpa using hl64
          have heo : es.all (·.oneCell') = true := by rw [← hes]; simp [Array.all_eq_true_iff_forall_mem, Value.oneCell']
          have hr1 := dsk_read HT.out.1 (HE.out.var 0 (by omega)) (HE.out.var 5 (by omega)) oi
          rw [hsec] at hr1
          have HR1 := Lib.hid hr1
          have HQ := Lib.hid (And.intro hsec (And.intro hez (And.intro heo (fun w => eq_row w _ hl64 es hes))))
          clear hes hl64 hsec hez heo hr1
          have y1 := HT.out.2.2.cell 1
          simp only [List.getElem?_toArray, List.getElem?_cons_zero, List.getElem?_cons_succ] at y1
          gi_wp2
          refine ⟨trivial, ?_⟩
          refine (callsIn_wide.2 HR1.out).mono ?_
          rintro e w5 ⟨rfl, g5⟩
          have H5 := Lib.hid g5
          have y1 := (HT.out.2.2.grown g5 (by simp)).cell 1
          simp only [List.getElem?_toArray, List.getElem?_cons_zero, List.getElem?_cons_succ] at y1
          clear g5
          have hz := HZ.out
          gi_upto_region 30 with (first
            | (refine wpListIn_store_row rfl 36 _ _ rfl w5.heap.size es rfl rfl 36 z6 (heap_alloc_new w5 _) (by rw [HQ.out.2.1]; kernel_rfl) (by rw [HQ.out.2.1, HY.out.2.2.1]) HQ.out.2.2.1 ?_)
            | gi_in)
          clear hz
          obtain ⟨q6, hq6⟩ : ∃ q6, w5.heap.size = q6 := ⟨_, rfl⟩
          obtain ⟨W6, hW6⟩ : ∃ W6, (w5.alloc (.cells z6 36)).setRow q6 es = W6 := ⟨_, rfl⟩
          have g6 : w6.grownBy W6 none := grown_trans H5.out (by rw [← hW6]; exact grown_row (World.grownBy_alloc _ _ none) (.inl (by omega)) _)
          have b6 : Blk W6 q6 36 es := by rw [← hW6, ← hq6]; exact (Blk.new w5 _ _).row es
          have hr2 := md_read W6 p s u v y (HT.out.2.1.grown g6) oi
          rw [HQ.out.1] at hr2
          have y1 := (HT.out.2.2.grown g6 (by simp)).cell 1
          simp only [List.getElem?_toArray, List.getElem?_cons_zero, List.getElem?_cons_succ] at y1
          have H6 := Lib.hid (And.intro g6 (And.intro b6 hr2))
          rw [hq6, hW6]
          clear g6 b6 hr2 hq6 hW6
          gi_wp2
          refine ⟨trivial, ?_⟩
          refine (callsIn_wide.2 H6.out.2.2).mono ?_
          rintro e w7 ⟨rfl, g7⟩
          have H7 := Lib.hid g7
          clear g7
          have hz := HZ.out
          gi_upto_region 31 with (first
            | (refine wpListIn_store_row rfl 36 _ _ rfl w7.heap.size es rfl rfl 36 z6 (heap_alloc_new w7 _) (by rw [HQ.out.2.1]; kernel_rfl) (by rw [HQ.out.2.1, HY.out.2.2.1]) HQ.out.2.2.1 ?_)
            | gi_in)
          rename_i K8 hK8
          clear hz
          obtain ⟨q8, hq8⟩ : ∃ q8, w7.heap.size = q8 := ⟨_, rfl⟩
          obtain ⟨W7, hW7⟩ : ∃ W7, (w7.alloc (.cells z6 36)).setRow q8 es = W7 := ⟨_, rfl⟩
          have g8 : W6.grownBy W7 none := grown_trans H7.out (by rw [← hW7]; exact grown_row (World.grownBy_alloc _ _ none) (.inl (by omega)) _)
          have b8 : Blk W7 q8 36 es := by rw [← hW7, ← hq8]; exact (Blk.new w7 _ _).row es
          rw [hq8, hW7]
          obtain ⟨W8, hW8⟩ : ∃ W8, W7.drew = W8 := ⟨_, rfl⟩
          have g78 : W7.grownBy W8 none := by rw [← hW8]; exact grown_drew (World.grownBy.refl W7 none)
          have g68 := grown_trans g8 g78
          have gT8 := grown_trans H6.out.1 g68
          have hss : ∀ Y, W8.grownBy Y none → Y.rangeAt q6 0 es.toList ∧ Y.rangeAt q8 0 es.toList ∧ Y.cell? ⟨p, 3, none⟩ = some (.bool y.off) := fun Y hY =>
            ⟨range_of_blk (H6.out.2.1.grown (grown_trans g68 hY) (by simp)), range_of_blk (b8.grown (grown_trans g78 hY) (by simp)), (HT.out.2.1.1.grown (grown_trans gT8 hY) (by simp)).cell 3⟩
          have HSS := Lib.hid hss
          have HG8 := Lib.hid (And.intro (And.intro (HT.out.1.grown gT8) (HT.out.2.1.grown gT8)) hq8)
          clear hss g8 b8 g78 g68 gT8 hq8 hW7
          refine wpIn_normal ?_
          refine wpIn_region_held_wide (S := fun Y => Y.rangeAt q6 0 es.toList ∧ Y.rangeAt q8 0 es.toList ∧ Y.cell? ⟨p, 3, none⟩ = some (.bool y.off)) (by kernel_rfl) (by kernel_rfl) (by rintro ⟨_, _, h, _⟩; cases h) (by rw [hW8]; exact HSS.out _ (World.grownBy.refl W8 none)) (fun hHeld => ?_)
          rw [hW8] at hHeld ⊢
          refine wpAnyH_take (i := 0) (oi := _) (v := ?vpd0) rfl (by kernel_rfl) (by kernel_rfl) (by kernel_rfl) (fun _ _ _ h => by cases h.1) (Or.inl ⟨by rfl, ?hypd0⟩) (by assumption) ?restpd0
          case hypd0 => (intro V hSw; (try dsimp only at hSw); go_simp) <;> with_reducible rfl
          try simp only [Act.put, List.getElem_toArray, List.getElem_cons_succ, List.getElem_cons_zero, List.setIfInBounds_toArray, List.set_cons_zero, List.set_cons_succ]
          refine wpAnyH_take (i := 1) (oi := _) (v := ?vpd1) rfl (by kernel_rfl) (by kernel_rfl) (by kernel_rfl) (fun _ _ _ h => by cases h.1) (Or.inl ⟨by rfl, ?hypd1⟩) (by assumption) ?restpd1
          case hypd1 => (intro V hSw; (try dsimp only at hSw); go_simp) <;> with_reducible rfl
          try simp only [Act.put, List.getElem_toArray, List.getElem_cons_succ, List.getElem_cons_zero, List.setIfInBounds_toArray, List.set_cons_zero, List.set_cons_succ]
          refine wpAnyH_take (i := 2) (oi := _) (v := ?vpd2) rfl (by kernel_rfl) (by kernel_rfl) (by kernel_rfl) (fun _ _ _ h => by cases h.1) (Or.inl ⟨by rfl, ?hypd2⟩) (by assumption) ?restpd2
          case hypd2 => (intro V hSw; (try dsimp only at hSw); go_simp) <;> with_reducible rfl
          try simp only [Act.put, List.getElem_toArray, List.getElem_cons_succ, List.getElem_cons_zero, List.setIfInBounds_toArray, List.set_cons_zero, List.set_cons_succ]
          refine wpAnyH_take (i := 3) (oi := _) (v := .agg es) rfl (by kernel_rfl) (by kernel_rfl) (by kernel_rfl) (fun _ _ _ h => by cases h.1) (yieldsIf_load_mid (by rfl) _ _ rfl q6 0 rfl es.toList _ (fun V hSw => hSw.1) Tryd.underlying36 rfl (by rw [Array.length_toList, HQ.out.2.1]; kernel_rfl)) (by assumption) ?restpd3
          try simp only [Act.put, List.getElem_toArray, List.getElem_cons_succ, List.getElem_cons_zero, List.setIfInBounds_toArray, List.set_cons_zero, List.set_cons_succ]
          refine wpAnyH_take (i := 4) (oi := _) (v := .agg es) rfl (by kernel_rfl) (by kernel_rfl) (by kernel_rfl) (fun _ _ _ h => by cases h.1) (yieldsIf_load_mid (by rfl) _ _ rfl q8 0 rfl es.toList _ (fun V hSw => hSw.2.1) Tryd.underlying36 rfl (by rw [Array.length_toList, HQ.out.2.1]; kernel_rfl)) (by assumption) ?restpd4
          try simp only [Act.put, List.getElem_toArray, List.getElem_cons_succ, List.getElem_cons_zero, List.setIfInBounds_toArray, List.set_cons_zero, List.set_cons_succ]
          have heq := HQ.out.2.2.2
          refine wpAnyH_take (i := 5) (oi := _) (v := ?vpd5) rfl (by kernel_rfl) (by kernel_rfl) (by kernel_rfl) (fun _ _ _ h => by cases h.1) (Or.inl ⟨by rfl, ?hypd5⟩) (by assumption) ?restpd5
          case hypd5 => (intro V hSw; (try dsimp only at hSw); go_simp) <;> with_reducible rfl
          try simp only [Act.put, List.getElem_toArray, List.getElem_cons_succ, List.getElem_cons_zero, List.setIfInBounds_toArray, List.set_cons_zero, List.set_cons_succ]
          clear heq
          refine wpAnyH_take (i := 6) (oi := _) (v := ?vpd6) rfl (by kernel_rfl) (by kernel_rfl) (by kernel_rfl) (fun _ _ _ h => by cases h.1) (Or.inl ⟨by rfl, ?hypd6⟩) (by assumption) ?restpd6
          case hypd6 => (intro V hSw; (try dsimp only at hSw); go_simp) <;> with_reducible rfl
          try simp only [Act.put, List.getElem_toArray, List.getElem_cons_succ, List.getElem_cons_zero, List.setIfInBounds_toArray, List.set_cons_zero, List.set_cons_succ]
          refine wpAnyH_take (i := 7) (oi := _) (v := ?vpd7) rfl (by kernel_rfl) (by kernel_rfl) (by kernel_rfl) (fun _ _ _ h => by cases h.1) (Or.inl ⟨by rfl, ?hypd7⟩) (by assumption) ?restpd7
          case hypd7 => (intro V hSw; (try dsimp only at hSw); go_simp) <;> with_reducible rfl
          try simp only [Act.put, List.getElem_toArray, List.getElem_cons_succ, List.getElem_cons_zero, List.setIfInBounds_toArray, List.set_cons_zero, List.set_cons_succ]
          refine wpAnyH_take (i := 8) (oi := _) (v := ?vpd8) rfl (by kernel_rfl) (by kernel_rfl) (by kernel_rfl) (fun _ _ _ h => by cases h.1) (Or.inl ⟨by rfl, ?hypd8⟩) (by assumption) ?restpd8
          case hypd8 => (intro V hSw; (try dsimp only at hSw); go_simp) <;> with_reducible rfl
          try simp only [Act.put, List.getElem_toArray, List.getElem_cons_succ, List.getElem_cons_zero, List.setIfInBounds_toArray, List.set_cons_zero, List.set_cons_succ]
          refine wpAnyH_take (i := 10) (oi := _) (v := ?vpd10) rfl (by kernel_rfl) (by kernel_rfl) (by kernel_rfl) (fun _ _ _ h => by cases h.1) (Or.inl ⟨by rfl, ?hypd10⟩) (by assumption) ?restpd10
          case hypd10 => (intro V hSw; (try dsimp only at hSw); go_simp) <;> with_reducible rfl
          try simp only [Act.put, List.getElem_toArray, List.getElem_cons_succ, List.getElem_cons_zero, List.setIfInBounds_toArray, List.set_cons_zero, List.set_cons_succ]
          refine wpAnyH_ready (rs := [9]) (by kernel_rfl) (by simp) ?_
          refine (AllReadyH.cons (o := _) rfl (fun K9 hK => ?_) AllReadyH.nil)
          go_simp
          refine (num_eV W8 w.heap.size E (HE.out.grown (HG8.out.1.1.grownNone) (fun _ e => by cases e)) (rE y oi)).mono ?_
          rintro e w9 ⟨rfl, g9⟩
          have H9 := Lib.hid g9
          clear g9
          (try go_wp2_with fail)
          refine hK.out _ _ (HSS.out _ H9.out) (fun hHeld => ?_)
          clear hK K9
          try simp only [Act.put, List.getElem_toArray, List.getElem_cons_succ, List.getElem_cons_zero, List.setIfInBounds_toArray, List.set_cons_zero, List.set_cons_succ]
          refine wpAnyH_take (i := 11) (oi := _) (v := ?vpd11) rfl (by kernel_rfl) (by kernel_rfl) (by kernel_rfl) (fun _ _ _ h => by cases h.1) (Or.inl ⟨by rfl, ?hypd11⟩) (by assumption) ?restpd11
          case hypd11 => (intro V hSw; (try dsimp only at hSw); go_simp) <;> with_reducible rfl
          try simp only [Act.put, List.getElem_toArray, List.getElem_cons_succ, List.getElem_cons_zero, List.setIfInBounds_toArray, List.set_cons_zero, List.set_cons_succ]
          refine wpAnyH_take (i := 12) (oi := _) (v := ?vpd12) rfl (by kernel_rfl) (by kernel_rfl) (by kernel_rfl) (fun _ _ _ h => by cases h.1) (Or.inl ⟨by rfl, ?hypd12⟩) (by assumption) ?restpd12
          case hypd12 => (intro V hSw; (try dsimp only at hSw); go_simp) <;> with_reducible rfl
          try simp only [Act.put, List.getElem_toArray, List.getElem_cons_succ, List.getElem_cons_zero, List.setIfInBounds_toArray, List.set_cons_zero, List.set_cons_succ]
          refine wpAnyH_take (i := 13) (oi := _) (v := ?vpd13) rfl (by kernel_rfl) (by kernel_rfl) (by kernel_rfl) (fun _ _ _ h => by cases h.1) (Or.inl ⟨by rfl, ?hypd13⟩) (by assumption) ?restpd13
          case hypd13 => (intro V hSw; (try dsimp only at hSw); go_simp) <;> with_reducible rfl
          try simp only [Act.put, List.getElem_toArray, List.getElem_cons_succ, List.getElem_cons_zero, List.setIfInBounds_toArray, List.set_cons_zero, List.set_cons_succ]
          refine wpAnyH_take (i := 14) (oi := _) (v := ?vpd14) rfl (by kernel_rfl) (by kernel_rfl) (by kernel_rfl) (fun _ _ _ h => by cases h.1) (Or.inl ⟨by rfl, ?hypd14⟩) (by assumption) ?restpd14
          case hypd14 => (intro V hSw; (try dsimp only at hSw); go_simp) <;> with_reducible rfl
          try simp only [Act.put, List.getElem_toArray, List.getElem_cons_succ, List.getElem_cons_zero, List.setIfInBounds_toArray, List.set_cons_zero, List.set_cons_succ]
          refine wpAnyH_take (i := 16) (oi := _) (v := ?vpd16) rfl (by kernel_rfl) (by kernel_rfl) (by kernel_rfl) (fun _ _ _ h => by cases h.1) (Or.inl ⟨by rfl, ?hypd16⟩) (by assumption) ?restpd16
          case hypd16 => (intro V hSw; (try dsimp only at hSw); go_simp) <;> with_reducible rfl
          try simp only [Act.put, List.getElem_toArray, List.getElem_cons_succ, List.getElem_cons_zero, List.setIfInBounds_toArray, List.set_cons_zero, List.set_cons_succ]
          refine wpAnyH_take (i := 17) (oi := _) (v := ?vpd17) rfl (by kernel_rfl) (by kernel_rfl) (by kernel_rfl) (fun _ _ _ h => by cases h.1) (Or.inl ⟨by rfl, ?hypd17⟩) (by assumption) ?restpd17
          case hypd17 => (intro V hSw; (try dsimp only at hSw); go_simp) <;> with_reducible rfl
          try simp only [Act.put, List.getElem_toArray, List.getElem_cons_succ, List.getElem_cons_zero, List.setIfInBounds_toArray, List.set_cons_zero, List.set_cons_succ]
          refine wpAnyH_take (i := 18) (oi := _) (v := ?vpd18) rfl (by kernel_rfl) (by kernel_rfl) (by kernel_rfl) (fun _ _ _ h => by cases h.1) (Or.inl ⟨by rfl, ?hypd18⟩) (by assumption) ?restpd18
          case hypd18 => (intro V hSw; (try dsimp only at hSw); go_simp) <;> with_reducible rfl
          try simp only [Act.put, List.getElem_toArray, List.getElem_cons_succ, List.getElem_cons_zero, List.setIfInBounds_toArray, List.set_cons_zero, List.set_cons_succ]
          refine wpAnyH_take (i := 19) (oi := _) (v := ?vpd19) rfl (by kernel_rfl) (by kernel_rfl) (by kernel_rfl) (fun _ _ _ h => by cases h.1) (Or.inl ⟨by rfl, ?hypd19⟩) (by assumption) ?restpd19
          case hypd19 => (intro V hSw; (try dsimp only at hSw); go_simp) <;> with_reducible rfl
          try simp only [Act.put, List.getElem_toArray, List.getElem_cons_succ, List.getElem_cons_zero, List.setIfInBounds_toArray, List.set_cons_zero, List.set_cons_succ]
          refine wpAnyH_ready (rs := [15]) (by kernel_rfl) (by simp) ?_
          refine (AllReadyH.cons (o := _) rfl (fun K9 hK => ?_) AllReadyH.nil)
          go_simp
          refine (dk_off w9 d b m y (HG8.out.1.1.1.grown H9.out)).mono ?_
          rintro e w10 ⟨rfl, hw10⟩
          obtain rfl : w9 = w10 := hw10.symm
          (try go_wp2_with fail)
          refine hK.out _ _ (HSS.out _ H9.out) (fun hHeld => ?_)
          clear hK K9
          try simp only [Act.put, List.getElem_toArray, List.getElem_cons_succ, List.getElem_cons_zero, List.setIfInBounds_toArray, List.set_cons_zero, List.set_cons_succ]
          refine wpAnyH_take (i := 20) (oi := _) (v := ?vpd20) rfl (by kernel_rfl) (by kernel_rfl) (by kernel_rfl) (fun _ _ _ h => by cases h.1) (Or.inl ⟨by rfl, ?hypd20⟩) (by assumption) ?restpd20
          case hypd20 => (intro V hSw; (try dsimp only at hSw); go_simp) <;> with_reducible rfl
          try simp only [Act.put, List.getElem_toArray, List.getElem_cons_succ, List.getElem_cons_zero, List.setIfInBounds_toArray, List.set_cons_zero, List.set_cons_succ]
          refine wpAnyH_take (i := 21) (oi := _) (v := ?vpd21) rfl (by kernel_rfl) (by kernel_rfl) (by kernel_rfl) (fun _ _ _ h => by cases h.1) (Or.inl ⟨by rfl, ?hypd21⟩) (by assumption) ?restpd21
          case hypd21 => (intro V hSw; (try dsimp only at hSw); go_simp) <;> with_reducible rfl
          try simp only [Act.put, List.getElem_toArray, List.getElem_cons_succ, List.getElem_cons_zero, List.setIfInBounds_toArray, List.set_cons_zero, List.set_cons_succ]
          refine wpAnyH_take (i := 22) (oi := _) (v := ?vpd22) rfl (by kernel_rfl) (by kernel_rfl) (by kernel_rfl) (fun _ _ _ h => by cases h.1) (Or.inl ⟨by rfl, ?hypd22⟩) (by assumption) ?restpd22
          case hypd22 => (intro V hSw; (try dsimp only at hSw); go_simp) <;> with_reducible rfl
          try simp only [Act.put, List.getElem_toArray, List.getElem_cons_succ, List.getElem_cons_zero, List.setIfInBounds_toArray, List.set_cons_zero, List.set_cons_succ]
          refine wpAnyH_take (i := 23) (oi := _) (v := ?vpd23) rfl (by kernel_rfl) (by kernel_rfl) (by kernel_rfl) (fun _ _ _ h => by cases h.1) (Or.inl ⟨by rfl, ?hypd23⟩) (by assumption) ?restpd23
          case hypd23 => (intro V hSw; (try dsimp only at hSw); go_simp) <;> with_reducible rfl
          try simp only [Act.put, List.getElem_toArray, List.getElem_cons_succ, List.getElem_cons_zero, List.setIfInBounds_toArray, List.set_cons_zero, List.set_cons_succ]
          refine wpAnyH_take (i := 25) (oi := _) (v := ?vpd25) rfl (by kernel_rfl) (by kernel_rfl) (by kernel_rfl) (fun _ _ _ h => by cases h.1) (Or.inl ⟨by rfl, ?hypd25⟩) (by assumption) ?restpd25
          case hypd25 => (intro V hSw; (try dsimp only at hSw); go_simp) <;> with_reducible rfl
          try simp only [Act.put, List.getElem_toArray, List.getElem_cons_succ, List.getElem_cons_zero, List.setIfInBounds_toArray, List.set_cons_zero, List.set_cons_succ]
          refine wpAnyH_ready (rs := [24]) (by kernel_rfl) (by simp) ?_
          refine (AllReadyH.cons (o := _) rfl (fun K9 hK => ?_) AllReadyH.nil)
          go_simp
          refine (dsk_unsynced (HG8.out.1.1.grown H9.out)).mono ?_
          rintro e w11 ⟨A1, c1, rfl, hc1, hi1, g11⟩
          have H11 := Lib.hid (And.intro (grown_trans H9.out g11) (And.intro hi1 hc1))
          clear g11 hi1 hc1
          (try go_wp2_with fail)
          refine hK.out _ _ (HSS.out _ H11.out.1) (fun hHeld => ?_)
          clear hK K9
          try simp only [Act.put, List.getElem_toArray, List.getElem_cons_succ, List.getElem_cons_zero, List.setIfInBounds_toArray, List.set_cons_zero, List.set_cons_succ]
          refine wpAnyH_ready (rs := [26]) (by kernel_rfl) (by simp) ?_
          refine (AllReadyH.cons (o := _) rfl (fun K9 hK => ?_) AllReadyH.nil)
          go_simp
          refine (md_unsynced w11 p s u v y (HG8.out.1.2.grown H11.out.1)).mono ?_
          rintro e w12 ⟨x12, rfl, ho12, g12⟩
          obtain ⟨A2, c2, rfl, hc2, hi2⟩ := own_ints ho12
          have H12 := Lib.hid (And.intro (grown_trans H11.out.1 g12) (And.intro (IntsAt.kept H11.out.2.1 (F := fun _ => False) (Kept.of_grown g12 fun _ e => by cases e) (fun _ _ h => h)) (And.intro hi2 hc2)))
          clear ho12 g12 hi2 hc2
          (try go_wp2_with fail)
          refine hK.out _ _ (HSS.out _ H12.out.1) (fun hHeld => ?_)
          clear hK K9
          try simp only [Act.put, List.getElem_toArray, List.getElem_cons_succ, List.getElem_cons_zero, List.setIfInBounds_toArray, List.set_cons_zero, List.set_cons_succ]
          refine wpAnyH_ready (rs := [27]) (by kernel_rfl) (by simp) ?_
          refine (AllReadyH.cons (o := _) rfl (fun K9 hK => ?_) AllReadyH.nil)
          go_simp
          refine (sameints_is w12 A1 A2 c1 c2 (dirtyL y.wr).length (dirtyL y.wr) rfl (by have := dirtyL_length_le y.wr; have := HG8.out.1.2.2.2.2.2.1; have := HG8.out.1.2.2.2.2.2.2.2.1; omega) H12.out.2.1 H12.out.2.2.1).mono ?_
          rintro e w13 ⟨rfl, g13⟩
          have H13 := Lib.hid (grown_trans H12.out.1 g13)
          clear g13
          (try go_wp2_with fail)
          refine hK.out _ _ (HSS.out _ H13.out) (fun hHeld => ?_)
          clear hK K9
          try simp only [Act.put, List.getElem_toArray, List.getElem_cons_succ, List.getElem_cons_zero, List.setIfInBounds_toArray, List.set_cons_zero, List.set_cons_succ]
          refine wpAnyH_take (i := 28) (oi := _) (v := ?vpd28) rfl (by kernel_rfl) (by kernel_rfl) (by kernel_rfl) (fun _ _ _ h => by cases h.1) (Or.inl ⟨by rfl, ?hypd28⟩) (by assumption) ?restpd28
          case hypd28 => (intro V hSw; (try dsimp only at hSw); go_simp) <;> with_reducible rfl
          try simp only [Act.put, List.getElem_toArray, List.getElem_cons_succ, List.getElem_cons_zero, List.setIfInBounds_toArray, List.set_cons_zero, List.set_cons_succ]
          refine wpAnyH_take (i := 29) (oi := _) (v := ?vpd29) rfl (by kernel_rfl) (by kernel_rfl) (by kernel_rfl) (fun _ _ _ h => by cases h.1) (Or.inl ⟨by rfl, ?hypd29⟩) (by assumption) ?restpd29
          case hypd29 => (intro V hSw; (try dsimp only at hSw); go_simp) <;> with_reducible rfl
          try simp only [Act.put, List.getElem_toArray, List.getElem_cons_succ, List.getElem_cons_zero, List.setIfInBounds_toArray, List.set_cons_zero, List.set_cons_succ]
          refine wpAnyH_done (by kernel_rfl) ?_ _
          refine ⟨rfl, hK8 _ _ ?_⟩
          gi_wp2
          go_roundw
          case rel => exact ⟨k + 1, by omega, by simp, y, HG8.out.1.1.grown H13.out, HG8.out.1.2.grown H13.out⟩
          case measure => simp [intOf]; omega

        by_cases hk4 : ok_ = 4
        · obtain rfl := hk4
          clear hk1 hk2_ hk3
          have hds := dsk_crash HX.out.1 oA on oc ol HX.out.2.2.2.2.2.2.1 HX.out.2.2.2.2.1 (fun a e1 e2 => by have := HX.out.2.2.2.2.2.1 a e1 e2; have := HX.out.1.2.2; omega)
          have HDS := Lib.hid hds
          clear hds
          gi_wp2
          try rw [hq]
          try rw [hW1]
          refine ⟨trivial, ?_⟩
          refine (callsIn_wide.2 (HDS.out)).mono ?_
          rintro e w4 ⟨rfl, hd4, ht4⟩
          have hb4 := HX.out.2.2.1.kept ht4 (show ¬ (q = d ∨ q = b ∨ q = m) by have := HX.out.2.2.2.1; omega)
          have y3 := hb4.cell 3
          simp only [List.getElem?_toArray, List.getElem?_cons_zero, List.getElem?_cons_succ] at y3
          have H4 := Lib.hid (And.intro hd4 (And.intro (md_beside HX.out.2.1 H3.out.2.2.1 ht4) (And.intro hb4 (HX.out.2.2.2.2.1.kept ht4 (fun a e1 e2 => by have := HX.out.2.2.2.2.2.1 a e1 e2; have := HX.out.1.2.2; omega)))))
          clear hd4 ht4 hb4
          gi_wp2
          refine ⟨trivial, ?_⟩
          refine (callsIn_wide.2 (md_crash w4 p s u v z H4.out.2.1 oA on oc ol HX.out.2.2.2.2.2.2.1 H4.out.2.2.2 (fun a e1 e2 => by have := HX.out.2.2.2.2.2.1 a e1 e2; have := H3.out.2.2.2; omega))).mono ?_
          rintro e w6 ⟨rfl, hm6, k6⟩
          obtain ⟨y, hy⟩ : ∃ y, crashS z ol = y := ⟨_, rfl⟩
          rw [hy] at hm6
          have HT : Hid (Dsk w w6 d b m y ∧ MdIs w6 p s u v y ∧ Blk w6 q 35 #[.int .i64 4, .int .i64 oi, .int .u8 ob, .slice oA on oc]) := Lib.hid ⟨by rw [← hy]; exact dk_beside H4.out.1 H3.out.2.2.1 (k6.mono (fun j _ h => by rcases h with h | h | h; exact .inl h; exact .inr (.inl h); exact .inr (.inr (.inr h)))), hm6, H4.out.2.2.1.kept k6 (by have := HX.out.2.2.2.1; omega)⟩
          clear hm6 k6 hy y3
          gi_upto_region 29 with fail
          obtain ⟨es, hes⟩ : ∃ es, ((rV y oi).map (Value.int .u8)).toArray = es := ⟨_, rfl⟩
          have hl64 := readS_len HT.out.2.1 oi
          have hsec : secV (rV y oi) = .agg es := by rw [secV, hes]
          have hez : es.size = 64 := by rw [← hes]; simpa using hl64
          have heo : es.all (·.oneCell') = true := by rw [← hes]; simp [Array.all_eq_true_iff_forall_mem, Value.oneCell']
          have hr1 := dsk_read HT.out.1 (HE.out.var 0 (by omega)) (HE.out.var 5 (by omega)) oi
          rw [hsec] at hr1
          have HR1 := Lib.hid hr1
          have HQ := Lib.hid (And.intro hsec (And.intro hez (And.intro heo (fun w => eq_row w _ hl64 es hes))))
          clear hes hl64 hsec hez heo hr1
          have y1 := HT.out.2.2.cell 1
          simp only [List.getElem?_toArray, List.getElem?_cons_zero, List.getElem?_cons_succ] at y1
          gi_wp2
          refine ⟨trivial, ?_⟩
          refine (callsIn_wide.2 HR1.out).mono ?_
          rintro e w5 ⟨rfl, g5⟩
          have H5 := Lib.hid g5
          have y1 := (HT.out.2.2.grown g5 (by simp)).cell 1
          simp only [List.getElem?_toArray, List.getElem?_cons_zero, List.getElem?_cons_succ] at y1
          clear g5
          have hz := HZ.out
          gi_upto_region 30 with (first
            | (refine wpListIn_store_row rfl 36 _ _ rfl w5.heap.size es rfl rfl 36 z6 (heap_alloc_new w5 _) (by rw [HQ.out.2.1]; kernel_rfl) (by rw [HQ.out.2.1, HY.out.2.2.1]) HQ.out.2.2.1 ?_)
            | gi_in)
          clear hz
          obtain ⟨q6, hq6⟩ : ∃ q6, w5.heap.size = q6 := ⟨_, rfl⟩
          obtain ⟨W6, hW6⟩ : ∃ W6, (w5.alloc (.cells z6 36)).setRow q6 es = W6 := ⟨_, rfl⟩
          have g6 : w6.grownBy W6 none := grown_trans H5.out (by rw [← hW6]; exact grown_row (World.grownBy_alloc _ _ none) (.inl (by omega)) _)
          have b6 : Blk W6 q6 36 es := by rw [← hW6, ← hq6]; exact (Blk.new w5 _ _).row es
          have hr2 := md_read W6 p s u v y (HT.out.2.1.grown g6) oi
          rw [HQ.out.1] at hr2
          have y1 := (HT.out.2.2.grown g6 (by simp)).cell 1
          simp only [List.getElem?_toArray, List.getElem?_cons_zero, List.getElem?_cons_succ] at y1
          have H6 := Lib.hid (And.intro g6 (And.intro b6 hr2))
          rw [hq6, hW6]
          clear g6 b6 hr2 hq6 hW6
          gi_wp2
          refine ⟨trivial, ?_⟩
          refine (callsIn_wide.2 H6.out.2.2).mono ?_
          rintro e w7 ⟨rfl, g7⟩
          have H7 := Lib.hid g7
          clear g7
          have hz := HZ.out
          gi_upto_region 31 with (first
            | (refine wpListIn_store_row rfl 36 _ _ rfl w7.heap.size es rfl rfl 36 z6 (heap_alloc_new w7 _) (by rw [HQ.out.2.1]; kernel_rfl) (by rw [HQ.out.2.1, HY.out.2.2.1]) HQ.out.2.2.1 ?_)
            | gi_in)
          rename_i K8 hK8
          clear hz
          obtain ⟨q8, hq8⟩ : ∃ q8, w7.heap.size = q8 := ⟨_, rfl⟩
          obtain ⟨W7, hW7⟩ : ∃ W7, (w7.alloc (.cells z6 36)).setRow q8 es = W7 := ⟨_, rfl⟩
          have g8 : W6.grownBy W7 none := grown_trans H7.out (by rw [← hW7]; exact grown_row (World.grownBy_alloc _ _ none) (.inl (by omega)) _)
          have b8 : Blk W7 q8 36 es := by rw [← hW7, ← hq8]; exact (Blk.new w7 _ _).row es
          rw [hq8, hW7]
          obtain ⟨W8, hW8⟩ : ∃ W8, W7.drew = W8 := ⟨_, rfl⟩
          have g78 : W7.grownBy W8 none := by rw [← hW8]; exact grown_drew (World.grownBy.refl W7 none)
          have g68 := grown_trans g8 g78
          have gT8 := grown_trans H6.out.1 g68
          have hss : ∀ Y, W8.grownBy Y none → Y.rangeAt q6 0 es.toList ∧ Y.rangeAt q8 0 es.toList ∧ Y.cell? ⟨p, 3, none⟩ = some (.bool y.off) := fun Y hY =>
            ⟨range_of_blk (H6.out.2.1.grown (grown_trans g68 hY) (by simp)), range_of_blk (b8.grown (grown_trans g78 hY) (by simp)), (HT.out.2.1.1.grown (grown_trans gT8 hY) (by simp)).cell 3⟩
          have HSS := Lib.hid hss
          have HG8 := Lib.hid (And.intro (And.intro (HT.out.1.grown gT8) (HT.out.2.1.grown gT8)) hq8)
          clear hss g8 b8 g78 g68 gT8 hq8 hW7
          refine wpIn_normal ?_
          refine wpIn_region_held_wide (S := fun Y => Y.rangeAt q6 0 es.toList ∧ Y.rangeAt q8 0 es.toList ∧ Y.cell? ⟨p, 3, none⟩ = some (.bool y.off)) (by kernel_rfl) (by kernel_rfl) (by rintro ⟨_, _, h, _⟩; cases h) (by rw [hW8]; exact HSS.out _ (World.grownBy.refl W8 none)) (fun hHeld => ?_)
          rw [hW8] at hHeld ⊢
          refine wpAnyH_take (i := 0) (oi := _) (v := ?vpe0) rfl (by kernel_rfl) (by kernel_rfl) (by kernel_rfl) (fun _ _ _ h => by cases h.1) (Or.inl ⟨by rfl, ?hype0⟩) (by assumption) ?restpe0
          case hype0 => (intro V hSw; (try dsimp only at hSw); go_simp) <;> with_reducible rfl
          try simp only [Act.put, List.getElem_toArray, List.getElem_cons_succ, List.getElem_cons_zero, List.setIfInBounds_toArray, List.set_cons_zero, List.set_cons_succ]
          refine wpAnyH_take (i := 1) (oi := _) (v := ?vpe1) rfl (by kernel_rfl) (by kernel_rfl) (by kernel_rfl) (fun _ _ _ h => by cases h.1) (Or.inl ⟨by rfl, ?hype1⟩) (by assumption) ?restpe1
          case hype1 => (intro V hSw; (try dsimp only at hSw); go_simp) <;> with_reducible rfl
          try simp only [Act.put, List.getElem_toArray, List.getElem_cons_succ, List.getElem_cons_zero, List.setIfInBounds_toArray, List.set_cons_zero, List.set_cons_succ]
          refine wpAnyH_take (i := 2) (oi := _) (v := ?vpe2) rfl (by kernel_rfl) (by kernel_rfl) (by kernel_rfl) (fun _ _ _ h => by cases h.1) (Or.inl ⟨by rfl, ?hype2⟩) (by assumption) ?restpe2
          case hype2 => (intro V hSw; (try dsimp only at hSw); go_simp) <;> with_reducible rfl
          try simp only [Act.put, List.getElem_toArray, List.getElem_cons_succ, List.getElem_cons_zero, List.setIfInBounds_toArray, List.set_cons_zero, List.set_cons_succ]
          refine wpAnyH_take (i := 3) (oi := _) (v := .agg es) rfl (by kernel_rfl) (by kernel_rfl) (by kernel_rfl) (fun _ _ _ h => by cases h.1) (yieldsIf_load_mid (by rfl) _ _ rfl q6 0 rfl es.toList _ (fun V hSw => hSw.1) Tryd.underlying36 rfl (by rw [Array.length_toList, HQ.out.2.1]; kernel_rfl)) (by assumption) ?restpe3
          try simp only [Act.put, List.getElem_toArray, List.getElem_cons_succ, List.getElem_cons_zero, List.setIfInBounds_toArray, List.set_cons_zero, List.set_cons_succ]
          refine wpAnyH_take (i := 4) (oi := _) (v := .agg es) rfl (by kernel_rfl) (by kernel_rfl) (by kernel_rfl) (fun _ _ _ h => by cases h.1) (yieldsIf_load_mid (by rfl) _ _ rfl q8 0 rfl es.toList _ (fun V hSw => hSw.2.1) Tryd.underlying36 rfl (by rw [Array.length_toList, HQ.out.2.1]; kernel_rfl)) (by assumption) ?restpe4
          try simp only [Act.put, List.getElem_toArray, List.getElem_cons_succ, List.getElem_cons_zero, List.setIfInBounds_toArray, List.set_cons_zero, List.set_cons_succ]
          have heq := HQ.out.2.2.2
          refine wpAnyH_take (i := 5) (oi := _) (v := ?vpe5) rfl (by kernel_rfl) (by kernel_rfl) (by kernel_rfl) (fun _ _ _ h => by cases h.1) (Or.inl ⟨by rfl, ?hype5⟩) (by assumption) ?restpe5
          case hype5 => (intro V hSw; (try dsimp only at hSw); go_simp) <;> with_reducible rfl
          try simp only [Act.put, List.getElem_toArray, List.getElem_cons_succ, List.getElem_cons_zero, List.setIfInBounds_toArray, List.set_cons_zero, List.set_cons_succ]
          clear heq
          refine wpAnyH_take (i := 6) (oi := _) (v := ?vpe6) rfl (by kernel_rfl) (by kernel_rfl) (by kernel_rfl) (fun _ _ _ h => by cases h.1) (Or.inl ⟨by rfl, ?hype6⟩) (by assumption) ?restpe6
          case hype6 => (intro V hSw; (try dsimp only at hSw); go_simp) <;> with_reducible rfl
          try simp only [Act.put, List.getElem_toArray, List.getElem_cons_succ, List.getElem_cons_zero, List.setIfInBounds_toArray, List.set_cons_zero, List.set_cons_succ]
          refine wpAnyH_take (i := 7) (oi := _) (v := ?vpe7) rfl (by kernel_rfl) (by kernel_rfl) (by kernel_rfl) (fun _ _ _ h => by cases h.1) (Or.inl ⟨by rfl, ?hype7⟩) (by assumption) ?restpe7
          case hype7 => (intro V hSw; (try dsimp only at hSw); go_simp) <;> with_reducible rfl
          try simp only [Act.put, List.getElem_toArray, List.getElem_cons_succ, List.getElem_cons_zero, List.setIfInBounds_toArray, List.set_cons_zero, List.set_cons_succ]
          refine wpAnyH_take (i := 8) (oi := _) (v := ?vpe8) rfl (by kernel_rfl) (by kernel_rfl) (by kernel_rfl) (fun _ _ _ h => by cases h.1) (Or.inl ⟨by rfl, ?hype8⟩) (by assumption) ?restpe8
          case hype8 => (intro V hSw; (try dsimp only at hSw); go_simp) <;> with_reducible rfl
          try simp only [Act.put, List.getElem_toArray, List.getElem_cons_succ, List.getElem_cons_zero, List.setIfInBounds_toArray, List.set_cons_zero, List.set_cons_succ]
          refine wpAnyH_take (i := 10) (oi := _) (v := ?vpe10) rfl (by kernel_rfl) (by kernel_rfl) (by kernel_rfl) (fun _ _ _ h => by cases h.1) (Or.inl ⟨by rfl, ?hype10⟩) (by assumption) ?restpe10
          case hype10 => (intro V hSw; (try dsimp only at hSw); go_simp) <;> with_reducible rfl
          try simp only [Act.put, List.getElem_toArray, List.getElem_cons_succ, List.getElem_cons_zero, List.setIfInBounds_toArray, List.set_cons_zero, List.set_cons_succ]
          refine wpAnyH_ready (rs := [9]) (by kernel_rfl) (by simp) ?_
          refine (AllReadyH.cons (o := _) rfl (fun K9 hK => ?_) AllReadyH.nil)
          go_simp
          refine (num_eV W8 w.heap.size E (HE.out.grown (HG8.out.1.1.grownNone) (fun _ e => by cases e)) (rE y oi)).mono ?_
          rintro e w9 ⟨rfl, g9⟩
          have H9 := Lib.hid g9
          clear g9
          (try go_wp2_with fail)
          refine hK.out _ _ (HSS.out _ H9.out) (fun hHeld => ?_)
          clear hK K9
          try simp only [Act.put, List.getElem_toArray, List.getElem_cons_succ, List.getElem_cons_zero, List.setIfInBounds_toArray, List.set_cons_zero, List.set_cons_succ]
          refine wpAnyH_take (i := 11) (oi := _) (v := ?vpe11) rfl (by kernel_rfl) (by kernel_rfl) (by kernel_rfl) (fun _ _ _ h => by cases h.1) (Or.inl ⟨by rfl, ?hype11⟩) (by assumption) ?restpe11
          case hype11 => (intro V hSw; (try dsimp only at hSw); go_simp) <;> with_reducible rfl
          try simp only [Act.put, List.getElem_toArray, List.getElem_cons_succ, List.getElem_cons_zero, List.setIfInBounds_toArray, List.set_cons_zero, List.set_cons_succ]
          refine wpAnyH_take (i := 12) (oi := _) (v := ?vpe12) rfl (by kernel_rfl) (by kernel_rfl) (by kernel_rfl) (fun _ _ _ h => by cases h.1) (Or.inl ⟨by rfl, ?hype12⟩) (by assumption) ?restpe12
          case hype12 => (intro V hSw; (try dsimp only at hSw); go_simp) <;> with_reducible rfl
          try simp only [Act.put, List.getElem_toArray, List.getElem_cons_succ, List.getElem_cons_zero, List.setIfInBounds_toArray, List.set_cons_zero, List.set_cons_succ]
          refine wpAnyH_take (i := 13) (oi := _) (v := ?vpe13) rfl (by kernel_rfl) (by kernel_rfl) (by kernel_rfl) (fun _ _ _ h => by cases h.1) (Or.inl ⟨by rfl, ?hype13⟩) (by assumption) ?restpe13
          case hype13 => (intro V hSw; (try dsimp only at hSw); go_simp) <;> with_reducible rfl
          try simp only [Act.put, List.getElem_toArray, List.getElem_cons_succ, List.getElem_cons_zero, List.setIfInBounds_toArray, List.set_cons_zero, List.set_cons_succ]
          refine wpAnyH_take (i := 14) (oi := _) (v := ?vpe14) rfl (by kernel_rfl) (by kernel_rfl) (by kernel_rfl) (fun _ _ _ h => by cases h.1) (Or.inl ⟨by rfl, ?hype14⟩) (by assumption) ?restpe14
          case hype14 => (intro V hSw; (try dsimp only at hSw); go_simp) <;> with_reducible rfl
          try simp only [Act.put, List.getElem_toArray, List.getElem_cons_succ, List.getElem_cons_zero, List.setIfInBounds_toArray, List.set_cons_zero, List.set_cons_succ]
          refine wpAnyH_take (i := 16) (oi := _) (v := ?vpe16) rfl (by kernel_rfl) (by kernel_rfl) (by kernel_rfl) (fun _ _ _ h => by cases h.1) (Or.inl ⟨by rfl, ?hype16⟩) (by assumption) ?restpe16
          case hype16 => (intro V hSw; (try dsimp only at hSw); go_simp) <;> with_reducible rfl
          try simp only [Act.put, List.getElem_toArray, List.getElem_cons_succ, List.getElem_cons_zero, List.setIfInBounds_toArray, List.set_cons_zero, List.set_cons_succ]
          refine wpAnyH_take (i := 17) (oi := _) (v := ?vpe17) rfl (by kernel_rfl) (by kernel_rfl) (by kernel_rfl) (fun _ _ _ h => by cases h.1) (Or.inl ⟨by rfl, ?hype17⟩) (by assumption) ?restpe17
          case hype17 => (intro V hSw; (try dsimp only at hSw); go_simp) <;> with_reducible rfl
          try simp only [Act.put, List.getElem_toArray, List.getElem_cons_succ, List.getElem_cons_zero, List.setIfInBounds_toArray, List.set_cons_zero, List.set_cons_succ]
          refine wpAnyH_take (i := 18) (oi := _) (v := ?vpe18) rfl (by kernel_rfl) (by kernel_rfl) (by kernel_rfl) (fun _ _ _ h => by cases h.1) (Or.inl ⟨by rfl, ?hype18⟩) (by assumption) ?restpe18
          case hype18 => (intro V hSw; (try dsimp only at hSw); go_simp) <;> with_reducible rfl
          try simp only [Act.put, List.getElem_toArray, List.getElem_cons_succ, List.getElem_cons_zero, List.setIfInBounds_toArray, List.set_cons_zero, List.set_cons_succ]
          refine wpAnyH_take (i := 19) (oi := _) (v := ?vpe19) rfl (by kernel_rfl) (by kernel_rfl) (by kernel_rfl) (fun _ _ _ h => by cases h.1) (Or.inl ⟨by rfl, ?hype19⟩) (by assumption) ?restpe19
          case hype19 => (intro V hSw; (try dsimp only at hSw); go_simp) <;> with_reducible rfl
          try simp only [Act.put, List.getElem_toArray, List.getElem_cons_succ, List.getElem_cons_zero, List.setIfInBounds_toArray, List.set_cons_zero, List.set_cons_succ]
          refine wpAnyH_ready (rs := [15]) (by kernel_rfl) (by simp) ?_
          refine (AllReadyH.cons (o := _) rfl (fun K9 hK => ?_) AllReadyH.nil)
          go_simp
          refine (dk_off w9 d b m y (HG8.out.1.1.1.grown H9.out)).mono ?_
          rintro e w10 ⟨rfl, hw10⟩
          obtain rfl : w9 = w10 := hw10.symm
          (try go_wp2_with fail)
          refine hK.out _ _ (HSS.out _ H9.out) (fun hHeld => ?_)
          clear hK K9
          try simp only [Act.put, List.getElem_toArray, List.getElem_cons_succ, List.getElem_cons_zero, List.setIfInBounds_toArray, List.set_cons_zero, List.set_cons_succ]
          refine wpAnyH_take (i := 20) (oi := _) (v := ?vpe20) rfl (by kernel_rfl) (by kernel_rfl) (by kernel_rfl) (fun _ _ _ h => by cases h.1) (Or.inl ⟨by rfl, ?hype20⟩) (by assumption) ?restpe20
          case hype20 => (intro V hSw; (try dsimp only at hSw); go_simp) <;> with_reducible rfl
          try simp only [Act.put, List.getElem_toArray, List.getElem_cons_succ, List.getElem_cons_zero, List.setIfInBounds_toArray, List.set_cons_zero, List.set_cons_succ]
          refine wpAnyH_take (i := 21) (oi := _) (v := ?vpe21) rfl (by kernel_rfl) (by kernel_rfl) (by kernel_rfl) (fun _ _ _ h => by cases h.1) (Or.inl ⟨by rfl, ?hype21⟩) (by assumption) ?restpe21
          case hype21 => (intro V hSw; (try dsimp only at hSw); go_simp) <;> with_reducible rfl
          try simp only [Act.put, List.getElem_toArray, List.getElem_cons_succ, List.getElem_cons_zero, List.setIfInBounds_toArray, List.set_cons_zero, List.set_cons_succ]
          refine wpAnyH_take (i := 22) (oi := _) (v := ?vpe22) rfl (by kernel_rfl) (by kernel_rfl) (by kernel_rfl) (fun _ _ _ h => by cases h.1) (Or.inl ⟨by rfl, ?hype22⟩) (by assumption) ?restpe22
          case hype22 => (intro V hSw; (try dsimp only at hSw); go_simp) <;> with_reducible rfl
          try simp only [Act.put, List.getElem_toArray, List.getElem_cons_succ, List.getElem_cons_zero, List.setIfInBounds_toArray, List.set_cons_zero, List.set_cons_succ]
          refine wpAnyH_take (i := 23) (oi := _) (v := ?vpe23) rfl (by kernel_rfl) (by kernel_rfl) (by kernel_rfl) (fun _ _ _ h => by cases h.1) (Or.inl ⟨by rfl, ?hype23⟩) (by assumption) ?restpe23
          case hype23 => (intro V hSw; (try dsimp only at hSw); go_simp) <;> with_reducible rfl
          try simp only [Act.put, List.getElem_toArray, List.getElem_cons_succ, List.getElem_cons_zero, List.setIfInBounds_toArray, List.set_cons_zero, List.set_cons_succ]
          refine wpAnyH_take (i := 25) (oi := _) (v := ?vpe25) rfl (by kernel_rfl) (by kernel_rfl) (by kernel_rfl) (fun _ _ _ h => by cases h.1) (Or.inl ⟨by rfl, ?hype25⟩) (by assumption) ?restpe25
          case hype25 => (intro V hSw; (try dsimp only at hSw); go_simp) <;> with_reducible rfl
          try simp only [Act.put, List.getElem_toArray, List.getElem_cons_succ, List.getElem_cons_zero, List.setIfInBounds_toArray, List.set_cons_zero, List.set_cons_succ]
          refine wpAnyH_ready (rs := [24]) (by kernel_rfl) (by simp) ?_
          refine (AllReadyH.cons (o := _) rfl (fun K9 hK => ?_) AllReadyH.nil)
          go_simp
          refine (dsk_unsynced (HG8.out.1.1.grown H9.out)).mono ?_
          rintro e w11 ⟨A1, c1, rfl, hc1, hi1, g11⟩
          have H11 := Lib.hid (And.intro (grown_trans H9.out g11) (And.intro hi1 hc1))
          clear g11 hi1 hc1
          (try go_wp2_with fail)
          refine hK.out _ _ (HSS.out _ H11.out.1) (fun hHeld => ?_)
          clear hK K9
          try simp only [Act.put, List.getElem_toArray, List.getElem_cons_succ, List.getElem_cons_zero, List.setIfInBounds_toArray, List.set_cons_zero, List.set_cons_succ]
          refine wpAnyH_ready (rs := [26]) (by kernel_rfl) (by simp) ?_
          refine (AllReadyH.cons (o := _) rfl (fun K9 hK => ?_) AllReadyH.nil)
          go_simp
          refine (md_unsynced w11 p s u v y (HG8.out.1.2.grown H11.out.1)).mono ?_
          rintro e w12 ⟨x12, rfl, ho12, g12⟩
          obtain ⟨A2, c2, rfl, hc2, hi2⟩ := own_ints ho12
          have H12 := Lib.hid (And.intro (grown_trans H11.out.1 g12) (And.intro (IntsAt.kept H11.out.2.1 (F := fun _ => False) (Kept.of_grown g12 fun _ e => by cases e) (fun _ _ h => h)) (And.intro hi2 hc2)))
          clear ho12 g12 hi2 hc2
          (try go_wp2_with fail)
          refine hK.out _ _ (HSS.out _ H12.out.1) (fun hHeld => ?_)
          clear hK K9
          try simp only [Act.put, List.getElem_toArray, List.getElem_cons_succ, List.getElem_cons_zero, List.setIfInBounds_toArray, List.set_cons_zero, List.set_cons_succ]
          refine wpAnyH_ready (rs := [27]) (by kernel_rfl) (by simp) ?_
          refine (AllReadyH.cons (o := _) rfl (fun K9 hK => ?_) AllReadyH.nil)
          go_simp
          refine (sameints_is w12 A1 A2 c1 c2 (dirtyL y.wr).length (dirtyL y.wr) rfl (by have := dirtyL_length_le y.wr; have := HG8.out.1.2.2.2.2.2.1; have := HG8.out.1.2.2.2.2.2.2.2.1; omega) H12.out.2.1 H12.out.2.2.1).mono ?_
          rintro e w13 ⟨rfl, g13⟩
          have H13 := Lib.hid (grown_trans H12.out.1 g13)
          clear g13
          (try go_wp2_with fail)
          refine hK.out _ _ (HSS.out _ H13.out) (fun hHeld => ?_)
          clear hK K9
          try simp only [Act.put, List.getElem_toArray, List.getElem_cons_succ, List.getElem_cons_zero, List.setIfInBounds_toArray, List.set_cons_zero, List.set_cons_succ]
          refine wpAnyH_take (i := 28) (oi := _) (v := ?vpe28) rfl (by kernel_rfl) (by kernel_rfl) (by kernel_rfl) (fun _ _ _ h => by cases h.1) (Or.inl ⟨by rfl, ?hype28⟩) (by assumption) ?restpe28
          case hype28 => (intro V hSw; (try dsimp only at hSw); go_simp) <;> with_reducible rfl
          try simp only [Act.put, List.getElem_toArray, List.getElem_cons_succ, List.getElem_cons_zero, List.setIfInBounds_toArray, List.set_cons_zero, List.set_cons_succ]
          refine wpAnyH_take (i := 29) (oi := _) (v := ?vpe29) rfl (by kernel_rfl) (by kernel_rfl) (by kernel_rfl) (fun _ _ _ h => by cases h.1) (Or.inl ⟨by rfl, ?hype29⟩) (by assumption) ?restpe29
          case hype29 => (intro V hSw; (try dsimp only at hSw); go_simp) <;> with_reducible rfl
          try simp only [Act.put, List.getElem_toArray, List.getElem_cons_succ, List.getElem_cons_zero, List.setIfInBounds_toArray, List.set_cons_zero, List.set_cons_succ]
          refine wpAnyH_done (by kernel_rfl) ?_ _
          refine ⟨rfl, hK8 _ _ ?_⟩
          gi_wp2
          go_roundw
          case rel => exact ⟨k + 1, by omega, by simp, y, HG8.out.1.1.grown H13.out, HG8.out.1.2.grown H13.out⟩
          case measure => simp [intOf]; omega

        try rw [hq]
        have f1 : (ok_ == 1) = false := by simpa using hk1
        have f2 : (ok_ == 2) = false := by simpa using hk2_
        have f3 : (ok_ == 3) = false := by simpa using hk3
        have f4 : (ok_ == 4) = false := by simpa using hk4
        obtain ⟨y, hy⟩ : ∃ y, z = y := ⟨_, rfl⟩
        have HT : Hid (Dsk w W1 d b m y ∧ MdIs W1 p s u v y ∧ Blk W1 q 35 #[.int .i64 ok_, .int .i64 oi, .int .u8 ob, .slice oA on oc]) := Lib.hid (by rw [← hy]; exact ⟨HX.out.1, HX.out.2.1, HX.out.2.2.1⟩)
        clear hk1 hk2_ hk3 hk4 hy
        gi_upto_region 29 with fail
        try rw [hq]
        try rw [hW1]
        obtain ⟨es, hes⟩ : ∃ es, ((rV y oi).map (Value.int .u8)).toArray = es := ⟨_, rfl⟩
        have hl64 := readS_len HT.out.2.1 oi
        have hsec : secV (rV y oi) = .agg es := by rw [secV, hes]
        have hez : es.size = 64 := by rw [← hes]; simpa using hl64
        have heo : es.all (·.oneCell') = true := by rw [← hes]; simp [Array.all_eq_true_iff_forall_mem, Value.oneCell']
        have hr1 := dsk_read HT.out.1 (HE.out.var 0 (by omega)) (HE.out.var 5 (by omega)) oi
        rw [hsec] at hr1
        have HR1 := Lib.hid hr1
        have HQ := Lib.hid (And.intro hsec (And.intro hez (And.intro heo (fun w => eq_row w _ hl64 es hes))))
        clear hes hl64 hsec hez heo hr1
        have y1 := HT.out.2.2.cell 1
        simp only [List.getElem?_toArray, List.getElem?_cons_zero, List.getElem?_cons_succ] at y1
        gi_wp2
        refine ⟨trivial, ?_⟩
        refine (callsIn_wide.2 HR1.out).mono ?_
        rintro e w5 ⟨rfl, g5⟩
        have H5 := Lib.hid g5
        have y1 := (HT.out.2.2.grown g5 (by simp)).cell 1
        simp only [List.getElem?_toArray, List.getElem?_cons_zero, List.getElem?_cons_succ] at y1
        clear g5
        have hz := HZ.out
        gi_upto_region 30 with (first
          | (refine wpListIn_store_row rfl 36 _ _ rfl w5.heap.size es rfl rfl 36 z6 (heap_alloc_new w5 _) (by rw [HQ.out.2.1]; kernel_rfl) (by rw [HQ.out.2.1, HY.out.2.2.1]) HQ.out.2.2.1 ?_)
          | gi_in)
        clear hz
        obtain ⟨q6, hq6⟩ : ∃ q6, w5.heap.size = q6 := ⟨_, rfl⟩
        obtain ⟨W6, hW6⟩ : ∃ W6, (w5.alloc (.cells z6 36)).setRow q6 es = W6 := ⟨_, rfl⟩
        have g6 : W1.grownBy W6 none := grown_trans H5.out (by rw [← hW6]; exact grown_row (World.grownBy_alloc _ _ none) (.inl (by omega)) _)
        have b6 : Blk W6 q6 36 es := by rw [← hW6, ← hq6]; exact (Blk.new w5 _ _).row es
        have hr2 := md_read W6 p s u v y (HT.out.2.1.grown g6) oi
        rw [HQ.out.1] at hr2
        have y1 := (HT.out.2.2.grown g6 (by simp)).cell 1
        simp only [List.getElem?_toArray, List.getElem?_cons_zero, List.getElem?_cons_succ] at y1
        have H6 := Lib.hid (And.intro g6 (And.intro b6 hr2))
        rw [hq6, hW6]
        clear g6 b6 hr2 hq6 hW6
        gi_wp2
        refine ⟨trivial, ?_⟩
        refine (callsIn_wide.2 H6.out.2.2).mono ?_
        rintro e w7 ⟨rfl, g7⟩
        have H7 := Lib.hid g7
        clear g7
        have hz := HZ.out
        gi_upto_region 31 with (first
          | (refine wpListIn_store_row rfl 36 _ _ rfl w7.heap.size es rfl rfl 36 z6 (heap_alloc_new w7 _) (by rw [HQ.out.2.1]; kernel_rfl) (by rw [HQ.out.2.1, HY.out.2.2.1]) HQ.out.2.2.1 ?_)
          | gi_in)
        rename_i K8 hK8
        clear hz
        obtain ⟨q8, hq8⟩ : ∃ q8, w7.heap.size = q8 := ⟨_, rfl⟩
        obtain ⟨W7, hW7⟩ : ∃ W7, (w7.alloc (.cells z6 36)).setRow q8 es = W7 := ⟨_, rfl⟩
        have g8 : W6.grownBy W7 none := grown_trans H7.out (by rw [← hW7]; exact grown_row (World.grownBy_alloc _ _ none) (.inl (by omega)) _)
        have b8 : Blk W7 q8 36 es := by rw [← hW7, ← hq8]; exact (Blk.new w7 _ _).row es
        rw [hq8, hW7]
        obtain ⟨W8, hW8⟩ : ∃ W8, W7.drew = W8 := ⟨_, rfl⟩
        have g78 : W7.grownBy W8 none := by rw [← hW8]; exact grown_drew (World.grownBy.refl W7 none)
        have g68 := grown_trans g8 g78
        have gT8 := grown_trans H6.out.1 g68
        have hss : ∀ Y, W8.grownBy Y none → Y.rangeAt q6 0 es.toList ∧ Y.rangeAt q8 0 es.toList ∧ Y.cell? ⟨p, 3, none⟩ = some (.bool y.off) := fun Y hY =>
          ⟨range_of_blk (H6.out.2.1.grown (grown_trans g68 hY) (by simp)), range_of_blk (b8.grown (grown_trans g78 hY) (by simp)), (HT.out.2.1.1.grown (grown_trans gT8 hY) (by simp)).cell 3⟩
        have HSS := Lib.hid hss
        have HG8 := Lib.hid (And.intro (And.intro (HT.out.1.grown gT8) (HT.out.2.1.grown gT8)) hq8)
        clear hss g8 b8 g78 g68 gT8 hq8 hW7
        refine wpIn_normal ?_
        refine wpIn_region_held_wide (S := fun Y => Y.rangeAt q6 0 es.toList ∧ Y.rangeAt q8 0 es.toList ∧ Y.cell? ⟨p, 3, none⟩ = some (.bool y.off)) (by kernel_rfl) (by kernel_rfl) (by rintro ⟨_, _, h, _⟩; cases h) (by rw [hW8]; exact HSS.out _ (World.grownBy.refl W8 none)) (fun hHeld => ?_)
        rw [hW8] at hHeld ⊢
        refine wpAnyH_take (i := 0) (oi := _) (v := ?vpb0) rfl (by kernel_rfl) (by kernel_rfl) (by kernel_rfl) (fun _ _ _ h => by cases h.1) (Or.inl ⟨by rfl, ?hypb0⟩) (by assumption) ?restpb0
        case hypb0 => (intro V hSw; (try dsimp only at hSw); go_simp) <;> with_reducible rfl
        try simp only [Act.put, List.getElem_toArray, List.getElem_cons_succ, List.getElem_cons_zero, List.setIfInBounds_toArray, List.set_cons_zero, List.set_cons_succ]
        refine wpAnyH_take (i := 1) (oi := _) (v := ?vpb1) rfl (by kernel_rfl) (by kernel_rfl) (by kernel_rfl) (fun _ _ _ h => by cases h.1) (Or.inl ⟨by rfl, ?hypb1⟩) (by assumption) ?restpb1
        case hypb1 => (intro V hSw; (try dsimp only at hSw); go_simp) <;> with_reducible rfl
        try simp only [Act.put, List.getElem_toArray, List.getElem_cons_succ, List.getElem_cons_zero, List.setIfInBounds_toArray, List.set_cons_zero, List.set_cons_succ]
        refine wpAnyH_take (i := 2) (oi := _) (v := ?vpb2) rfl (by kernel_rfl) (by kernel_rfl) (by kernel_rfl) (fun _ _ _ h => by cases h.1) (Or.inl ⟨by rfl, ?hypb2⟩) (by assumption) ?restpb2
        case hypb2 => (intro V hSw; (try dsimp only at hSw); go_simp) <;> with_reducible rfl
        try simp only [Act.put, List.getElem_toArray, List.getElem_cons_succ, List.getElem_cons_zero, List.setIfInBounds_toArray, List.set_cons_zero, List.set_cons_succ]
        refine wpAnyH_take (i := 3) (oi := _) (v := .agg es) rfl (by kernel_rfl) (by kernel_rfl) (by kernel_rfl) (fun _ _ _ h => by cases h.1) (yieldsIf_load_mid (by rfl) _ _ rfl q6 0 rfl es.toList _ (fun V hSw => hSw.1) Tryd.underlying36 rfl (by rw [Array.length_toList, HQ.out.2.1]; kernel_rfl)) (by assumption) ?restpb3
        try simp only [Act.put, List.getElem_toArray, List.getElem_cons_succ, List.getElem_cons_zero, List.setIfInBounds_toArray, List.set_cons_zero, List.set_cons_succ]
        refine wpAnyH_take (i := 4) (oi := _) (v := .agg es) rfl (by kernel_rfl) (by kernel_rfl) (by kernel_rfl) (fun _ _ _ h => by cases h.1) (yieldsIf_load_mid (by rfl) _ _ rfl q8 0 rfl es.toList _ (fun V hSw => hSw.2.1) Tryd.underlying36 rfl (by rw [Array.length_toList, HQ.out.2.1]; kernel_rfl)) (by assumption) ?restpb4
        try simp only [Act.put, List.getElem_toArray, List.getElem_cons_succ, List.getElem_cons_zero, List.setIfInBounds_toArray, List.set_cons_zero, List.set_cons_succ]
        have heq := HQ.out.2.2.2
        refine wpAnyH_take (i := 5) (oi := _) (v := ?vpb5) rfl (by kernel_rfl) (by kernel_rfl) (by kernel_rfl) (fun _ _ _ h => by cases h.1) (Or.inl ⟨by rfl, ?hypb5⟩) (by assumption) ?restpb5
        case hypb5 => (intro V hSw; (try dsimp only at hSw); go_simp) <;> with_reducible rfl
        try simp only [Act.put, List.getElem_toArray, List.getElem_cons_succ, List.getElem_cons_zero, List.setIfInBounds_toArray, List.set_cons_zero, List.set_cons_succ]
        clear heq
        refine wpAnyH_take (i := 6) (oi := _) (v := ?vpb6) rfl (by kernel_rfl) (by kernel_rfl) (by kernel_rfl) (fun _ _ _ h => by cases h.1) (Or.inl ⟨by rfl, ?hypb6⟩) (by assumption) ?restpb6
        case hypb6 => (intro V hSw; (try dsimp only at hSw); go_simp) <;> with_reducible rfl
        try simp only [Act.put, List.getElem_toArray, List.getElem_cons_succ, List.getElem_cons_zero, List.setIfInBounds_toArray, List.set_cons_zero, List.set_cons_succ]
        refine wpAnyH_take (i := 7) (oi := _) (v := ?vpb7) rfl (by kernel_rfl) (by kernel_rfl) (by kernel_rfl) (fun _ _ _ h => by cases h.1) (Or.inl ⟨by rfl, ?hypb7⟩) (by assumption) ?restpb7
        case hypb7 => (intro V hSw; (try dsimp only at hSw); go_simp) <;> with_reducible rfl
        try simp only [Act.put, List.getElem_toArray, List.getElem_cons_succ, List.getElem_cons_zero, List.setIfInBounds_toArray, List.set_cons_zero, List.set_cons_succ]
        refine wpAnyH_take (i := 8) (oi := _) (v := ?vpb8) rfl (by kernel_rfl) (by kernel_rfl) (by kernel_rfl) (fun _ _ _ h => by cases h.1) (Or.inl ⟨by rfl, ?hypb8⟩) (by assumption) ?restpb8
        case hypb8 => (intro V hSw; (try dsimp only at hSw); go_simp) <;> with_reducible rfl
        try simp only [Act.put, List.getElem_toArray, List.getElem_cons_succ, List.getElem_cons_zero, List.setIfInBounds_toArray, List.set_cons_zero, List.set_cons_succ]
        refine wpAnyH_take (i := 10) (oi := _) (v := ?vpb10) rfl (by kernel_rfl) (by kernel_rfl) (by kernel_rfl) (fun _ _ _ h => by cases h.1) (Or.inl ⟨by rfl, ?hypb10⟩) (by assumption) ?restpb10
        case hypb10 => (intro V hSw; (try dsimp only at hSw); go_simp) <;> with_reducible rfl
        try simp only [Act.put, List.getElem_toArray, List.getElem_cons_succ, List.getElem_cons_zero, List.setIfInBounds_toArray, List.set_cons_zero, List.set_cons_succ]
        refine wpAnyH_ready (rs := [9]) (by kernel_rfl) (by simp) ?_
        refine (AllReadyH.cons (o := _) rfl (fun K9 hK => ?_) AllReadyH.nil)
        go_simp
        refine (num_eV W8 w.heap.size E (HE.out.grown (HG8.out.1.1.grownNone) (fun _ e => by cases e)) (rE y oi)).mono ?_
        rintro e w9 ⟨rfl, g9⟩
        have H9 := Lib.hid g9
        clear g9
        (try go_wp2_with fail)
        refine hK.out _ _ (HSS.out _ H9.out) (fun hHeld => ?_)
        clear hK K9
        try simp only [Act.put, List.getElem_toArray, List.getElem_cons_succ, List.getElem_cons_zero, List.setIfInBounds_toArray, List.set_cons_zero, List.set_cons_succ]
        refine wpAnyH_take (i := 11) (oi := _) (v := ?vpb11) rfl (by kernel_rfl) (by kernel_rfl) (by kernel_rfl) (fun _ _ _ h => by cases h.1) (Or.inl ⟨by rfl, ?hypb11⟩) (by assumption) ?restpb11
        case hypb11 => (intro V hSw; (try dsimp only at hSw); go_simp) <;> with_reducible rfl
        try simp only [Act.put, List.getElem_toArray, List.getElem_cons_succ, List.getElem_cons_zero, List.setIfInBounds_toArray, List.set_cons_zero, List.set_cons_succ]
        refine wpAnyH_take (i := 12) (oi := _) (v := ?vpb12) rfl (by kernel_rfl) (by kernel_rfl) (by kernel_rfl) (fun _ _ _ h => by cases h.1) (Or.inl ⟨by rfl, ?hypb12⟩) (by assumption) ?restpb12
        case hypb12 => (intro V hSw; (try dsimp only at hSw); go_simp) <;> with_reducible rfl
        try simp only [Act.put, List.getElem_toArray, List.getElem_cons_succ, List.getElem_cons_zero, List.setIfInBounds_toArray, List.set_cons_zero, List.set_cons_succ]
        refine wpAnyH_take (i := 13) (oi := _) (v := ?vpb13) rfl (by kernel_rfl) (by kernel_rfl) (by kernel_rfl) (fun _ _ _ h => by cases h.1) (Or.inl ⟨by rfl, ?hypb13⟩) (by assumption) ?restpb13
        case hypb13 => (intro V hSw; (try dsimp only at hSw); go_simp) <;> with_reducible rfl
        try simp only [Act.put, List.getElem_toArray, List.getElem_cons_succ, List.getElem_cons_zero, List.setIfInBounds_toArray, List.set_cons_zero, List.set_cons_succ]
        refine wpAnyH_take (i := 14) (oi := _) (v := ?vpb14) rfl (by kernel_rfl) (by kernel_rfl) (by kernel_rfl) (fun _ _ _ h => by cases h.1) (Or.inl ⟨by rfl, ?hypb14⟩) (by assumption) ?restpb14
        case hypb14 => (intro V hSw; (try dsimp only at hSw); go_simp) <;> with_reducible rfl
        try simp only [Act.put, List.getElem_toArray, List.getElem_cons_succ, List.getElem_cons_zero, List.setIfInBounds_toArray, List.set_cons_zero, List.set_cons_succ]
        refine wpAnyH_take (i := 16) (oi := _) (v := ?vpb16) rfl (by kernel_rfl) (by kernel_rfl) (by kernel_rfl) (fun _ _ _ h => by cases h.1) (Or.inl ⟨by rfl, ?hypb16⟩) (by assumption) ?restpb16
        case hypb16 => (intro V hSw; (try dsimp only at hSw); go_simp) <;> with_reducible rfl
        try simp only [Act.put, List.getElem_toArray, List.getElem_cons_succ, List.getElem_cons_zero, List.setIfInBounds_toArray, List.set_cons_zero, List.set_cons_succ]
        refine wpAnyH_take (i := 17) (oi := _) (v := ?vpb17) rfl (by kernel_rfl) (by kernel_rfl) (by kernel_rfl) (fun _ _ _ h => by cases h.1) (Or.inl ⟨by rfl, ?hypb17⟩) (by assumption) ?restpb17
        case hypb17 => (intro V hSw; (try dsimp only at hSw); go_simp) <;> with_reducible rfl
        try simp only [Act.put, List.getElem_toArray, List.getElem_cons_succ, List.getElem_cons_zero, List.setIfInBounds_toArray, List.set_cons_zero, List.set_cons_succ]
        refine wpAnyH_take (i := 18) (oi := _) (v := ?vpb18) rfl (by kernel_rfl) (by kernel_rfl) (by kernel_rfl) (fun _ _ _ h => by cases h.1) (Or.inl ⟨by rfl, ?hypb18⟩) (by assumption) ?restpb18
        case hypb18 => (intro V hSw; (try dsimp only at hSw); go_simp) <;> with_reducible rfl
        try simp only [Act.put, List.getElem_toArray, List.getElem_cons_succ, List.getElem_cons_zero, List.setIfInBounds_toArray, List.set_cons_zero, List.set_cons_succ]
        refine wpAnyH_take (i := 19) (oi := _) (v := ?vpb19) rfl (by kernel_rfl) (by kernel_rfl) (by kernel_rfl) (fun _ _ _ h => by cases h.1) (Or.inl ⟨by rfl, ?hypb19⟩) (by assumption) ?restpb19
        case hypb19 => (intro V hSw; (try dsimp only at hSw); go_simp) <;> with_reducible rfl
        try simp only [Act.put, List.getElem_toArray, List.getElem_cons_succ, List.getElem_cons_zero, List.setIfInBounds_toArray, List.set_cons_zero, List.set_cons_succ]
        refine wpAnyH_ready (rs := [15]) (by kernel_rfl) (by simp) ?_
        refine (AllReadyH.cons (o := _) rfl (fun K9 hK => ?_) AllReadyH.nil)
        go_simp
        refine (dk_off w9 d b m y (HG8.out.1.1.1.grown H9.out)).mono ?_
        rintro e w10 ⟨rfl, hw10⟩
        obtain rfl : w9 = w10 := hw10.symm
        (try go_wp2_with fail)
        refine hK.out _ _ (HSS.out _ H9.out) (fun hHeld => ?_)
        clear hK K9
        try simp only [Act.put, List.getElem_toArray, List.getElem_cons_succ, List.getElem_cons_zero, List.setIfInBounds_toArray, List.set_cons_zero, List.set_cons_succ]
        refine wpAnyH_take (i := 20) (oi := _) (v := ?vpb20) rfl (by kernel_rfl) (by kernel_rfl) (by kernel_rfl) (fun _ _ _ h => by cases h.1) (Or.inl ⟨by rfl, ?hypb20⟩) (by assumption) ?restpb20
        case hypb20 => (intro V hSw; (try dsimp only at hSw); go_simp) <;> with_reducible rfl
        try simp only [Act.put, List.getElem_toArray, List.getElem_cons_succ, List.getElem_cons_zero, List.setIfInBounds_toArray, List.set_cons_zero, List.set_cons_succ]
        refine wpAnyH_take (i := 21) (oi := _) (v := ?vpb21) rfl (by kernel_rfl) (by kernel_rfl) (by kernel_rfl) (fun _ _ _ h => by cases h.1) (Or.inl ⟨by rfl, ?hypb21⟩) (by assumption) ?restpb21
        case hypb21 => (intro V hSw; (try dsimp only at hSw); go_simp) <;> with_reducible rfl
        try simp only [Act.put, List.getElem_toArray, List.getElem_cons_succ, List.getElem_cons_zero, List.setIfInBounds_toArray, List.set_cons_zero, List.set_cons_succ]
        refine wpAnyH_take (i := 22) (oi := _) (v := ?vpb22) rfl (by kernel_rfl) (by kernel_rfl) (by kernel_rfl) (fun _ _ _ h => by cases h.1) (Or.inl ⟨by rfl, ?hypb22⟩) (by assumption) ?restpb22
        case hypb22 => (intro V hSw; (try dsimp only at hSw); go_simp) <;> with_reducible rfl
        try simp only [Act.put, List.getElem_toArray, List.getElem_cons_succ, List.getElem_cons_zero, List.setIfInBounds_toArray, List.set_cons_zero, List.set_cons_succ]
        refine wpAnyH_take (i := 23) (oi := _) (v := ?vpb23) rfl (by kernel_rfl) (by kernel_rfl) (by kernel_rfl) (fun _ _ _ h => by cases h.1) (Or.inl ⟨by rfl, ?hypb23⟩) (by assumption) ?restpb23
        case hypb23 => (intro V hSw; (try dsimp only at hSw); go_simp) <;> with_reducible rfl
        try simp only [Act.put, List.getElem_toArray, List.getElem_cons_succ, List.getElem_cons_zero, List.setIfInBounds_toArray, List.set_cons_zero, List.set_cons_succ]
        refine wpAnyH_take (i := 25) (oi := _) (v := ?vpb25) rfl (by kernel_rfl) (by kernel_rfl) (by kernel_rfl) (fun _ _ _ h => by cases h.1) (Or.inl ⟨by rfl, ?hypb25⟩) (by assumption) ?restpb25
        case hypb25 => (intro V hSw; (try dsimp only at hSw); go_simp) <;> with_reducible rfl
        try simp only [Act.put, List.getElem_toArray, List.getElem_cons_succ, List.getElem_cons_zero, List.setIfInBounds_toArray, List.set_cons_zero, List.set_cons_succ]
        refine wpAnyH_ready (rs := [24]) (by kernel_rfl) (by simp) ?_
        refine (AllReadyH.cons (o := _) rfl (fun K9 hK => ?_) AllReadyH.nil)
        go_simp
        refine (dsk_unsynced (HG8.out.1.1.grown H9.out)).mono ?_
        rintro e w11 ⟨A1, c1, rfl, hc1, hi1, g11⟩
        have H11 := Lib.hid (And.intro (grown_trans H9.out g11) (And.intro hi1 hc1))
        clear g11 hi1 hc1
        (try go_wp2_with fail)
        refine hK.out _ _ (HSS.out _ H11.out.1) (fun hHeld => ?_)
        clear hK K9
        try simp only [Act.put, List.getElem_toArray, List.getElem_cons_succ, List.getElem_cons_zero, List.setIfInBounds_toArray, List.set_cons_zero, List.set_cons_succ]
        refine wpAnyH_ready (rs := [26]) (by kernel_rfl) (by simp) ?_
        refine (AllReadyH.cons (o := _) rfl (fun K9 hK => ?_) AllReadyH.nil)
        go_simp
        refine (md_unsynced w11 p s u v y (HG8.out.1.2.grown H11.out.1)).mono ?_
        rintro e w12 ⟨x12, rfl, ho12, g12⟩
        obtain ⟨A2, c2, rfl, hc2, hi2⟩ := own_ints ho12
        have H12 := Lib.hid (And.intro (grown_trans H11.out.1 g12) (And.intro (IntsAt.kept H11.out.2.1 (F := fun _ => False) (Kept.of_grown g12 fun _ e => by cases e) (fun _ _ h => h)) (And.intro hi2 hc2)))
        clear ho12 g12 hi2 hc2
        (try go_wp2_with fail)
        refine hK.out _ _ (HSS.out _ H12.out.1) (fun hHeld => ?_)
        clear hK K9
        try simp only [Act.put, List.getElem_toArray, List.getElem_cons_succ, List.getElem_cons_zero, List.setIfInBounds_toArray, List.set_cons_zero, List.set_cons_succ]
        refine wpAnyH_ready (rs := [27]) (by kernel_rfl) (by simp) ?_
        refine (AllReadyH.cons (o := _) rfl (fun K9 hK => ?_) AllReadyH.nil)
        go_simp
        refine (sameints_is w12 A1 A2 c1 c2 (dirtyL y.wr).length (dirtyL y.wr) rfl (by have := dirtyL_length_le y.wr; have := HG8.out.1.2.2.2.2.2.1; have := HG8.out.1.2.2.2.2.2.2.2.1; omega) H12.out.2.1 H12.out.2.2.1).mono ?_
        rintro e w13 ⟨rfl, g13⟩
        have H13 := Lib.hid (grown_trans H12.out.1 g13)
        clear g13
        (try go_wp2_with fail)
        refine hK.out _ _ (HSS.out _ H13.out) (fun hHeld => ?_)
        clear hK K9
        try simp only [Act.put, List.getElem_toArray, List.getElem_cons_succ, List.getElem_cons_zero, List.setIfInBounds_toArray, List.set_cons_zero, List.set_cons_succ]
        refine wpAnyH_take (i := 28) (oi := _) (v := ?vpb28) rfl (by kernel_rfl) (by kernel_rfl) (by kernel_rfl) (fun _ _ _ h => by cases h.1) (Or.inl ⟨by rfl, ?hypb28⟩) (by assumption) ?restpb28
        case hypb28 => (intro V hSw; (try dsimp only at hSw); go_simp) <;> with_reducible rfl
        try simp only [Act.put, List.getElem_toArray, List.getElem_cons_succ, List.getElem_cons_zero, List.setIfInBounds_toArray, List.set_cons_zero, List.set_cons_succ]
        refine wpAnyH_take (i := 29) (oi := _) (v := ?vpb29) rfl (by kernel_rfl) (by kernel_rfl) (by kernel_rfl) (fun _ _ _ h => by cases h.1) (Or.inl ⟨by rfl, ?hypb29⟩) (by assumption) ?restpb29
        case hypb29 => (intro V hSw; (try dsimp only at hSw); go_simp) <;> with_reducible rfl
        try simp only [Act.put, List.getElem_toArray, List.getElem_cons_succ, List.getElem_cons_zero, List.setIfInBounds_toArray, List.set_cons_zero, List.set_cons_succ]
        refine wpAnyH_done (by kernel_rfl) ?_ _
        refine ⟨rfl, hK8 _ _ ?_⟩
        gi_wp2
        go_roundw
        case rel => exact ⟨k + 1, by omega, by simp, y, HG8.out.1.1.grown H13.out, HG8.out.1.2.grown H13.out⟩
        case measure => simp [intOf]; omega

      · have e3 : decide ((k : Int) < (n : Int)) = false := by simp; omega
        have HF := Lib.hid hdz.grownNone
        clear hdz hmz
        gi_wp2
        go_ret
        exact ⟨rfl, HF.out⟩
end Go.Proofs.YtmecimhlnajaoaaDoor
