/-
  Slots: the document's slot (quorateref07.Slot).
-/
import Derived.Test.YtilfapibfadbfaaDoorSlA
import Derived.Test.YtilfapibfadbfaaDoorRfO
namespace Go.Proofs.YtilfapibfadbfaaDoor
open Go.RowKit Go.Maps

attribute [local go_sem] Oper.semAt_some
theorem getD_arr {L : List Int} {i : Nat} (h : i < L.length) : (arrV .u8 L)[i]? = some (.int .u8 (L.getD i 0)) := by
  simp [arrV, List.getD, h]
theorem arrV_set (L : List Int) (i : Nat) (z : Int) : (arrV .u8 L).setIfInBounds i (.int .u8 z) = arrV .u8 (L.set i z) := by
  simp [arrV, List.map_set]
/-- The array when j digits of the count stand. -/
def dgL (n j : Nat) : List Int := List.replicate (8 - j) 0 ++ (intsB (be j n) ++ List.replicate 56 0)
theorem dgL_len {n j : Nat} (h : j ≤ 8) : (dgL n j).length = 64 := by simp [dgL, intsB, be_length]; omega
theorem dgL_step {n j : Nat} (h : j < 8) : (dgL n j).set (7 - j) ((n / 256 ^ j % 256 : Nat) : Int) = dgL n (j + 1) := by
  unfold dgL
  rw [List.set_append_left _ _ (by simp; omega), show 8 - j = (7 - j) + 1 by omega, List.replicate_succ', List.set_append_right _ _ (by simp), List.length_replicate, Nat.sub_self, List.set_cons_zero, show 8 - (j + 1) = 7 - j by omega, List.append_assoc]
  congr 1
/-- The array when k bytes of the record stand, too. -/
def rcL (n : Nat) (x : List UInt8) (k : Nat) : List Int := intsB (be 8 n) ++ (x.length : Int) :: (intsB (x.take k) ++ List.replicate (55 - k) 0)
theorem rcL_len {n k : Nat} {x : List UInt8} (hk : k ≤ x.length) (hx : x.length ≤ 31) : (rcL n x k).length = 64 := by simp [rcL, intsB, be_length]; omega
theorem rcL_zero (n : Nat) (x : List UInt8) : (dgL n 8).set 8 (x.length : Int) = rcL n x 0 := by
  unfold dgL rcL
  rw [Nat.sub_self, List.replicate_zero, List.nil_append, List.set_append_right _ _ (by simp [intsB, be_length]), show 8 - (intsB (be 8 n)).length = 0 by simp [intsB, be_length]]
  rfl
theorem rcL_step {n k : Nat} {x : List UInt8} (hk : k < x.length) (hx : x.length ≤ 31) : (rcL n x k).set (9 + k) (x[k].toNat : Int) = rcL n x (k + 1) := by
  unfold rcL
  have h8 : (intsB (be 8 n)).length = 8 := by simp [intsB, be_length]
  rw [List.set_append_right _ _ (by omega), h8, show 9 + k - 8 = k + 1 by omega, List.set_cons_succ, List.set_append_right _ _ (by simp [intsB]; omega), show k - (intsB (x.take k)).length = 0 by simp [intsB]; omega, show 55 - k = (55 - (k + 1)) + 1 by omega, List.replicate_succ, List.set_cons_zero, List.take_succ_eq_append_getElem hk]
  simp only [intsB, List.map_append, List.map_cons, List.map_nil, List.append_assoc, List.singleton_append, List.cons_append, List.nil_append]
theorem rcL_all {n : Nat} {x : List UInt8} (hx : x.length ≤ 31) : rcL n x x.length = headL n x ++ List.replicate 24 0 := by
  unfold rcL headL
  rw [List.take_length, List.take_of_length_le hx, Nat.min_eq_left hx, List.append_assoc, List.cons_append, List.append_assoc, List.replicate_append_replicate, show 31 - x.length + 24 = 55 - x.length by omega]
/-- The array when k bytes of the hash stand, too. -/
def hsL (n : Nat) (x : List UInt8) (D : List Int) (k : Nat) : List Int := headL n x ++ (D.take k ++ List.replicate (24 - k) 0)
theorem hsL_len {n k : Nat} {x : List UInt8} {D : List Int} (hD : D.length = 16) (hk : k ≤ 16) : (hsL n x D k).length = 64 := by simp [hsL, headL_len]; omega
theorem hsL_zero (n : Nat) (x : List UInt8) (D : List Int) : hsL n x D 0 = headL n x ++ List.replicate 24 0 := rfl
theorem hsL_all {n : Nat} {x : List UInt8} {D : List Int} (hD : D.length = 16) : hsL n x D 16 = headL n x ++ (D ++ List.replicate 8 0) := by
  unfold hsL
  rw [List.take_of_length_le (by omega)]
theorem hsL_step {n k : Nat} {x : List UInt8} {D : List Int} (hD : D.length = 16) (hk : k < 16) : (hsL n x D k).set (40 + k) (D.getD k 0) = hsL n x D (k + 1) := by
  have hk2 : k < D.length := by omega
  unfold hsL
  rw [List.set_append_right _ _ (by rw [headL_len]; omega), headL_len, Nat.add_sub_cancel_left, List.set_append_right _ _ (by simp; omega), show k - (D.take k).length = 0 by simp; omega, show 24 - k = (24 - (k + 1)) + 1 by omega, List.replicate_succ, List.set_cons_zero, List.take_succ_eq_append_getElem hk2, List.getD, List.getElem?_eq_getElem hk2, Option.getD_some, List.append_assoc, List.singleton_append]
def headB (n : Nat) (x : List UInt8) : List UInt8 := be 8 n ++ UInt8.ofNat (min x.length 31) :: (x.take 31 ++ List.replicate (31 - x.length) 0)
theorem headB_len (n : Nat) (x : List UInt8) : (headB n x).length = 40 := by simp [headB, be_length]; omega
theorem headB_ints (n : Nat) (x : List UInt8) : intsB (headB n x) = headL n x := by
  simp [headB, headL, intsB]
  omega
theorem str_cat (hb : List UInt8) (k : Nat) (h : k < hb.length) : (⟨(hb.take k).toArray⟩ : ByteArray) ++ ⟨#[hb[k]]⟩ = ⟨(hb.take (k + 1)).toArray⟩ := by
  apply ByteArray.ext
  rw [ByteArray.data_append, List.take_succ_eq_append_getElem h]
  simp
theorem str_one (w : World) (t : TypeId) (b : UInt8) : Sem.run Tryd.prog (convert 22 9 (.slice (some ⟨w.heap.size, 0, none⟩) 1 1)) (w.alloc (.cells #[.int .u8 (b.toNat : Int)] t)) = .ok (.string ⟨#[b]⟩) (w.alloc (.cells #[.int .u8 (b.toNat : Int)] t)) := by
  refine str_run _ _ 1 1 ⟨#[b]⟩ rfl (fun _ => ⟨_, rfl, fun j hj => ?_⟩)
  have hj : j < 1 := hj
  obtain rfl : j = 0 := by omega
  exact (Blk.new w t #[.int .u8 (b.toNat : Int)]).cell 0
set_option maxRecDepth 100000 in
set_option maxHeartbeats 1000000 in
theorem rslot_is (w : World) (N : Nat) (x : List UInt8) (A : Option Addr) (n c : Nat) (hN : N < 9223372036854775808) (hn : x.length = n) (hx : x.length ≤ 31) (hb : BytesAt w A x) :
    Calls Tryd.prog 11 #[.int .i64 (N : Int), .slice A n c] w fun e w' => e = .returned (secV (slotL N x)) ∧ w.grownBy w' none := by
  obtain ⟨zs, hzs⟩ : ∃ zs : Array Value, (zeroR.map (Value.int .u8)).toArray = zs := ⟨_, rfl⟩
  have hz : ∀ w, Sem.run Tryd.prog (zeroValue 23) w = .ok (.agg zs) w := fun w => by rw [← hzs]; exact zero_sec w (by kernel_rfl)
  have hzz : zs.size = 64 := by rw [← hzs]; simp [zeroR]
  have hone : zs.all (·.oneCell') = true := by rw [← hzs]; kernel_rfl
  have hz0 : zs = arrV .u8 (dgL N 0) := by rw [← hzs]; rfl
  have HS := Lib.hid (And.intro hzz (And.intro hone (And.intro hz0 (And.intro hN (And.intro hn (And.intro hx hb))))))
  clear hzs hone hzz hz0 hN hn hx hb
  refine (callsIn_wide (n := 6)).1 ?_
  refine callsIn_of_wp Tryd.func11 rfl trivial ?_ rfl
  simp only [Tryd.ntmps11, List.size_toArray, List.length_cons, List.length_nil, Nat.reduceAdd, Nat.reduceSub, Array.replicate_succ, Array.replicate_zero, List.push_toArray, List.append_toArray, List.nil_append, List.cons_append]
  gi_upto_region 2 with (first
    | (refine wpListIn_store_row rfl 23 _ _ rfl (w.heap.size + 1) zs rfl rfl 23 zs (by have h := heap_alloc_new (w.alloc (.cells zs 23)) (.cells zs 23); rw [World.size_alloc] at h; exact h) (by rw [HS.out.1]; kernel_rfl) rfl HS.out.2.1 ?_)
    | gi_in)
  obtain ⟨g, hg⟩ : ∃ g, w.heap.size + 1 = g := ⟨_, rfl⟩
  obtain ⟨W0, hW0⟩ : ∃ W0, ((w.alloc (.cells zs 23)).alloc (.cells zs 23)).setRow g zs = W0 := ⟨_, rfl⟩
  have b0 : Blk W0 g 23 (arrV .u8 (dgL N 0)) := by
    rw [← HS.out.2.2.1, ← hW0, ← hg]
    have h := (Blk.new (w.alloc (.cells zs 23)) 23 zs).row zs
    rwa [World.size_alloc] at h
  have g0 : w.grownBy W0 none := by rw [← hW0, ← hg]; exact grown_row (grown_trans (World.grownBy_alloc _ _ none) (World.grownBy_alloc _ _ none)) (.inl (by omega)) _
  have b1 : Blk W0 w.heap.size 23 zs := by
    rw [← hW0, setRow_self _ _ _ 23 (0, 0) (by have h := heap_alloc_new (w.alloc (.cells zs 23)) (.cells zs 23); rw [World.size_alloc, hg] at h; exact h)]
    exact (Blk.new w _ zs).alloc _
  rw [hg, hW0]
  have H0 := Lib.hid (And.intro b0 (And.intro g0 (And.intro b1 hg)))
  clear b0 g0 b1 hW0 hz
  gi_wp2
  gi_loopw [6, 0] (fun i cnt wr => ∃ j : Nat, j ≤ 8 ∧ i = .int .i64 (7 - (j : Int)) ∧ cnt = .int .i64 ((N / 256 ^ j : Nat) : Int) ∧ Blk wr g 23 (arrV .u8 (dgL N j)) ∧ Kept (fun q => q = g) W0 wr) (fun i _ _ => (intOf i + 1).toNat)
  case atStart => exact ⟨0, by omega, rfl, by simp, H0.out.1, Kept.refl _ _⟩
  case round =>
    obtain ⟨j, hj, rfl, rfl, hbx, hkx⟩ := hrel
    rename World => wx
    obtain ⟨I, hI⟩ : ∃ I : Int, 7 - (j : Int) = I := ⟨_, rfl⟩
    obtain ⟨C, hC⟩ : ∃ C : Int, ((N / 256 ^ j : Nat) : Int) = C := ⟨_, rfl⟩
    have hC0 : 0 ≤ C ∧ C < 9223372036854775808 := by
      have h1 : N / 256 ^ j ≤ N := Nat.div_le_self _ _
      have h2 := HS.out.2.2.2.1
      generalize N / 256 ^ j = D at *
      omega
    rw [hI, hC]
    by_cases hlt : j < 8
    · have e1 : decide (0 ≤ I) = true := by simp; omega
      have hI7 : 0 ≤ I ∧ I ≤ 7 := by omega
      have hIj : I.toNat = 7 - j := by omega
      have xc : wx.cell? ⟨g, I.toNat, none⟩ = some (.int .u8 ((dgL N j).getD I.toNat 0)) := by
        rw [hbx.cell]; exact getD_arr (by rw [dgL_len (by omega)]; omega)
      have fc := hbx.frozen I.toNat
      have hnew : Blk (wx.setCell ⟨g, I.toNat, none⟩ (.int .u8 (C % 256))) g 23 (arrV .u8 (dgL N (j + 1))) := by
        have h := hbx.set I.toNat (.int .u8 (C % 256))
        rw [arrV_set, hIj, ← hC, show ((N / 256 ^ j : Nat) : Int) % 256 = ((N / 256 ^ j % 256 : Nat) : Int) by omega, dgL_step hlt] at h
        rw [hIj, ← hC, show ((N / 256 ^ j : Nat) : Int) % 256 = ((N / 256 ^ j % 256 : Nat) : Int) by omega]
        exact h
      have hdiv : C / 256 = ((N / 256 ^ (j + 1) : Nat) : Int) := by
        rw [← hC, Nat.pow_succ, ← Nat.div_div_eq_div_mul]
        omega
      have HW := Lib.hid (And.intro hnew (And.intro (hkx.set (p := ⟨g, I.toNat, none⟩) (.inl rfl) (.int .u8 (C % 256))) (And.intro hdiv hI)))
      clear hnew hdiv hI hC hbx hkx hIj
      gi_wp2
      go_roundw
      case rel => exact ⟨j + 1, by omega, by rw [← HW.out.2.2.2]; congr 1; omega, by rw [HW.out.2.2.1], HW.out.1, HW.out.2.1⟩
      case measure => simp [intOf]; omega
    · have e1 : decide (0 ≤ I) = false := by simp; omega
      obtain rfl : j = 8 := by omega
      have x8 : wx.cell? ⟨g, 8, none⟩ = some (.int .u8 ((dgL N 8).getD 8 0)) := by
        rw [hbx.cell]; exact getD_arr (by rw [dgL_len (by omega)]; omega)
      have f8 := hbx.frozen 8
      have hnew : Blk (wx.setCell ⟨g, 8, none⟩ (.int .u8 (n : Int))) g 23 (arrV .u8 (rcL N x 0)) := by
        have h := hbx.set 8 (.int .u8 (n : Int))
        rw [arrV_set, ← HS.out.2.2.2.2.1, rcL_zero] at h
        rw [← HS.out.2.2.2.2.1]
        exact h
      have hn31 : n ≤ 31 := by have := HS.out.2.2.2.2.1; have := HS.out.2.2.2.2.2.1; omega
      have HW := Lib.hid (And.intro hnew (hkx.set (p := ⟨g, 8, none⟩) (.inl rfl) (.int .u8 (n : Int))))
      clear hnew hbx hkx hI hC
      gi_wp2
      gi_loopw [32] (fun i wr => ∃ k : Nat, k ≤ n ∧ i = .int .i64 (k : Int) ∧ Blk wr g 23 (arrV .u8 (rcL N x k)) ∧ Kept (fun q => q = g) W0 wr) (fun i _ => n - (intOf i).toNat)
      case atStart => exact ⟨0, by omega, rfl, HW.out.1, HW.out.2⟩
      case round =>
        obtain ⟨k, hk, rfl, hbx, hkx⟩ := hrel
        rename World => wy
        by_cases hkn : k < n
        · have e2 : decide ((k : Int) < (n : Int)) = true := by simp; omega
          have hkx2 : k < x.length := by rw [HS.out.2.2.2.2.1]; exact hkn
          obtain ⟨bX, oX, rfl, hcX⟩ := BytesAt.get HS.out.2.2.2.2.2.2 (by rintro rfl; simp at hkx2)
          have xX0 := hcX k hkx2
          have hbX : bX < w.heap.size := World.block_lt_of_cell? w _ xX0
          have xX := hkx.cell (H0.out.2.1.cell xX0 (by simp)) (show ¬ (bX = g) by have := H0.out.2.2.2; omega)
          obtain ⟨V, hV⟩ : ∃ V : Int, (x[k].toNat : Int) = V := ⟨_, rfl⟩
          rw [hV] at xX
          have xc : wy.cell? ⟨g, 9 + k, none⟩ = some (.int .u8 ((rcL N x k).getD (9 + k) 0)) := by
            rw [hbx.cell]; exact getD_arr (by rw [rcL_len (by omega) HS.out.2.2.2.2.2.1]; omega)
          have fc := hbx.frozen (9 + k)
          have hnew2 : Blk (wy.setCell ⟨g, 9 + k, none⟩ (.int .u8 V)) g 23 (arrV .u8 (rcL N x (k + 1))) := by
            have h := hbx.set (9 + k) (.int .u8 V)
            rw [arrV_set, ← hV, rcL_step hkx2 HS.out.2.2.2.2.2.1] at h
            rw [← hV]
            exact h
          have HW2 := Lib.hid (And.intro hnew2 (hkx.set (p := ⟨g, 9 + k, none⟩) (.inl rfl) (.int .u8 V)))
          clear hnew2 hbx hkx hkx2 hcX xX0 hbX hV
          gi_wp2
          go_roundw
          case rel => exact ⟨k + 1, by omega, by simp, HW2.out⟩
          case measure => simp [intOf]; omega
        · have e2 : decide ((k : Int) < (n : Int)) = false := by simp; omega
          obtain rfl : k = n := by omega
          obtain ⟨hb, hhb⟩ : ∃ hb, headB N x = hb := ⟨_, rfl⟩
          have hb40 : hb.length = 40 := by rw [← hhb]; exact headB_len N x
          have hL : rcL N x k = intsB hb ++ List.replicate 24 0 := by rw [← HS.out.2.2.2.2.1, rcL_all HS.out.2.2.2.2.2.1, ← hhb, headB_ints]
          rw [hL] at hbx
          have HB := Lib.hid (And.intro hbx (And.intro hkx (And.intro hb40 hhb)))
          clear hbx hkx hL hhb
          gi_wp2
          gi_loopw [9, 10] (fun sv i wr => ∃ k : Nat, k ≤ 40 ∧ i = .int .i64 (k : Int) ∧ sv = .string ⟨(hb.take k).toArray⟩ ∧ wy.grownBy wr none) (fun _ i _ => 40 - (intOf i).toNat)
          case atStart => exact ⟨0, by omega, rfl, rfl, World.grownBy.refl wy none⟩
          case round =>
            obtain ⟨k2, hk2, rfl, rfl, hgz⟩ := hrel
            rename World => wz
            by_cases hk40 : k2 < 40
            · have e3 : decide ((k2 : Int) < 40) = true := by simp; omega
              have hkh : k2 < hb.length := by omega
              obtain ⟨b, hb_⟩ : ∃ b, hb[k2] = b := ⟨_, rfl⟩
              have xk : wz.cell? ⟨g, k2, none⟩ = some (.int .u8 (b.toNat : Int)) := by
                rw [(HB.out.1.grown hgz (by simp)).cell]
                rw [getD_arr (by simp [intsB]; omega), List.getD, List.getElem?_append_left (by simp [intsB]; omega)]
                simp [intsB, List.getElem?_eq_getElem hkh, hb_]
              have hst := str_one wz 5 b
              have hcat := str_cat hb k2 hkh
              rw [hb_] at hcat
              obtain ⟨S, hS⟩ : ∃ S : ByteArray, (⟨(hb.take k2).toArray⟩ : ByteArray) = S := ⟨_, rfl⟩
              obtain ⟨T, hT⟩ : ∃ T : ByteArray, (⟨#[b]⟩ : ByteArray) = T := ⟨_, rfl⟩
              have hsz : ¬ (9223372036854775807 < S.size + T.size) := by
                have h1 : S.size ≤ 40 := by rw [← hS]; show (hb.take k2).toArray.size ≤ 40; simp; omega
                have h2 : T.size = 1 := by rw [← hT]; rfl
                omega
              rw [hS, hT] at hcat
              rw [hT] at hst
              rw [hS]
              have HW3 := Lib.hid (And.intro hcat (grown_trans hgz (World.grownBy_alloc wz (.cells #[.int .u8 (b.toNat : Int)] 5) none)))
              clear hcat hgz hkh hb_ hS hT
              gi_wp2
              go_roundw
              case rel => exact ⟨k2 + 1, by omega, by simp, by rw [← HW3.out.1], HW3.out.2⟩
              case measure => simp [intOf]; omega
            · have e3 : decide ((k2 : Int) < 40) = false := by simp; omega
              obtain rfl : k2 = 40 := by omega
              obtain ⟨S, hS⟩ : ∃ S : ByteArray, (⟨(hb.take 40).toArray⟩ : ByteArray) = S := ⟨_, rfl⟩
              have hxS : xsOf S = headL N x := by rw [← hS, xsOf_mk, List.take_of_length_le (by omega), ← HB.out.2.2.2, headB_ints]
              have hSz : S.size = 40 := by rw [← hS]; show (hb.take 40).toArray.size = 40; simp; omega
              rw [hS]
              have HQ := Lib.hid (And.intro hgz (And.intro hxS hSz))
              clear hgz hxS hSz hS
              gi_wp2
              refine ⟨trivial, ?_⟩
              refine (callsIn_wide.2 (rof_is _ 5 _ 1 1 [S] rfl (fun q hq => ?_) (by omega) (fun t ht => by rw [List.mem_singleton.1 ht, HQ.out.2.2]; omega) (by simp [framedL, wordB, xsOf_length, HQ.out.2.2]))).mono ?_
              · have hq : q < 1 := hq
                obtain rfl : q = 0 := by omega
                exact ⟨⟨wz.heap.size, 0, none⟩, rfl, (Blk.new wz _ #[.string S]).cell 0⟩
              rintro e w5 ⟨rfl, g5⟩
              obtain ⟨D, hD⟩ : ∃ D, ofS 5 [headL N x] = D := ⟨_, rfl⟩
              have hDl : D.length = 16 := by rw [← hD, ofS_length]
              have hDm : ofS 5 ([S].map xsOf) = D := by rw [List.map_singleton, HQ.out.2.1, hD]
              rw [hDm]
              obtain ⟨ds, hds⟩ : ∃ ds, arrV .u8 D = ds := ⟨_, rfl⟩
              rw [hds]
              obtain ⟨Z16, hZ16⟩ : ∃ Z, arrV .u8 (List.replicate 16 0) = Z := ⟨_, rfl⟩
              have hz16 : ∀ w, Sem.run Tryd.prog (zeroValue 63) w = .ok (.agg Z16) w := fun w => by rw [← hZ16]; exact zrun w (by kernel_rfl)
              have HD := Lib.hid (show ds.size = 16 ∧ Z16.size = 16 ∧ (ds.all fun v => v.oneCell') = true ∧ arrV .u8 D = ds ∧ D.length = 16 ∧ ofS 5 [headL N x] = D from ⟨by rw [← hds]; simpa [arrV] using hDl, by rw [← hZ16]; rfl, by rw [← hds]; exact arr_one _ _, hds, hDl, hD⟩)
              have gz5 := grown_trans (grown_trans HQ.out.1 (World.grownBy_alloc wz (.cells #[.string S] 9) none)) g5
              have H5 := Lib.hid gz5
              clear g5 gz5 hD hDl hDm hds hZ16
              gi_upto_region 19 with (first
                | (refine wpListIn_store_row rfl 63 _ _ rfl w5.heap.size ds rfl rfl 63 Z16 (heap_alloc_new w5 _) (by rw [HD.out.1]; kernel_rfl) (by rw [HD.out.1, HD.out.2.1]) HD.out.2.2.1 ?_)
                | gi_in)
              clear hz16
              obtain ⟨q5, hq5⟩ : ∃ q5, w5.heap.size = q5 := ⟨_, rfl⟩
              obtain ⟨W6, hW6⟩ : ∃ W6, (w5.alloc (.cells Z16 63)).setRow q5 ds = W6 := ⟨_, rfl⟩
              have g6 : wy.grownBy W6 none := grown_trans H5.out (by rw [← hW6]; exact grown_row (World.grownBy_alloc _ _ none) (.inl (by omega)) _)
              have b6 : Blk W6 q5 63 ds := by rw [← hW6, ← hq5]; exact (Blk.new w5 _ _).row ds
              have H6 := Lib.hid (And.intro g6 b6)
              rw [hq5, hW6]
              clear g6 b6 hq5 hW6
              gi_wp2_with (first
                | (refine wpListIn_load_row rfl 63 _ rfl q5 rfl 63 ds (0, 0) _ H6.out.2 Tryd.underlying63 rfl (by rw [HD.out.1]; kernel_rfl) ?_)
                | gi_in)
              gi_loopw [57] (fun i wr => ∃ k : Nat, k ≤ 16 ∧ i = .int .i64 (k : Int) ∧ Blk wr g 23 (arrV .u8 (hsL N x D k)) ∧ Kept (fun q => q = g) W6 wr) (fun i _ => 16 - (intOf i).toNat)
              case atStart => exact ⟨0, by omega, rfl, by rw [hsL_zero, ← headB_ints, HB.out.2.2.2]; exact HB.out.1.grown H6.out.1 (by simp), Kept.refl _ _⟩
              case round =>
                obtain ⟨k3, hk3, rfl, hb3, hkk⟩ := hrel
                rename World => wv
                by_cases hk16 : k3 < 16
                · have e4 : decide ((k3 : Int) < 16) = true := by simp; omega
                  have hk3D : k3 < D.length := by rw [HD.out.2.2.2.2.1]; exact hk16
                  have hidx : ds[k3]? = some (.int .u8 (D.getD k3 0)) := by rw [← HD.out.2.2.2.1]; exact getD_arr hk3D
                  have hds16 : ds.size = 16 := HD.out.1
                  obtain ⟨V, hV⟩ : ∃ V, D.getD k3 0 = V := ⟨_, rfl⟩
                  rw [hV] at hidx
                  have hix : ∀ w, Sem.run Tryd.prog (Instr.index 63 (.agg ds) (.int .i64 (k3 : Int))) w = .ok (.int .u8 V) w := fun w => run_index_agg (n := 16) Tryd.underlying63 (by kernel_rfl) (by kernel_rfl) (by omega) (by simpa using hidx)
                  have xc : wv.cell? ⟨g, 40 + k3, none⟩ = some (.int .u8 ((hsL N x D k3).getD (40 + k3) 0)) := by
                    rw [hb3.cell]; exact getD_arr (by rw [hsL_len HD.out.2.2.2.2.1 (by omega)]; omega)
                  have fc := hb3.frozen (40 + k3)
                  have hnew3 : Blk (wv.setCell ⟨g, 40 + k3, none⟩ (.int .u8 V)) g 23 (arrV .u8 (hsL N x D (k3 + 1))) := by
                    have h := hb3.set (40 + k3) (.int .u8 V)
                    rw [arrV_set, ← hV, hsL_step HD.out.2.2.2.2.1 hk16] at h
                    rw [← hV]
                    exact h
                  have HW4 := Lib.hid (And.intro hnew3 (hkk.set (p := ⟨g, 40 + k3, none⟩) (.inl rfl) (.int .u8 V)))
                  clear hnew3 hb3 hkk hV hk3D
                  gi_wp2
                  go_roundw
                  case rel => exact ⟨k3 + 1, by omega, by simp, HW4.out⟩
                  case measure => simp [intOf]; omega
                · have e4 : decide ((k3 : Int) < 16) = false := by simp; omega
                  obtain rfl : k3 = 16 := by omega
                  rw [hsL_all HD.out.2.2.2.2.1, ← HD.out.2.2.2.2.2] at hb3
                  obtain ⟨fs, hfs⟩ : ∃ fs, arrV .u8 (headL N x ++ (ofS 5 [headL N x] ++ List.replicate 8 0)) = fs := ⟨_, rfl⟩
                  rw [hfs] at hb3
                  have HF := Lib.hid (show Blk wv g 23 fs ∧ fs.size = 64 ∧ (fs.all fun v => v.oneCell') = true ∧ secV (slotL N x) = .agg fs from ⟨hb3, by rw [← hfs]; have := slotL_len N x; simpa [arrV, slotL] using this, by rw [← hfs]; exact arr_one _ _, by rw [← hfs]; rfl⟩)
                  have hkw : Kept (fun q => q = g) W0 wv := (HB.out.2.1.next (Kept.of_grown (F := fun _ => False) H6.out.1 (fun _ e => by cases e)) (fun _ _ h => h.elim)).next hkk (fun _ _ h => h)
                  have hb1 := H0.out.2.2.1.kept hkw (show ¬ (w.heap.size = g) by have := H0.out.2.2.2; omega)
                  have gW : w.grownBy wv none := (Kept.of_grown (F := fun q => q = g) H0.out.2.1 (fun _ e => by cases e)).next hkw (fun _ _ h => h) |>.grownNone (fun q h1 h2 => by have h2 : q = g := h2; have := H0.out.2.2.2; omega)
                  have HG := Lib.hid (And.intro hb1 gW)
                  clear hb3 hkk hkw hb1 gW hfs
                  gi_wp2_with (first
                    | (refine wpListIn_load_row rfl 23 _ rfl g rfl 23 fs (0, 0) _ HF.out.1 Tryd.underlying23 rfl (by rw [HF.out.2.1]; kernel_rfl) ?_)
                    | (refine wpListIn_store_row rfl 23 _ _ rfl w.heap.size fs rfl rfl 23 zs HG.out.1 (by rw [HF.out.2.1]; kernel_rfl) (by rw [HF.out.2.1, HS.out.1]) HF.out.2.2.1 ?_)
                    | gi_in)
                  exact ⟨rfl, _, results_cell rfl _ _ _ ⟨w.heap.size, 0, none⟩ (.agg fs) rfl (run_loadVar_row (wv.setRow w.heap.size fs) w.heap.size 23 23 fs (0, 0) _ (HG.out.1.row fs) Tryd.underlying23 rfl (by rw [HF.out.2.1]; kernel_rfl)), by rw [HF.out.2.2.2], grown_row HG.out.2 (.inl (Nat.le_refl _)) _⟩
end Go.Proofs.YtilfapibfadbfaaDoor
