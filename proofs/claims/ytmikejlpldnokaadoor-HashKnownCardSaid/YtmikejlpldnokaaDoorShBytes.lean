/-
  HashBytes, walked: bytes that come one by one.
-/
import Derived.Test.YtmikejlpldnokaaDoorShAlive
import Derived.Test.YtmikejlpldnokaaDoorArrEq
namespace Go.Proofs.YtmikejlpldnokaaDoor
open Go.RowKit

theorem eq32 (w : World) (l1 l2 : List Int) (h1 : l1.length = 32) (h2 : l2.length = 32) : Sem.run Tryd.prog (Op.equalIn 10000 25 (.agg (arrV .u8 l1)) (.agg (arrV .u8 l2))) w = .ok (decide (l1 = l2)) w :=
  eq_arr w 9998 Tryd.underlying25 (by kernel_rfl) Tryd.underlying5 (by kernel_rfl) (by kernel_rfl) l1 l2 h1 h2
theorem eq32_self (w : World) (l : List Int) (h : l.length = 32) : Sem.run Tryd.prog (Op.equalIn 10000 25 (.agg (arrV .u8 l)) (.agg (arrV .u8 l))) w = .ok true w := by
  rw [eq32 w l l h h]; simp
theorem take_push (x : List Int) (k : Nat) (h : k < x.length) : x.take (k + 1) = x.take k ++ [x.getD k 0] := by
  rw [List.take_add_one, List.getD, List.getElem?_eq_getElem h]; rfl

set_option maxRecDepth 100000 in
set_option maxHeartbeats 1000000 in
theorem bytes_any (w : World) (hR : Rounds w) (A : Option Addr) (m c : Nat) (x : List Int) (hm : x.length = m) (hx : BytesI w A x) (hA : ∀ ad, A = some ad → x ≠ [] → ad.block < w.heap.size) (hc : m ≤ c) :
    Calls Tryd.prog 8 #[.slice A m c] w fun e w' => e = .returned (.bool true) ∧ w.grownBy w' none := by
  have HX := Lib.hid (And.intro hx (And.intro hA (And.intro hm hc)))
  have HR := Lib.hid hR
  clear hR hx hA hm hc
  go_enter Tryd.func8, Tryd.ntmps8
  go_wp2_with fail
  refine (alive_is w HR.out).mono ?_
  rintro e w1 ⟨rfl, hk1⟩
  have HK1 := Lib.hid hk1
  clear hk1
  by_cases hbig : 300 < m
  · have d1 : decide (300 < (m : Int)) = true := by simp; omega
    go_wp2_with fail
    go_ret
    exact ⟨rfl, HK1.out⟩
  · have d1 : decide (300 < (m : Int)) = false := by simp; omega
    go_wp2_with fail
    refine (new_is w1).mono ?_
    rintro e w2 ⟨g, rfl, hH2, hg2, hk2⟩
    have HM := Lib.hid (And.intro hbig (And.intro (show w.heap.size ≤ g from Nat.le_trans HK1.out.size hg2) HR.out.lt))
    have HH2 := Lib.hid hH2
    have HK2 := Lib.hid (grown_trans HK1.out hk2)
    clear hbig hH2 hg2 hk2 d1
    go_wp2_with fail
    go_loopw [14] (fun i wr => ∃ k : Nat, k ≤ m ∧ i = .int .i64 (k : Int) ∧ HashIs wr g (writeS startS (x.take k)) ∧ w.grownBy wr none) (fun i _ => m - (intOf i).toNat)
    case atStart => exact ⟨0, by omega, rfl, HH2.out, HK2.out⟩
    case round =>
      obtain ⟨k, hk, hi, hH, hK⟩ := hrel
      obtain ⟨I, hI⟩ : ∃ I : Int, I = (k : Int) := ⟨_, rfl⟩
      rw [← hI] at hi
      subst hi
      by_cases hlt : k < m
      · have d1 : decide (I < (m : Int)) = true := by simp; omega
        obtain ⟨ad, rfl, hcell⟩ := HX.out.1 (by intro e; have := HX.out.2.2.1; rw [e] at this; simp at this; omega)
        obtain ⟨y, hy⟩ : ∃ y, y = x.getD k 0 := ⟨_, rfl⟩
        have hkI : I.toNat = k := by omega
        have hcy : wr.cell? (ad.add I.toNat) = some (.int .u8 y) := by rw [hkI, hy]; exact hK.cell (hcell k (by rw [HX.out.2.2.1]; exact hlt)) (by simp)
        have hx0 : 0 ≤ I ∧ I < (m : Int) := by omega
        have HI := Lib.hid (And.intro hI (And.intro hlt (And.intro hkI (And.intro hy hk))))
        have HH := Lib.hid hH
        have HK := Lib.hid hK
        clear hI hlt hkI hy hk hH hK hcell
        go_wp2_with fail
        have hA0 := Lib.hid (Blk.new wr 5 (arrV .u8 [y]))
        have hG0 := Lib.hid (World.grownBy_alloc wr (.cells (arrV .u8 [y]) 5) none)
        generalize hw0 : wr.alloc (.cells #[.int .u8 y] 5) = w3
        rw [show wr.alloc (.cells (arrV .u8 [y]) 5) = w3 from hw0] at hA0 hG0
        clear hw0
        refine (write_is w3 g _ (HH.out.grown hG0.out (by simp)) (by have := HM.out; omega) ((HR.out.grown HK.out (by simp)).grown hG0.out (by simp)) (some ⟨wr.heap.size, 0, none⟩) 1 1 [y] rfl (BytesI.blk hA0.out (fun j hj => by simp at hj; subst hj; simp)) (fun ad e _ => by obtain rfl := Option.some.inj e; exact fun h => by have := HH.out.1.lt; simp at h; omega) (Nat.le_refl _) (by rw [writeS_n, List.length_take]; have := HM.out.1; have := HI.out; show 0 + _ + _ ≤ _; omega)).mono ?_
        rintro e w4 ⟨rfl, hH4, hk4⟩
        have HH4 := Lib.hid hH4
        have HK4 := Lib.hid (grown_off (grown_trans HK.out hG0.out) hk4 HM.out.2.1)
        clear hH4 hk4
        have hx0 := hx0
        go_wp2_with fail
        go_roundw
        case rel =>
          obtain ⟨hI, hlt, hkI, hy, hk⟩ := HI.out
          have := HM.out.1
          refine ⟨k + 1, by omega, by rw [hI, w64 _ ⟨by omega, by omega⟩]; rfl, ?_, HK4.out⟩
          rw [take_push x k (by rw [HX.out.2.2.1]; exact hlt), writeS_append, ← hy]
          exact HH4.out
        case measure => obtain ⟨hI, hlt, hkI, hy, hk⟩ := HI.out; have := HM.out.1; simp only [intOf]; rw [w64 _ ⟨by omega, by omega⟩]; omega
      · have d1 : decide (I < (m : Int)) = false := by simp; omega
        obtain rfl : k = m := by omega
        rw [List.take_of_length_le (by rw [HX.out.2.2.1]; exact Nat.le_refl _)] at hH
        have HH := Lib.hid hH
        have HK := Lib.hid hK
        clear hI hlt hk hH hK
        go_wp2_with fail
        refine (write_is wr g _ HH.out (by have := HM.out; omega) (HR.out.grown HK.out (by simp)) none 0 0 [] rfl (fun h => absurd rfl h) (fun ad e => by cases e) (Nat.le_refl _) (by rw [writeS_n]; have := HM.out.1; have := HX.out.2.2.1; show 0 + _ + _ ≤ _; omega)).mono ?_
        rintro e w4 ⟨rfl, hH4, hk4⟩
        have HH4 := Lib.hid (show HashIs w4 g (writeS startS x) from hH4)
        have HK4 := Lib.hid (grown_off HK.out hk4 HM.out.2.1)
        clear hH4 hk4
        have hn4 : (writeS startS x).n ≤ 1073741824 := by rw [writeS_n]; have := HM.out.1; have := HX.out.2.2.1; show 0 + _ ≤ _; omega
        go_wp2_with fail
        refine (sum_is w4 g _ HH4.out (HR.out.grown HK4.out (by simp)) hn4).mono ?_
        rintro e w5 ⟨rfl, hk5⟩
        have HK5 := Lib.hid (grown_trans HK4.out hk5)
        have HH5 := Lib.hid (HH4.out.grown hk5 (by simp))
        rw [show digS (writeS startS x) = hashS x from rfl]
        obtain ⟨ds, hds⟩ : ∃ ds, ds = arrV .u8 (hashS x) := ⟨_, rfl⟩
        rw [← hds]
        have HDS := Lib.hid hds
        clear hds
        go_wp2_with fail
        refine (sumf_is w5 (HR.out.grown HK5.out (by simp)) A k c x HX.out.2.2.1 (fun hne => by
            obtain ⟨ad, rfl, hc⟩ := HX.out.1 hne
            exact ⟨ad, rfl, fun j hj => HK5.out.cell (hc j hj) (by simp)⟩) (fun ad e hne => Nat.lt_of_lt_of_le (HX.out.2.1 ad e hne) HK5.out.size) HX.out.2.2.2 (by have := HM.out.1; omega)).mono ?_
        rintro e w6 ⟨rfl, hk6⟩
        have HK6 := Lib.hid (grown_trans HK5.out hk6)
        have HH6 := Lib.hid (HH5.out.grown hk6 (by simp))
        rw [← HDS.out]
        have heq : ∀ w, Sem.run Tryd.prog (Op.equalIn 10000 25 (.agg ds) (.agg ds)) w = .ok true w := fun w => by rw [HDS.out]; exact eq32_self w _ (hashS_length x)
        clear hk5 hk6
        go_wp2_with fail
        refine (sum_is w6 g _ HH6.out (HR.out.grown HK6.out (by simp)) hn4).mono ?_
        rintro e w7 ⟨rfl, hk7⟩
        have HK7 := Lib.hid (grown_trans HK6.out hk7)
        have HH7 := Lib.hid (HH6.out.grown hk7 (by simp))
        rw [show digS (writeS startS x) = hashS x from rfl, ← HDS.out]
        clear hk7
        go_wp2_with fail
        refine (sum_is w7 g _ HH7.out (HR.out.grown HK7.out (by simp)) hn4).mono ?_
        rintro e w8 ⟨rfl, hk8⟩
        have HK8 := Lib.hid (grown_trans HK7.out hk8)
        rw [show digS (writeS startS x) = hashS x from rfl, ← HDS.out]
        clear hk8
        go_wp2_with fail
        go_ret
        exact ⟨rfl, HK8.out⟩
end Go.Proofs.YtmikejlpldnokaaDoor
