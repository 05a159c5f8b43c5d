/-
  PowersFinds, walked.
-/
import Derived.Test.YtjoehhchejnhgaaDoorPwG
namespace Go.Proofs.YtjoehhchejnhgaaDoor
open Go.RowKit

/-- The first place of a key at or behind k. -/
def findK (key : List Int) (V : List Vd) (k : Nat) : Int := if findS key (V.drop k) = -1 then -1 else findS key (V.drop k) + k
theorem findK_all (key : List Int) (V : List Vd) : findK key V V.length = -1 := by simp [findK, findS]
theorem findK_zero (key : List Int) (V : List Vd) : findK key V 0 = findS key V := by
  rw [findK, List.drop_zero]
  by_cases h : findS key V = -1
  · rw [if_pos h, h]
  · rw [if_neg h]; omega
theorem findK_hit {key : List Int} {V : List Vd} {k : Nat} (hk : k < V.length) (h : V[k].key = key) : findK key V k = k := by
  rw [findK, List.drop_eq_getElem_cons hk, findS, if_pos h]; simp
theorem findK_miss {key : List Int} {V : List Vd} {k : Nat} (hk : k < V.length) (h : V[k].key ≠ key) : findK key V k = findK key V (k + 1) := by
  rw [findK, List.drop_eq_getElem_cons hk, findS, if_neg h, findK]
  by_cases e : findS key (V.drop (k + 1)) = -1
  · simp [e]
  · have := findS_nonneg key (V.drop (k + 1))
    rw [if_neg e, if_neg e, if_neg (by omega)]; omega

set_option maxRecDepth 100000 in
set_option maxHeartbeats 1000000 in
theorem finds_any (w : World) (A1 A2 : Option Addr) (c1 c2 B : Nat) (V U : List Vd) (key : List Int) (es er et : Addr) (hV : VdsAt w A1 V) (okV : keysOk V) (hU : VdsAt w A2 U) (okU : keysOk U) (hk : key.length = 16)
    (hB : B ≤ w.heap.size) (he : ErrAt w B 2 es) (her : ErrAt w B 0 er) (het : ErrAt w B 1 et) :
    Calls Tryd.prog 4 #[.slice A1 V.length c1, .slice A2 U.length c2, .agg (arrV .u8 key)] w fun e w' => e = .returned (.bool true) ∧ Below w.heap.size w w' := by
  obtain ⟨ky, hky⟩ : ∃ ky, ky = arrV .u8 key := ⟨_, rfl⟩
  rw [← hky]
  obtain ⟨w0, hw0⟩ : ∃ w0, w0 = w.alloc (.cells ky 38) := ⟨_, rfl⟩
  have hg : w.grownBy w0 none := by rw [hw0]; exact World.grownBy_alloc w _ none
  have hr : w0.rangeAt w.heap.size 0 (key.map (Value.int .u8)) := by rw [hw0, hky]; exact range_new w (key.map (Value.int .u8)) _
  have HV := Lib.hid (And.intro (hV.grown hg) (And.intro (hU.grown hg) (And.intro okV (And.intro okU hk))))
  have HE := Lib.hid (And.intro (Nat.le_trans hB hg.size) (And.intro (he.grown hg (fun _ e => by cases e)) (And.intro (her.grown hg (fun _ e => by cases e)) (het.grown hg (fun _ e => by cases e)))))
  have HG := Lib.hid (And.intro hg (And.intro hr hky))
  clear hV okV hU okU hB he her het hg hr hk hky
  go_enter Tryd.func4, Tryd.ntmps4
  go_wp2_with fail
  rw [← hw0]
  have HW0 := Lib.hid hw0
  clear hw0
  refine (alive_is w0 B es er et HE.out.1 HE.out.2.1 HE.out.2.2.1 HE.out.2.2.2).mono ?_
  rintro e w1 ⟨rfl, hk1⟩
  have K1 := Lib.hid hk1
  clear hk1
  by_cases h30 : V.length ≤ 30
  · have d1 : decide ((30 : Int) < (V.length : Int)) = false := by simp; omega
    have e1 : (V.length : Int) ≤ 30 := by omega
    by_cases h31 : U.length ≤ 30
    · have d2 : decide ((30 : Int) < (U.length : Int)) = false := by simp; omega
      have e2 : (U.length : Int) ≤ 30 := by omega
      have HL := Lib.hid (And.intro h30 h31)
      have hs : wrap64 ((V.length : Int) - 1) = (V.length : Int) - 1 := w64 _ ⟨by omega, by omega⟩
      clear h30 h31
      go_wp2_with fail
      go_loopw [7, 8] (fun a i wr => ∃ k : Nat, k ≤ V.length ∧ i = .int .i64 ((k : Int) - 1) ∧ a = .int .i64 (findK key V k) ∧ w1.grownBy wr none) (fun _ i _ => (intOf i + 1).toNat)
      case atStart => exact ⟨V.length, by omega, rfl, by rw [findK_all], World.grownBy.refl w1 none⟩
      case round =>
        obtain ⟨k, hkl, hi, ha, hK⟩ := hrel
        obtain ⟨I, hI⟩ : ∃ I : Int, I = (k : Int) - 1 := ⟨_, rfl⟩
        rw [← hI] at hi
        subst hi
        obtain ⟨f, hf⟩ : ∃ f, f = findK key V k := ⟨_, rfl⟩
        rw [← hf] at ha
        subst ha
        by_cases hlt : 0 < k
        · have d3 : decide (0 ≤ I) = true := by simp; omega
          have hIV : I < (V.length : Int) := by omega
          have hI0 : 0 ≤ I ∧ I < 1000 := by have := HL.out; omega
          have hm : k - 1 < V.length := by omega
          obtain ⟨b, off, rfl, hc⟩ := (HV.out.1.above K1.out) (by rintro rfl; simp at hm)
          have hkI : I.toNat = k - 1 := by omega
          have r1 := range_kept (hc (k - 1) hm) hK
          have hx := HV.out.2.2.1 _ (List.getElem_mem hm)
          obtain ⟨x, hxe⟩ : ∃ x, x = V[k - 1] := ⟨_, rfl⟩
          rw [← hxe] at r1 hx
          rw [← hkI] at r1
          have r2 := vd_range r1
          have rk : w1.rangeAt w.heap.size 0 (key.map (Value.int .u8)) := range_below HG.out.2.1 K1.out (by have := HG.out.1; rw [HW0.out]; simp)
          have rk2 := range_kept rk hK
          have heq : ∀ w, Sem.run Tryd.prog (Op.equalIn 10000 38 (.agg (arrV .u8 x.key)) (.agg (arrV .u8 key))) w = .ok (decide (x.key = key)) w := fun w => eqD w x.key key hx HV.out.2.2.2.2
          obtain ⟨r, hr⟩ : ∃ r, r = decide (x.key = key) := ⟨_, rfl⟩
          rw [← hr] at heq
          have i1 := keySize hx
          have i2 := keySize HV.out.2.2.2.2
          obtain ⟨kx, hkx⟩ : ∃ kx, kx = x.key.map (Value.int .u8) := ⟨_, rfl⟩
          obtain ⟨kk, hkk⟩ : ∃ kk, kk = key.map (Value.int .u8) := ⟨_, rfl⟩
          unfold arrV at heq
          rw [← hkx] at r2 i1 heq
          rw [← hkk] at rk2 i2 heq
          have HR := Lib.hid (And.intro r2 (And.intro rk2 (And.intro i1 i2)))
          have HN := Lib.hid (And.intro hK (And.intro hI (And.intro hlt (And.intro hkl hf))))
          have HX := Lib.hid (show ∃ h : k - 1 < V.length, r = decide (V[k - 1].key = key) from ⟨hm, by rw [hr, hxe]⟩)
          have hw1 : wrap64 (I - 1) = I - 1 := w64 _ ⟨by omega, by omega⟩
          clear r1 r2 rk rk2 i1 i2 hxe hx hr hkx hkk hK hlt hI hkl hf hc hm hkI
          go_wp2_with fail
          refine wp_region_quiet_lit (by kernel_rfl) (by kernel_rfl) ?_
          repeat (first
            | go_big_quiet_skip
            | (go_big_quiet_want; first
                | (refine quiet_load_mid 38 _ rfl b (off + I.toNat * 17) rfl kx _ (fun W hW => by obtain ⟨n, rfl⟩ := hW; exact HR.out.1) Tryd.underlying38 rfl HR.out.2.2.1 ?_; simp only [Act.put, List.setIfInBounds_toArray, List.set_cons_zero, List.set_cons_succ]; go_big_quiet_on)
                | (refine quiet_load_mid 38 _ rfl w.heap.size 0 rfl kk _ (fun W hW => by obtain ⟨n, rfl⟩ := hW; exact HR.out.2.1) Tryd.underlying38 rfl HR.out.2.2.2 ?_; simp only [Act.put, List.setIfInBounds_toArray, List.set_cons_zero, List.set_cons_succ]; go_big_quiet_on)
                | (go_big_quiet_op; go_big_quiet_on)))
          refine wpQuiet_nil ?_
          intro W hW
          obtain ⟨n, rfl⟩ := hW
          cases r with
          | true =>
            go_wp2_with fail
            go_roundw
            case rel =>
              obtain ⟨n1, n2, n3, n4, n5⟩ := HN.out
              obtain ⟨x1, x2⟩ := HX.out
              refine ⟨k - 1, by omega, by rw [n2]; congr 1; omega, ?_, ⟨n1.os, n1.tape, n1.output, n1.size, n1.block⟩⟩
              rw [findK_hit x1 (by simpa using x2.symm), n2]; congr 1; omega
            case measure => obtain ⟨n1, n2, n3, n4, n5⟩ := HN.out; simp [intOf]; omega
          | false =>
            go_wp2_with fail
            go_roundw
            case rel =>
              obtain ⟨n1, n2, n3, n4, n5⟩ := HN.out
              obtain ⟨x1, x2⟩ := HX.out
              refine ⟨k - 1, by omega, by rw [n2]; congr 1; omega, ?_, ⟨n1.os, n1.tape, n1.output, n1.size, n1.block⟩⟩
              rw [findK_miss x1 (by simpa using x2.symm), n5, show k - 1 + 1 = k by omega]
            case measure => obtain ⟨n1, n2, n3, n4, n5⟩ := HN.out; simp [intOf]; omega
        · obtain rfl : k = 0 := by omega
          have d3 : decide (0 ≤ I) = false := by simp; omega
          rw [findK_zero] at hf
          have rk : w1.rangeAt w.heap.size 0 (key.map (Value.int .u8)) := range_below HG.out.2.1 K1.out (by have := HG.out.1; rw [HW0.out]; simp)
          have rk2 := range_kept rk hK
          have HN := Lib.hid (And.intro (above_trans K1.out (grown_above hK)) (And.intro hf rk2))
          clear hI hlt hkl hf hK rk rk2 hs
          go_wp2_with (refine wpList_load_mid rfl 38 _ rfl w.heap.size 0 rfl (key.map (Value.int .u8)) _ HN.out.2.2 Tryd.underlying38 rfl (keySize HV.out.2.2.2.2) ?_)
          refine (find_is wr A1 c1 V (HV.out.1.above HN.out.1) HV.out.2.2.1 (by have := HL.out; omega) key HV.out.2.2.2.2).mono ?_
          rintro e w2 ⟨rfl, hk2⟩
          rw [← HN.out.2.1]
          have K2 := Lib.hid (above_trans HN.out.1 (grown_above hk2))
          clear hk2
          obtain ⟨s, hs⟩ : ∃ s, s = sameS V U := ⟨_, rfl⟩
          go_wp2_with fail
          refine (same_is w2 A1 A2 c1 c2 V U (HV.out.1.above K2.out) (HV.out.2.1.above K2.out) HV.out.2.2.1 HV.out.2.2.2.1 (by have := HL.out; omega)).mono ?_
          rintro e w3 ⟨rfl, hk3⟩
          rw [← hs]
          have K3 := Lib.hid (above_trans K2.out (grown_above hk3))
          clear hk3
          go_wp2_with fail
          refine (rsame_is w3 A1 A2 c1 c2 V U (HV.out.1.above K3.out) (HV.out.2.1.above K3.out) HV.out.2.2.1 HV.out.2.2.2.1 (by have := HL.out; omega)).mono ?_
          rintro e w4 ⟨rfl, hk4⟩
          rw [← hs]
          have K4 := Lib.hid (above_trans K3.out (grown_above hk4))
          clear hk4 hs
          go_wp2_with fail
          refine (same_is w4 A1 A1 c1 c1 V V (HV.out.1.above K4.out) (HV.out.1.above K4.out) HV.out.2.2.1 HV.out.2.2.1 (by have := HL.out; omega)).mono ?_
          rintro e w5 ⟨rfl, hk5⟩
          rw [show sameS V V = true by simp [sameS]]
          have K5 := Lib.hid (above_trans K4.out (grown_above hk5))
          clear hk5
          go_wp2_with fail
          go_ret
          exact ⟨rfl, above_trans (grown_above HG.out.1) K5.out⟩
    · have d2 : decide ((30 : Int) < (U.length : Int)) = true := by simp; omega
      have e2 : (30 : Int) < (U.length : Int) := by omega
      clear h30 h31
      go_wp2_with fail
      go_ret
      exact ⟨rfl, above_trans (grown_above HG.out.1) K1.out⟩
  · have d1 : decide ((30 : Int) < (V.length : Int)) = true := by simp; omega
    have e1 : (30 : Int) < (V.length : Int) := by omega
    clear h30
    go_wp2_with fail
    go_ret
    exact ⟨rfl, above_trans (grown_above HG.out.1) K1.out⟩
end Go.Proofs.YtjoehhchejnhgaaDoor
