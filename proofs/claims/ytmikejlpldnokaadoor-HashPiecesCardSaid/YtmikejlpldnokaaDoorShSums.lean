/-
  HashSums, walked.
-/
import Derived.Test.YtmikejlpldnokaaDoorRfOf
import Derived.Test.YtmikejlpldnokaaDoorShAlive
import Derived.Test.YtmikejlpldnokaaDoorArrEq
import Derived.Test.YtmikejlpldnokaaDoorNb
namespace Go.Proofs.YtmikejlpldnokaaDoor
open Go.RowKit

theorem eqS (w : World) (l : List Int) (h : l.length = 32) : Sem.run Tryd.prog (Op.equalIn 10000 25 (.agg (arrV .u8 l)) (.agg (arrV .u8 l))) w = .ok true w := by
  have := eq_arr w 9998 Tryd.underlying25 (by kernel_rfl) Tryd.underlying5 (by kernel_rfl) (by kernel_rfl) l l h h
  rw [this]; simp
theorem sumf_v (w : World) (hR : Rounds w) (A : Option Addr) (m c : Nat) (xb : List UInt8) (hm : xb.length = m) (hx : BytesAt w A xb) (hc : m ≤ c) (hn : m ≤ 1000) (v : Value) (hv : v = .agg (arrV .u8 (hashS (intsB xb)))) :
    Calls Tryd.prog 11 #[.slice A m c] w fun e w' => e = .returned v ∧ w.grownBy w' none := by
  subst hv
  have h := BytesI.of hx
  exact sumf_is w hR A m c (intsB xb) (by rw [intsB_length]; exact hm) h h.lt hc (by omega)
theorem rsum_v (w : World) (s : ByteArray) (hs : s.size ≤ 50000) (v : Value) (hv : v = .agg (arrV .u8 (hashS (xsOf s)))) :
    Calls Tryd.prog 12 #[.string s] w fun e w' => e = .returned v ∧ w.grownBy w' none := by
  subst hv
  exact rsum_is w s hs
set_option maxRecDepth 100000 in
set_option maxHeartbeats 2000000 in
theorem sums_any (w : World) (hR : Rounds w) (A : Option Addr) (n c : Nat) (xb : List UInt8) (hn : xb.length = n) (hx : BytesAt w A xb) :
    Calls Tryd.prog 3 #[.slice A n c] w fun e w' => e = .returned (.bool true) ∧ w.grownBy w' none := by
  have HX := Lib.hid (And.intro hn hx)
  have HR := Lib.hid hR
  clear hn hx hR
  go_enter Tryd.func3, Tryd.ntmps3
  go_wp2_with fail
  refine (alive_is w HR.out).mono ?_
  rintro e w1 ⟨rfl, hk1⟩
  have HK1 := Lib.hid hk1
  clear hk1
  by_cases hbig : 1000 < n
  · have d1 : decide (1000 < (n : Int)) = true := by simp; omega
    go_wp2_with fail
    go_ret
    exact ⟨rfl, HK1.out⟩
  · have d1 : decide (1000 < (n : Int)) = false := by simp; omega
    have HN := Lib.hid hbig
    clear hbig
    go_wp2_with fail
    refine (nbytes_is w1 A n c xb (HX.out.2.grown HK1.out (by simp)) HX.out.1 (by have := HN.out; omega)).mono ?_
    rintro e w2 ⟨g, cap, rfl, hg, hM, hk2⟩
    have HM := Lib.hid hM
    have HK2 := Lib.hid (grown_trans HK1.out hk2)
    have HC := Lib.hid (show n ≤ cap by have := hM.cap_le; have := HX.out.1; omega)
    clear hg hM hk2
    go_wp2_with fail
    refine wp_region_grown (by kernel_rfl) (by kernel_rfl) ?_
    obtain ⟨ds, hds⟩ : ∃ ds, ds = arrV .u8 (hashS (intsB xb)) := ⟨_, rfl⟩
    have HDS := Lib.hid hds
    clear hds
    have heq : ∀ w, Sem.run Tryd.prog (Op.equalIn 10000 25 (.agg ds) (.agg ds)) w = .ok true w := fun w => by rw [HDS.out]; exact eqS w _ (hashS_length _)
    have v1 : ∀ z : Gr w2, Sem.run Tryd.prog (convert 22 9 (.slice A n c)) z.1 = .ok (.string ⟨xb.toArray⟩) z.1 := fun z => BytesAt.str (show BytesAt z.1 A xb from HX.out.2.grown (grown_trans HK2.out z.2) (by simp)) c n HX.out.1
    have s1 : ∀ z : Gr w2, Calls Tryd.prog 11 #[.slice (some ⟨g, 0, none⟩) n cap] z.1 fun e w' => e = .returned (.agg ds) ∧ z.1.grownBy w' none := fun z =>
      sumf_v _ (HR.out.grown (grown_trans HK2.out z.2) (by simp)) (some ⟨g, 0, none⟩) n cap xb HX.out.1 (HM.out.grown z.2 (by simp)).bytes HC.out (by have := HN.out; omega) (.agg ds) (by rw [HDS.out])
    have s2 : ∀ z : Gr w2, Calls Tryd.prog 12 #[.string ⟨xb.toArray⟩] z.1 fun e w' => e = .returned (.agg ds) ∧ z.1.grownBy w' none := fun z =>
      rsum_v _ ⟨xb.toArray⟩ (by have := HN.out; have := HX.out.1; show xb.toArray.size ≤ _; simp; omega) (.agg ds) (by rw [HDS.out, xsOf_mk])
    have s3 : ∀ z : Gr w2, Calls Tryd.prog 13 #[.slice (some ⟨g, 0, none⟩) n cap, .slice A n c] z.1 fun e w' => e = .returned (.bool true) ∧ z.1.grownBy w' none := fun z =>
      nkept_is _ g cap A n c xb (HX.out.2.grown (grown_trans HK2.out z.2) (by simp)) HX.out.1 (by have := HN.out; omega) (HM.out.grown z.2 (by simp))
    have S1 := Lib.hid s1
    have S2 := Lib.hid s2
    have S3 := Lib.hid s3
    clear s1 s2 s3
    repeat (go_big_quiet_step (first
      | (go_at_call 11; with_reducible exact Calls.grown _ (S1.out _))
      | (go_at_call 12; with_reducible exact Calls.grown _ (S2.out _))
      | (go_at_call 13; with_reducible exact Calls.grown _ (S3.out _))))
    refine wpQuiet_nil ?_
    rintro w3 ⟨⟨_, k3⟩, rfl⟩
    go_wp2_with fail
    go_ret
    exact ⟨rfl, grown_trans HK2.out k3⟩
end Go.Proofs.YtmikejlpldnokaaDoor
