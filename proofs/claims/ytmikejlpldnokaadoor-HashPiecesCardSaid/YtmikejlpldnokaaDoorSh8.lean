/-
  SHA-256: New, and Sum of bytes.
-/
import Derived.Test.YtmikejlpldnokaaDoorSh7
namespace Go.Proofs.YtmikejlpldnokaaDoor
open Go.RowKit

theorem add_none (b o j : Nat) : (⟨b, o, none⟩ : Addr).add j = ⟨b, o + j, none⟩ := by simp [Addr.add]
/-- The hash of bytes. -/
def hashS (x : List Int) : List Int := digS (writeS startS x)
theorem hashS_length (x : List Int) : (hashS x).length = 32 := digS_length _

set_option maxRecDepth 100000 in
set_option maxHeartbeats 1000000 in
theorem new_is (w : World) : Calls Tryd.prog 16 #[] w fun e w' => ∃ g, e = .returned (.pointer (some ⟨g, 0, none⟩)) ∧ HashIs w' g startS ∧ w.heap.size ≤ g ∧ w.grownBy w' none := by
  obtain ⟨C0, hC0⟩ : ∃ C0, C0 = hash0 := ⟨_, rfl⟩
  have hz : ∀ w, Sem.run Tryd.prog (zeroValue 55) w = .ok (.agg C0) w := fun w => by rw [hC0]; exact zeroHash w
  have HZ := Lib.hid (show C0.size = 73 by rw [hC0]; rfl)
  clear hC0
  go_enter Tryd.func16, Tryd.ntmps16
  go_wp2_with fail
  refine (start_is w).mono ?_
  rintro e w1 ⟨rfl, hk1⟩
  obtain ⟨cs, hcs⟩ : ∃ cs, cs = hashV startS.ws startS.bs 0 := ⟨_, rfl⟩
  rw [← hcs]
  have hsz : cs.size = 73 := by rw [hcs]; exact hash_size _ _ _ rfl rfl
  have HI := Lib.hid (show (Tryd.prog.info? 55).map (·.size) = some cs.size by rw [hsz]; exact hash_info)
  have HO := Lib.hid (show (cs.all fun x => x.oneCell') = true by rw [hcs]; exact hash_one _ _ _)
  have HS := Lib.hid hsz
  have HC := Lib.hid hcs
  have HK := Lib.hid hk1
  clear hsz hcs hk1
  go_wp2_with (refine wpList_store_row rfl 55 _ _ rfl w1.heap.size cs rfl rfl 55 _ (heap_alloc_new w1 _) HI.out (by rw [HS.out]; exact HZ.out) HO.out ?_)
  go_ret
  exact ⟨_, rfl, ⟨by have := Blk.row (Blk.new w1 55 C0) cs; rw [HC.out] at this ⊢; exact this, rfl, rfl⟩, HK.out.size, grown_row (grown_trans HK.out (World.grownBy_alloc w1 _ none)) (.inl HK.out.size) cs⟩

set_option maxRecDepth 100000 in
set_option maxHeartbeats 1000000 in
theorem sumf_is (w : World) (hR : Rounds w) (A : Option Addr) (m c : Nat) (x : List Int) (hm : x.length = m) (hx : BytesI w A x) (hA : ∀ ad, A = some ad → x ≠ [] → ad.block < w.heap.size) (hc : m ≤ c) (hn : m ≤ 1073741824) :
    Calls Tryd.prog 11 #[.slice A m c] w fun e w' => e = .returned (.agg (arrV .u8 (hashS x))) ∧ w.grownBy w' none := by
  obtain ⟨C0, hC0⟩ : ∃ C0, C0 = hash0 := ⟨_, rfl⟩
  have hz : ∀ w, Sem.run Tryd.prog (zeroValue 55) w = .ok (.agg C0) w := fun w => by rw [hC0]; exact zeroHash w
  have HZ := Lib.hid (show C0.size = 73 by rw [hC0]; rfl)
  have HX := Lib.hid (And.intro hx (And.intro hA (And.intro hm (And.intro hc (And.intro hn (show 0 < w.heap.size from hR.lt))))))
  have HR := Lib.hid hR
  clear hC0 hx hA hm hc hn hR
  go_enter Tryd.func11, Tryd.ntmps11
  go_wp2_with fail
  rw [← z32b]
  have HB0 := Lib.hid (Blk.new w 25 (arrV .u8 (List.replicate 32 0)))
  have HG0 := Lib.hid (World.grownBy_alloc w (.cells (arrV .u8 (List.replicate 32 0)) 25) none)
  generalize w.alloc (.cells (arrV .u8 (List.replicate 32 0)) 25) = w0 at *
  refine (start_is w0).mono ?_
  rintro e w1 ⟨rfl, hk1⟩
  obtain ⟨cs, hcs⟩ : ∃ cs, cs = hashV startS.ws startS.bs 0 := ⟨_, rfl⟩
  rw [← hcs]
  have hsz : cs.size = 73 := by rw [hcs]; exact hash_size _ _ _ rfl rfl
  have HI := Lib.hid (show (Tryd.prog.info? 55).map (·.size) = some cs.size by rw [hsz]; exact hash_info)
  have HO := Lib.hid (show (cs.all fun x => x.oneCell') = true by rw [hcs]; exact hash_one _ _ _)
  have HS := Lib.hid hsz
  have HC := Lib.hid hcs
  have HB1 := Lib.hid (HB0.out.grown hk1 (by simp))
  have HG1 := Lib.hid (grown_trans HG0.out hk1)
  clear hsz hcs hk1 HB0 HG0
  go_wp2_with (refine wpList_store_row rfl 55 _ _ rfl w1.heap.size cs rfl rfl 55 _ (heap_alloc_new w1 _) HI.out (by rw [HS.out]; exact HZ.out) HO.out ?_)
  have hH2 : HashIs ((w1.alloc (.cells C0 55)).setRow w1.heap.size cs) w1.heap.size startS := ⟨by have := Blk.row (Blk.new w1 55 C0) cs; rw [HC.out] at this ⊢; exact this, rfl, rfl⟩
  have hB2 := Blk.farRow (HB1.out.alloc (.cells C0 55)) (Nat.ne_of_lt HB1.out.lt) cs
  have hG2 := grown_row (grown_trans HG1.out (World.grownBy_alloc w1 (.cells C0 55) none)) (g := w1.heap.size) (.inl HG1.out.size) cs
  have HLT := Lib.hid (And.intro HB1.out.lt HG1.out.size)
  generalize (w1.alloc (.cells C0 55)).setRow w1.heap.size cs = w2 at *
  clear HI HO HS HC HB1 HG1 hz HZ
  refine (write_is w2 w1.heap.size startS hH2 (by have := HLT.out.1; omega) (HR.out.grown hG2 (by simp)) A m c x HX.out.2.2.1 (fun hne => by
      obtain ⟨ad, rfl, hc⟩ := HX.out.1 hne
      exact ⟨ad, rfl, fun j hj => hG2.cell (hc j hj) (by simp)⟩) (fun ad e hne => by have := HX.out.2.1 ad e hne; have := HLT.out; omega) HX.out.2.2.2.1 (by have := HX.out.2.2.2.2.1; show 0 + m ≤ _; omega)).mono ?_
  rintro e w3 ⟨rfl, hH3, hk3⟩
  have HH3 := Lib.hid hH3
  have HB3 := Lib.hid (hB2.grown hk3 (by intro e; have := Option.some.inj e; have := HLT.out.1; omega))
  have HG3 := Lib.hid (grown_off hG2 hk3 HLT.out.2)
  clear hH2 hB2 hG2 hH3 hk3
  go_wp2_with fail
  refine (sum_is w3 w1.heap.size _ HH3.out (HR.out.grown HG3.out (by simp)) (by rw [writeS_n]; have := HX.out; show 0 + _ ≤ _; omega)).mono ?_
  rintro e w4 ⟨rfl, hk4⟩
  obtain ⟨ds, hds⟩ : ∃ ds, ds = arrV .u8 (digS (writeS startS x)) := ⟨_, rfl⟩
  rw [← hds]
  have hsz : ds.size = 32 := by rw [hds, arr_size, digS_length]
  have HI3 := Lib.hid (show (Tryd.prog.info? 25).map (·.size) = some ds.size by rw [hsz]; exact info32)
  have HS3 := Lib.hid (And.intro hsz (show (ds.all fun x => x.oneCell') = true by rw [hds]; exact arr_one _ _))
  have HD := Lib.hid (show ds = arrV .u8 (hashS x) from hds)
  have HB4 := Lib.hid (HB3.out.grown hk4 (by simp))
  have HG4 := Lib.hid (grown_trans HG3.out hk4)
  clear hsz hds hk4 HB3 HG3
  go_wp2_with (refine wpList_store_row rfl 25 _ _ rfl w.heap.size ds rfl rfl 25 _ HB4.out HI3.out (by rw [HS3.out.1]; simp [arrV]) HS3.out.2 ?_)
  refine bodyPost_ret (results_cell rfl _ _ _ ⟨w.heap.size, 0, none⟩ (.agg ds) rfl (run_loadVar_row _ w.heap.size 25 25 ds (0, 0) _ (HB4.out.row ds) Tryd.underlying25 rfl HI3.out)) rfl ?_
  exact ⟨by rw [HD.out], grown_row HG4.out (.inl (Nat.le_refl _)) ds⟩
end Go.Proofs.YtmikejlpldnokaaDoor
