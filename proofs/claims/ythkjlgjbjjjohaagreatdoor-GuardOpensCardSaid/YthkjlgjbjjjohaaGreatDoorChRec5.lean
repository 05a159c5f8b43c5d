/-
  Several texts in one: ChGo, ChD, ChE, ChF, ChG.
-/
import Derived.Test.YthkjlgjbjjjohaaGreatDoorDiA
import Derived.Test.YthkjlgjbjjjohaaGreatDoorChA5
import Derived.Test.YthkjlgjbjjjohaaGreatDoorDgA
import Derived.Test.YthkjlgjbjjjohaaGreatDoorBaseA
import Derived.Deep.MidRow
/-
  ChainsGo, walked.
-/
namespace Go.Proofs.YthkjlgjbjjjohaaGreatDoor
open Go.RowKit

theorem run_v (w : World) (hR : Rounds w) (x : List Int) (hx : isDig x) (lf i fr to : Int) (h0 : 0 ≤ fr) (h3 : to ≤ 3) (n : Nat) (hn : n = (to - fr).toNat) (ds rs : Array Value) (h1 : ds = arrV .u8 x) (h2 : rs = arrV .u8 (runC x lf i fr n)) :
    Calls Tryz.prog 68 #[.agg ds, .int .i64 lf, .int .i64 i, .int .i64 fr, .int .i64 to] w fun e w' => e = .returned (.agg rs) ∧ w.grownBy w' none := by
  subst h1
  exact run_is w hR x hx lf i fr to fr to n (.inr ⟨h0, rfl⟩) (.inl ⟨h3, rfl⟩) hn rs h2
theorem uint_mod (u : Int) (h : 0 ≤ u) : ∃ m : Int, 0 ≤ m ∧ m ≤ 3 ∧ (u.tmod 4 = m ∧ u % 4 = m ∧ IntKind.i64.wrap m = m) := ⟨u % 4, by omega, by omega, Int.tmod_eq_emod_of_nonneg h, rfl, by rw [IntKind.wrap_i64]; omega⟩

end Go.Proofs.YthkjlgjbjjjohaaGreatDoor
/-
  chains.public and quorateref03.Ended.
-/
namespace Go.Proofs.YthkjlgjbjjjohaaGreatDoor
open Go.RowKit

theorem pubC_dig (lf : Int) (ends : List Int) : isDig (pubC lf ends) := by rw [pubC]; exact ofS_dig _ _
set_option maxRecDepth 100000 in
set_option maxHeartbeats 2000000 in
theorem public_is (w : World) (hR : Rounds w) (lf : Int) (A : Option Addr) (m c : Nat) (L : List Int) (hm : L.length = m) (hc : m ≤ c) (hL : BytesI w A L) (h2 : m ≤ 2000) :
    Calls Tryz.prog 69 #[.int .i64 lf, .slice A m c] w fun e w' => e = .returned (.agg (arrV .u8 (pubC lf L))) ∧ w.grownBy w' none := by
  obtain ⟨Z16, hZ16⟩ : ∃ Z, Z = arrV .u8 (List.replicate 16 0) := ⟨_, rfl⟩
  have hz16 : ∀ w, Sem.run Tryz.prog (zeroValue 23) w = .ok (.agg Z16) w := fun w => by rw [hZ16]; exact z16run w
  have hZs : Z16.size = 16 := by rw [hZ16]; rfl
  have hps : ∀ p ∈ [[lf % 256], L], p.length ≤ 65536 := by
    intro p hp
    have : p.length = m ∨ p.length = 1 := by
      simp only [List.mem_cons, List.not_mem_nil, or_false] at hp
      rcases hp with rfl | rfl
      · exact .inr rfl
      · exact .inl hm
    omega
  have HR := Lib.hid hR
  have HA := Lib.hid (And.intro hm (And.intro hc hL))
  have HZS := Lib.hid hZs
  clear hZ16 hZs hR hm hc hL
  go_enter Tryz.func69, Tryz.ntmps69
  go_wp2_with fail
  obtain ⟨w0, hw0⟩ : ∃ w0, w0 = w.alloc (.cells Z16 23) := ⟨_, rfl⟩
  rw [← hw0]
  have HZ0 := Lib.hid (show Blk w0 w.heap.size 23 Z16 by rw [hw0]; exact Blk.new w _ Z16)
  have HG0 := Lib.hid (show w.grownBy w0 none by rw [hw0]; exact World.grownBy_alloc _ _ none)
  clear hw0
  obtain ⟨c6, hc6⟩ : ∃ c6, c6 = arrV .u8 (pubC lf L) := ⟨_, rfl⟩
  have hs16 : c6.size = 16 := by rw [hc6, arr_size]; exact (pubC_dig _ _).1
  have HS6 := Lib.hid (And.intro hs16 (And.intro (show (c6.all fun x => x.oneCell') = true by rw [hc6]; exact arr_one _ _) hc6))
  have HL6 := Lib.hid (show arrV .u8 (ofS 3 [[lf % 256], L]) = c6 by rw [hc6, pubC])
  have W1 : w0.grownBy (w0.alloc (.cells #[.int .u8 (lf % 256)] 5)) none := World.grownBy_alloc _ _ none
  have W3 := grown_trans W1 (World.grownBy_alloc _ (.cells #[.slice (some ⟨w0.heap.size, 0, none⟩) 1 1, .slice A m c] 49) none)
  have HP := Lib.hid (show PartsI ((w0.alloc (.cells #[.int .u8 (lf % 256)] 5)).alloc (.cells #[.slice (some ⟨w0.heap.size, 0, none⟩) 1 1, .slice A m c] 49)) (some ⟨w0.heap.size + 1, 0, none⟩) [[lf % 256], L] from by
    have := parts_new (w0.alloc (.cells #[.int .u8 (lf % 256)] 5)) 49 #[.slice (some ⟨w0.heap.size, 0, none⟩) 1 1, .slice A m c] [[lf % 256], L] (fun j hj => by
      have : j = 0 ∨ j = 1 := by simp at hj; omega
      rcases this with rfl | rfl
      · exact ⟨_, 1, 1, rfl, rfl, Nat.le_refl _, bytes_blk (t := 5) ((Blk.new w0 5 (arrV .u8 [lf % 256])).alloc _)⟩
      · exact ⟨_, m, c, rfl, HA.out.1, HA.out.2.1, (HA.out.2.2.grown HG0.out).grown W3⟩)
    simpa using this)
  have HW3 := Lib.hid (And.intro W3 (grown_trans HG0.out W3))
  clear hs16 hc6 W1 W3
  refine (small_is w0 lf).mono ?_
  rintro e w' ⟨rfl, rfl⟩
  go_wp2_with fail
  refine (of_is _ (HR.out.grown HW3.out.2 (by simp)) 3 _ 2 2 [[lf % 256], L] rfl (by simpa using HP.out) (by omega) hps).mono ?_
  rintro e w9 ⟨rfl, hk9⟩
  rw [HL6.out]
  have HK9 := Lib.hid (grown_trans HW3.out.2 hk9)
  have HB9 := Lib.hid ((HZ0.out.grown HW3.out.1 (by simp)).grown hk9 (by simp))
  clear hk9
  go_wp2_with (refine wpList_store_row rfl 23 _ _ rfl w.heap.size c6 rfl rfl 23 _ HB9.out (by rw [HS6.out.1]; exact info16) (by rw [HZS.out, HS6.out.1]) HS6.out.2.1 ?_)
  refine bodyPost_ret (results_cell rfl _ _ _ ⟨w.heap.size, 0, none⟩ (.agg c6) rfl (run_loadVar_row _ w.heap.size 23 23 c6 (0, 0) _ (HB9.out.row c6) Tryz.underlying23 rfl (by rw [HS6.out.1]; exact info16))) rfl ?_
  exact ⟨by rw [HS6.out.2.2], grown_row HK9.out (.inl (Nat.le_refl _)) c6⟩
end Go.Proofs.YthkjlgjbjjjohaaGreatDoor
/-
  quorateref03.Ended.
-/

namespace Go.Proofs.YthkjlgjbjjjohaaGreatDoor
open Go.RowKit

set_option maxRecDepth 100000 in
set_option maxHeartbeats 2000000 in
theorem rended_is (w : World) (lf : Int) (s2 : ByteArray) (hs2 : s2.size ≤ 2000) :
    Calls Tryz.prog 101 #[.int .i64 lf, .string s2] w fun e w' => e = .returned (.agg (arrV .u8 (pubC lf (xsOf s2)))) ∧ w.grownBy w' none := by
  obtain ⟨s1, h1⟩ := byte_str lf
  obtain ⟨Z16, hZ16⟩ : ∃ Z, Z = arrV .u8 (List.replicate 16 0) := ⟨_, rfl⟩
  have hz16 : ∀ w, Sem.run Tryz.prog (zeroValue 23) w = .ok (.agg Z16) w := fun w => by rw [hZ16]; exact z16run w
  have HD := Lib.hid (show Z16.size = 16 by rw [hZ16]; rfl)
  have HS := Lib.hid (And.intro h1 hs2)
  clear hZ16 h1 hs2
  go_enter Tryz.func101, Tryz.ntmps101
  obtain ⟨w0, hw0⟩ : ∃ w0, w0 = w.alloc (.cells Z16 23) := ⟨_, rfl⟩
  have HZ0 := Lib.hid (show Blk w0 w.heap.size 23 Z16 by rw [hw0]; exact Blk.new w _ Z16)
  have HG0 := Lib.hid (show w.grownBy w0 none by rw [hw0]; exact World.grownBy_alloc _ _ none)
  have HW0 := Lib.hid hw0
  clear hw0
  go_wp2_with fail
  rw [← HW0.out]
  refine (one_is w0 lf s1 HS.out.1).mono ?_
  rintro e w3 ⟨rfl, hk3⟩
  have HK3 := Lib.hid hk3
  clear hk3
  go_wp2_with fail
  have hP := texts_new w3 9 [s1, s2]
  have HE := Lib.hid (show [s1, s2].map xsOf = [[lf % 256], xsOf s2] by simp [HS.out.1])
  have hl : (framedL 3 ([s1, s2].map xsOf)).length ≤ 50000 := by
    rw [HE.out]
    have := framedL_le 3 2000 [[lf % 256], xsOf s2] (fun p hp => by
      simp only [List.mem_cons, List.not_mem_nil, or_false] at hp
      rcases hp with rfl | rfl
      · simp
      · rw [xsOf_length]; exact HS.out.2)
    simp at this
    omega
  refine (rof_is _ 3 (some ⟨w3.heap.size, 0, none⟩) 2 2 [s1, s2] rfl hP (by omega) (fun t ht => by
    simp only [List.mem_cons, List.not_mem_nil, or_false] at ht
    rcases ht with rfl | rfl
    · rw [← xsOf_length, HS.out.1]; simp
    · exact HS.out.2) hl).mono ?_
  rintro e w4 ⟨rfl, hk4⟩
  rw [HE.out, ← pubC]
  obtain ⟨c6, hc6⟩ : ∃ c6, c6 = arrV .u8 (pubC lf (xsOf s2)) := ⟨_, rfl⟩
  rw [← hc6]
  have hs16 : c6.size = 16 := by rw [hc6, arr_size]; rw [pubC]; exact (ofS_dig _ _).1
  have HS6 := Lib.hid (And.intro hs16 (And.intro (show (c6.all fun x => x.oneCell') = true by rw [hc6]; exact arr_one _ _) hc6))
  have hk5 := grown_trans (World.grownBy_alloc w3 (.cells ([s1, s2].map Value.string).toArray 9) none) hk4
  have HK4 := Lib.hid (grown_trans HG0.out (grown_trans HK3.out hk5))
  have HZ4 := Lib.hid ((HZ0.out.grown HK3.out (by simp)).grown hk5 (by simp))
  clear hs16 hc6 hP hl hk4 hk5
  go_wp2_with (refine wpList_store_row rfl 23 _ _ rfl w.heap.size c6 rfl rfl 23 _ HZ4.out (by rw [HS6.out.1]; exact info16) (by rw [HD.out, HS6.out.1]) HS6.out.2.1 ?_)
  refine bodyPost_ret (results_cell rfl _ _ _ ⟨w.heap.size, 0, none⟩ (.agg c6) rfl (run_loadVar_row _ w.heap.size 23 23 c6 (0, 0) _ (HZ4.out.row c6) Tryz.underlying23 rfl (by rw [HS6.out.1]; exact info16))) rfl ?_
  exact ⟨by rw [HS6.out.2.2], grown_row HK4.out (.inl (Nat.le_refl _)) c6⟩
end Go.Proofs.YthkjlgjbjjjohaaGreatDoor
/-
  quorateref03.Recover.
-/
namespace Go.Proofs.YthkjlgjbjjjohaaGreatDoor
open Go.RowKit

/-- What chain j ends with. -/
def endC (ps : List (List Int)) (d : List Int) (lf : Int) (j : Nat) : List Int := runC (ps.getD j zeroC) lf (j : Int) ((digitsS d).getD j 0) (3 - (digitsS d).getD j 0).toNat
theorem endC_dig {ps : List (List Int)} (h : ∀ p ∈ ps, isDig p) (d : List Int) (lf : Int) (j : Nat) : isDig (endC ps d lf j) := by
  rw [endC]; exact runC_dig _ _ _ _ (getD_dig h j) _
def recC (lf : Int) (ps : List (List Int)) (d : List Int) : List Int := pubC lf (rowC (endC ps d lf) 68)
theorem rrun_v (w : World) (x : List Int) (hx : isDig x) (lf i lo : Int) (h0 : 0 ≤ lo) (n : Nat) (hn : n = (3 - lo).toNat) (ds rs : Array Value) (hd : ds = arrV .u8 x) (hrs : rs = arrV .u8 (runC x lf i lo n)) :
    Calls Tryz.prog 100 #[.agg ds, .int .i64 lf, .int .i64 i, .int .i64 lo, .int .i64 3] w fun e w' => e = .returned (.agg rs) ∧ w.grownBy w' none := by
  subst hd
  exact rrun_is w x hx lf i lo 3 h0 (by omega) n hn rs hrs
set_option maxRecDepth 100000 in
set_option maxHeartbeats 2000000 in
theorem rrecover_is (w : World) (lf : Int) (b off c : Nat) (ps : List (List Int)) (hl : ps.length = 68) (hps : ∀ p ∈ ps, isDig p) (hD : DigsAt w b off ps) (d : List Int) (hd : isDig d) (rs : Array Value) (hrs : rs = arrV .u8 (recC lf ps d)) :
    Calls Tryz.prog 62 #[.int .i64 lf, .slice (some ⟨b, off, none⟩) 68 c, .agg (arrV .u8 d)] w fun e w' => e = .returned (.agg rs) ∧ w.grownBy w' none := by
  obtain ⟨Z16, hZ16⟩ : ∃ Z, Z = arrV .u8 (List.replicate 16 0) := ⟨_, rfl⟩
  have hz16 : ∀ w, Sem.run Tryz.prog (zeroValue 23) w = .ok (.agg Z16) w := fun w => by rw [hZ16]; exact z16run w
  have hZs : Z16.size = 16 := by rw [hZ16]; rfl
  obtain ⟨ds, hds⟩ : ∃ ds, ds = arrV .u8 d := ⟨_, rfl⟩
  rw [← hds]
  have HD := Lib.hid (show ds = arrV .u8 d ∧ ds.size = 16 ∧ Z16.size = 16 from ⟨hds, by rw [hds, arr_size, hd.1], hZs⟩)
  have hrd : isDig (recC lf ps d) := by rw [recC, pubC]; exact ofS_dig _ _
  have HN := Lib.hid (And.intro hd (And.intro hl (And.intro hps (And.intro hD (And.intro hrs hrd)))))
  clear hZ16 hZs hds hd hl hps hD hrs hrd
  go_enter Tryz.func62, Tryz.ntmps62
  obtain ⟨w0, hw0⟩ : ∃ w0, w0 = (w.alloc (.cells ds 23)).alloc (.cells Z16 23) := ⟨_, rfl⟩
  have HB0 := Lib.hid (show Blk ((w.alloc (.cells ds 23)).alloc (.cells Z16 23)) w.heap.size 23 ds from (Blk.new w _ ds).alloc _)
  have HZ0 := Lib.hid (show Blk w0 (w.heap.size + 1) 23 Z16 by rw [hw0]; have := Blk.new (w.alloc (.cells ds 23)) 23 Z16; rwa [World.size_alloc] at this)
  have HG0 := Lib.hid (show w.grownBy w0 none by rw [hw0]; exact grown_trans (World.grownBy_alloc _ _ none) (World.grownBy_alloc _ _ none))
  have HW0 := Lib.hid hw0
  clear hw0
  go_wp2_with (refine wpList_load_row rfl 23 _ rfl w.heap.size rfl 23 ds (0, 0) _ HB0.out Tryz.underlying23 rfl (by rw [HD.out.2.1]; exact info16) ?_)
  rw [← HW0.out, HD.out.1]
  refine (rdigits_is w0 d HN.out.1.1 HN.out.1.2).mono ?_
  rintro e w1 ⟨g, cap, rfl, hcell, hgs, hk1⟩
  rw [← HD.out.1]
  have HC := Lib.hid hcell
  have HZ1 := Lib.hid (HZ0.out.grown hk1 (by simp))
  have HG1 := Lib.hid (grown_trans HG0.out hk1)
  clear hcell hgs hk1
  go_wp2_with fail
  go_loopw [13, 7] (fun i s wr => ∃ k : Nat, k ≤ 68 ∧ i = .int .i64 (k : Int) ∧ (∃ S : ByteArray, s = .string S ∧ xsOf S = rowC (endC ps d lf) k) ∧ w1.grownBy wr none) (fun i _ _ => 68 - (intOf i).toNat)
  case atStart => exact ⟨0, by omega, rfl, ⟨_, rfl, rfl⟩, World.grownBy.refl w1 none⟩
  case round =>
    obtain ⟨k, hk, hi, ⟨S, hs, hS⟩, hK⟩ := hrel
    obtain ⟨I, hI⟩ : ∃ I : Int, I = (k : Int) := ⟨_, rfl⟩
    rw [← hI] at hi
    subst hi hs
    have hSz : S.size = 16 * k := by rw [← xsOf_length, hS, rowC_length _ (fun j => (endC_dig HN.out.2.2.1 d lf j).1)]
    by_cases hlt : k < 68
    · have d1 : decide (I < 68) = true := by simp; omega
      have hI68 : 0 ≤ I ∧ I < 68 := by omega
      have hkI : I.toNat = k := by omega
      obtain ⟨x, hx⟩ : ∃ x, x = (digitsS d).getD k 0 := ⟨_, rfl⟩
      have hxr : 0 ≤ x ∧ x ≤ 3 := by
        have hl : k < (digitsS d).length := by rw [digitsS_length, HN.out.1.1]; exact hlt
        rw [hx, List.getD, List.getElem?_eq_getElem hl]
        exact digitsS_range d _ (List.getElem_mem hl)
      have kc : wr.cell? ⟨g, I.toNat, none⟩ = some (.int .i64 x) := by rw [hkI, hx]; exact hK.cell (HC.out k hlt) (by simp)
      obtain ⟨p, hp⟩ : ∃ p, p = ps.getD k zeroC := ⟨_, rfl⟩
      have hpd : isDig p := by rw [hp]; exact getD_dig HN.out.2.2.1 k
      obtain ⟨cs, hcs⟩ : ∃ cs, cs = arrV .u8 p := ⟨_, rfl⟩
      obtain ⟨cl, hcl⟩ : ∃ cl, cl = cs.toList := ⟨_, rfl⟩
      have hcl16 : cl.length = 16 := by rw [hcl, Array.length_toList, hcs, arr_size]; exact hpd.1
      have hr1 : wr.rangeAt b (off + I.toNat * 16) cl := by
        rw [hkI, hcl, hcs, hp]
        exact range_grown (HN.out.2.2.2.1 k (by rw [HN.out.2.1]; exact hlt)) (grown_trans HG1.out hK)
      obtain ⟨es, hes⟩ : ∃ es, es = arrV .u8 (endC ps d lf k) := ⟨_, rfl⟩
      have hed := endC_dig HN.out.2.2.1 d lf k
      obtain ⟨T, hT⟩ := dig_str _ hed
      have hTs : T.size = 16 := by rw [← xsOf_length, hT, hed.1]
      have hcat : ∀ w, (Op.stringOp .add S T).run Tryz.prog w = .ok (.string (S ++ T)) w := fun w => cat_run w S T (by omega) (by omega)
      have hnext : xsOf (S ++ T) = rowC (endC ps d lf) (k + 1) := by rw [xsOf_append, hS, hT, rowC]
      obtain ⟨Y, hY⟩ : ∃ Y, Y = S ++ T := ⟨_, rfl⟩
      rw [← hY] at hcat hnext
      have HR := Lib.hid (And.intro hr1 (show (Tryz.prog.info? 23).map (·.size) = some cl.length by rw [hcl16]; exact info16))
      have HST := Lib.hid (rrun_v wr p hpd lf I x hxr.1 _ rfl cl.toArray es (by rw [hcl, Array.toArray_toList, hcs]) (by rw [hes, endC, ← hx, ← hp, hI]))
      have HTX := Lib.hid (fun w => text_v w _ hed.1 T hT es hes)
      have HK := Lib.hid (And.intro hI (And.intro hlt (And.intro hnext hK)))
      clear hI hlt hkI hx hp hpd hcs hcl hcl16 hr1 hes hed hT hTs hnext hY hK hk hS hSz
      go_wp2_with (refine wpList_load_mid rfl 23 _ rfl b (off + I.toNat * 16) rfl cl _ HR.out.1 Tryz.underlying23 rfl HR.out.2 ?_)
      refine HST.out.mono ?_
      rintro e w2 ⟨rfl, hk2⟩
      have HK2 := Lib.hid (grown_trans HK.out.2.2.2 hk2)
      clear hk2
      go_wp2_with fail
      refine (HTX.out w2).mono ?_
      rintro e w3 ⟨rfl, hk3⟩
      have HK3 := Lib.hid (grown_trans HK2.out hk3)
      clear hk3
      go_wp2_with fail
      go_roundw
      case rel =>
        obtain ⟨hI, hlt, hnext, _⟩ := HK.out
        exact ⟨k + 1, by omega, by rw [hI]; rfl, ⟨Y, rfl, hnext⟩, HK3.out⟩
      case measure => obtain ⟨hI, hlt, _⟩ := HK.out; simp only [intOf]; omega
    · obtain rfl : k = 68 := by omega
      have d1 : decide (I < 68) = false := by simp; omega
      have hrr : pubC lf (xsOf S) = recC lf ps d := by rw [hS, recC]
      have HS := Lib.hid (And.intro hrr hSz)
      have HK := Lib.hid hK
      clear hS hSz hrr hK hI hlt hk
      go_wp2_with fail
      refine (rended_is wr lf S (by have := HS.out.2; omega)).mono ?_
      rintro e w4 ⟨rfl, hk4⟩
      rw [HS.out.1, ← HN.out.2.2.2.2.1]
      have HS6 := Lib.hid (show rs.size = 16 ∧ (rs.all fun x => x.oneCell') = true from ⟨by rw [HN.out.2.2.2.2.1, arr_size]; exact HN.out.2.2.2.2.2.1, by rw [HN.out.2.2.2.2.1]; exact arr_one _ _⟩)
      have HZ4 := Lib.hid ((HZ1.out.grown HK.out (by simp)).grown hk4 (by simp))
      have HG4 := Lib.hid (grown_trans HG1.out (grown_trans HK.out hk4))
      clear hk4
      go_wp2_with (refine wpList_store_row rfl 23 _ _ rfl (w.heap.size + 1) rs rfl rfl 23 _ HZ4.out (by rw [HS6.out.1]; exact info16) (by rw [HD.out.2.2, HS6.out.1]) HS6.out.2 ?_)
      refine bodyPost_ret (results_cell rfl _ _ _ ⟨w.heap.size + 1, 0, none⟩ (.agg rs) rfl (run_loadVar_row _ (w.heap.size + 1) 23 23 rs (0, 0) _ (HZ4.out.row rs) Tryz.underlying23 rfl (by rw [HS6.out.1]; exact info16))) rfl ?_
      exact ⟨rfl, grown_row HG4.out (.inl (Nat.le_succ _)) rs⟩
end Go.Proofs.YthkjlgjbjjjohaaGreatDoor
/-
  chains.Recover of 68 chains, by a leaf.
-/
namespace Go.Proofs.YthkjlgjbjjjohaaGreatDoor
open Go.RowKit

theorem isleaf_yes (w : World) (lf : Int) (h : 0 ≤ lf ∧ lf < 32) : Calls Tryz.prog 66 #[.int .i64 lf] w fun e w' => e = .returned (.bool true) ∧ w' = w := by
  have d1 : decide (0 ≤ lf) = true := by simp; omega
  have d2 : decide (lf < 32) = true := by simp; omega
  obtain ⟨h1, h2⟩ := h
  go_enter Tryz.func66, Tryz.ntmps66
  go_wp2
  go_ret
  simp
theorem isleaf_no (w : World) (lf : Int) (h : lf < 0 ∨ 32 ≤ lf) : Calls Tryz.prog 66 #[.int .i64 lf] w fun e w' => e = .returned (.bool false) ∧ w' = w := by
  by_cases h0 : lf < 0
  · have d1 : decide (0 ≤ lf) = false := by simp; omega
    have h1 : ¬ 0 ≤ lf := by omega
    go_enter Tryz.func66, Tryz.ntmps66
    go_wp2
    go_ret
    simp
  · have d1 : decide (0 ≤ lf) = true := by simp; omega
    have d2 : decide (lf < 32) = false := by simp; omega
    have h1 : 0 ≤ lf := by omega
    have h2 : ¬ lf < 32 := by omega
    go_enter Tryz.func66, Tryz.ntmps66
    go_wp2
    go_ret
    simp

end Go.Proofs.YthkjlgjbjjjohaaGreatDoor
