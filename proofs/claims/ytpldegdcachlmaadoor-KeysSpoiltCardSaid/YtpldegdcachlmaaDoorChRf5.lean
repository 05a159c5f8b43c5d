/-
  Several texts in one: ChV, ChW, ChZ.
-/
import Derived.Test.YtpldegdcachlmaaDoorChSig5
import Derived.Test.YtpldegdcachlmaaDoorDiA
import Derived.Deep.MidRow
import Derived.Deep.RegionHeld3
import Derived.Test.YtpldegdcachlmaaDoorChRec5
import Derived.Test.YtpldegdcachlmaaDoorErrA
/-
  quorateref03.Public.
-/

namespace Go.Proofs.YtpldegdcachlmaaDoor
open Go.RowKit

theorem rsecret_v (w : World) (seed : List Int) (hs : isDig seed) (lf i : Int) (ds rs : Array Value) (h1 : ds = arrV .u8 seed) (h2 : rs = arrV .u8 (secC seed lf i)) :
    Calls Tryd.prog 43 #[.agg ds, .int .i64 lf, .int .i64 i] w fun e w' => e = .returned (.agg rs) ∧ w.grownBy w' none := by
  subst h1 h2
  exact rsecret_is w seed hs lf i
theorem rrun_to (w : World) (x : List Int) (hx : isDig x) (lf i to : Int) (h3 : to ≤ 3) (n : Nat) (hn : n = (to - 0).toNat) (ds rs : Array Value) (hd : ds = arrV .u8 x) (hrs : rs = arrV .u8 (runC x lf i 0 n)) :
    Calls Tryd.prog 42 #[.agg ds, .int .i64 lf, .int .i64 i, .int .i64 0, .int .i64 to] w fun e w' => e = .returned (.agg rs) ∧ w.grownBy w' none := by
  subst hd
  exact rrun_is w x hx lf i 0 to (by omega) h3 n hn rs hrs

set_option maxRecDepth 100000 in
set_option maxHeartbeats 2000000 in
theorem rpublic_is (w : World) (seed : List Int) (hs : isDig seed) (lf : Int) (rs : Array Value) (hrs : rs = arrV .u8 (pubS seed lf)) :
    Calls Tryd.prog 23 #[.agg (arrV .u8 seed), .int .i64 lf] w fun e w' => e = .returned (.agg rs) ∧ w.grownBy w' none := by
  obtain ⟨Z16, hZ16⟩ : ∃ Z, Z = arrV .u8 (List.replicate 16 0) := ⟨_, rfl⟩
  have hz16 : ∀ w, Sem.run Tryd.prog (zeroValue 23) w = .ok (.agg Z16) w := fun w => by rw [hZ16]; exact z16run w
  have hZs : Z16.size = 16 := by rw [hZ16]; rfl
  obtain ⟨ds, hds⟩ : ∃ ds, ds = arrV .u8 seed := ⟨_, rfl⟩
  rw [← hds]
  have HD := Lib.hid (show ds = arrV .u8 seed ∧ ds.size = 16 ∧ Z16.size = 16 from ⟨hds, by rw [hds, arr_size, hs.1], hZs⟩)
  have HN := Lib.hid (And.intro hs (And.intro hrs (pubS_dig seed lf)))
  clear hZ16 hZs hds hs hrs
  go_enter Tryd.func23, Tryd.ntmps23
  go_wp2_with fail
  obtain ⟨w1, hw1⟩ : ∃ w1, w1 = (w.alloc (.cells ds 23)).alloc (.cells Z16 23) := ⟨_, rfl⟩
  rw [← hw1]
  have HB1 := Lib.hid (show Blk w1 w.heap.size 23 ds by rw [hw1]; exact (Blk.new w _ ds).alloc _)
  have HZ1 := Lib.hid (show Blk w1 (w.heap.size + 1) 23 Z16 by rw [hw1]; have := Blk.new (w.alloc (.cells ds 23)) 23 Z16; rwa [World.size_alloc] at this)
  have HG1 := Lib.hid (show w.grownBy w1 none by rw [hw1]; exact grown_trans (World.grownBy_alloc _ _ none) (World.grownBy_alloc _ _ none))
  clear hw1
  go_loopw [6, 5] (fun i s wr => ∃ k : Nat, k ≤ 68 ∧ i = .int .i64 (k : Int) ∧ (∃ S : ByteArray, s = .string S ∧ xsOf S = rowC (endS seed lf) k) ∧ w1.grownBy wr none) (fun i _ _ => 68 - (intOf i).toNat)
  case atStart => exact ⟨0, by omega, rfl, ⟨_, rfl, rfl⟩, World.grownBy.refl w1 none⟩
  case round =>
    obtain ⟨k, hk, hi, ⟨S, hs, hS⟩, hK⟩ := hrel
    obtain ⟨I, hI⟩ : ∃ I : Int, I = (k : Int) := ⟨_, rfl⟩
    rw [← hI] at hi
    subst hi hs
    have hSz : S.size = 16 * k := by rw [← xsOf_length, hS, rowC_length _ (fun j => (endS_dig seed lf j).1)]
    by_cases hlt : k < 68
    · have d1 : decide (I < 68) = true := by simp; omega
      have hI68 : 0 ≤ I ∧ I < 68 := by omega
      obtain ⟨cs, hcs⟩ : ∃ cs, cs = arrV .u8 (secC seed lf I) := ⟨_, rfl⟩
      obtain ⟨es, hes⟩ : ∃ es, es = arrV .u8 (endS seed lf k) := ⟨_, rfl⟩
      have hed := endS_dig seed lf k
      obtain ⟨T, hT⟩ := dig_str _ hed
      have hTs : T.size = 16 := by rw [← xsOf_length, hT, hed.1]
      have hcat : ∀ w, (Op.stringOp .add S T).run Tryd.prog w = .ok (.string (S ++ T)) w := fun w => cat_run w S T (by omega) (by omega)
      have hnext : xsOf (S ++ T) = rowC (endS seed lf) (k + 1) := by rw [xsOf_append, hS, hT, rowC]
      obtain ⟨Y, hY⟩ : ∃ Y, Y = S ++ T := ⟨_, rfl⟩
      rw [← hY] at hcat hnext
      have HB := Lib.hid (HB1.out.grown hK (by simp))
      have HSE := Lib.hid (rsecret_v wr seed HN.out.1 lf I ds cs HD.out.1 hcs)
      have HST := Lib.hid (fun V => rrun_to V _ (secC_dig seed lf I) lf I 3 (by omega) 3 rfl cs es hcs (by rw [hes, endS, hI]))
      have HTX := Lib.hid (fun w => text_v w _ hed.1 T hT es hes)
      have HK := Lib.hid (And.intro hI (And.intro hlt (And.intro hnext hK)))
      clear hI hlt hcs hes hed hT hTs hnext hY hK hk hS hSz
      go_wp2_with (refine wpList_load_row rfl 23 _ rfl w.heap.size rfl 23 ds (0, 0) _ HB.out Tryd.underlying23 rfl (by rw [HD.out.2.1]; exact info16) ?_)
      refine HSE.out.mono ?_
      rintro e w2 ⟨rfl, hk2⟩
      have HK2 := Lib.hid (grown_trans HK.out.2.2.2 hk2)
      clear hk2
      go_wp2_with fail
      refine (HST.out w2).mono ?_
      rintro e w3 ⟨rfl, hk3⟩
      have HK3 := Lib.hid (grown_trans HK2.out hk3)
      clear hk3
      go_wp2_with fail
      refine (HTX.out w3).mono ?_
      rintro e w4 ⟨rfl, hk4⟩
      have HK4 := Lib.hid (grown_trans HK3.out hk4)
      clear hk4
      go_wp2_with fail
      go_roundw
      case rel =>
        obtain ⟨hI, hlt, hnext, _⟩ := HK.out
        exact ⟨k + 1, by omega, by rw [hI]; rfl, ⟨Y, rfl, hnext⟩, HK4.out⟩
      case measure => obtain ⟨hI, hlt, _⟩ := HK.out; simp only [intOf]; omega
    · obtain rfl : k = 68 := by omega
      have d1 : decide (I < 68) = false := by simp; omega
      have hrr : pubC lf (xsOf S) = pubS seed lf := by rw [hS, pubS]
      have HS := Lib.hid (And.intro hrr hSz)
      have HK := Lib.hid hK
      clear hS hSz hrr hK hI hlt hk
      go_wp2_with fail
      refine (rended_is wr lf S (by have := HS.out.2; omega)).mono ?_
      rintro e w4 ⟨rfl, hk4⟩
      rw [HS.out.1, ← HN.out.2.1]
      have HS6 := Lib.hid (show rs.size = 16 ∧ (rs.all fun x => x.oneCell') = true from ⟨by rw [HN.out.2.1, arr_size]; exact HN.out.2.2.1, by rw [HN.out.2.1]; exact arr_one _ _⟩)
      have HZ4 := Lib.hid ((HZ1.out.grown HK.out (by simp)).grown hk4 (by simp))
      have HG4 := Lib.hid (grown_trans HG1.out (grown_trans HK.out hk4))
      clear hk4
      go_wp2_with (refine wpList_store_row rfl 23 _ _ rfl (w.heap.size + 1) rs rfl rfl 23 _ HZ4.out (by rw [HS6.out.1]; exact info16) (by rw [HD.out.2.2, HS6.out.1]) HS6.out.2 ?_)
      refine bodyPost_ret (results_cell rfl _ _ _ ⟨w.heap.size + 1, 0, none⟩ (.agg rs) rfl (run_loadVar_row _ (w.heap.size + 1) 23 23 rs (0, 0) _ (HZ4.out.row rs) Tryd.underlying23 rfl (by rw [HS6.out.1]; exact info16))) rfl ?_
      exact ⟨rfl, grown_row HG4.out (.inl (Nat.le_succ _)) rs⟩
end Go.Proofs.YtpldegdcachlmaaDoor
/-
  quorateref03.Sign and quorateref03.Same.
-/
namespace Go.Proofs.YtpldegdcachlmaaDoor
open Go.RowKit

theorem rsig_of (w : World) (seed : List Int) (lf i : Int) (d : List Int) (k : Nat) (hi : i = (k : Int)) (x : Int) (hx : x = (digitsS d).getD k 0) (cs es : Array Value) (h1 : cs = arrV .u8 (secC seed lf k)) (h2 : es = arrV .u8 (sigS seed lf d k)) :
    Calls Tryd.prog 42 #[.agg cs, .int .i64 lf, .int .i64 i, .int .i64 0, .int .i64 x] w fun e w' => e = .returned (.agg es) ∧ w.grownBy w' none := by
  subst hi
  have := dig_range d k
  exact rrun_to w (secC seed lf k) (secC_dig _ _ _) lf k x (by omega) (digN d k) (by rw [digN, ← hx]; omega) cs es h1 (by rw [h2, sigS])
theorem rdigits_v (w : World) (d : List Int) (hd : isDig d) (dd : Array Value) (h : dd = arrV .u8 d) : Calls Tryd.prog 50 #[.agg dd] w fun e w' =>
    ∃ g cap, e = .returned (.slice (some ⟨g, 0, none⟩) 68 cap) ∧ (∀ j, j < 68 → w'.cell? ⟨g, j, none⟩ = some (.int .i64 ((digitsS d).getD j 0))) ∧ w.heap.size ≤ g ∧ w.grownBy w' none := by
  subst h; exact rdigits_is w d hd.1 hd.2

set_option maxRecDepth 100000 in
set_option maxHeartbeats 4000000 in
theorem rsign_is (w : World) (seed : List Int) (hs : isDig seed) (lf : Int) (d : List Int) (hd : isDig d) :
    Calls Tryd.prog 29 #[.agg (arrV .u8 seed), .int .i64 lf, .agg (arrV .u8 d)] w fun e w' => ∃ b cap, e = .returned (.slice (some ⟨b, 0, none⟩) 68 cap) ∧ DigsAt w' b 0 (sigsS seed lf d) ∧ w.grownBy w' none := by
  obtain ⟨ds, hds⟩ : ∃ ds, ds = arrV .u8 seed := ⟨_, rfl⟩
  obtain ⟨dd, hdd⟩ : ∃ dd, dd = arrV .u8 d := ⟨_, rfl⟩
  rw [← hds, ← hdd]
  have hex : ∃ (i0 : TypeInfo) (z0 : Value), Tryd.prog.info? 23 = some i0 ∧ i0.zero = some z0 ∧ i0.size = 16 ∧ i0.bytes = 16 ∧ z0.cells.size = 16 := by
    cases hq : Tryd.prog.info? 23 with
    | none => exact absurd info16 (by rw [hq]; simp)
    | some i0 =>
      have h1 : (Tryd.prog.info? 23).map (·.bytes) = some 16 := by kernel_rfl
      have h2 : (Tryd.prog.info? 23).bind (·.zero) = some (.agg (arrV .u8 (List.replicate 16 0))) := by kernel_rfl
      have h3 := info16
      rw [hq] at h1 h2 h3
      exact ⟨i0, _, rfl, h2, by simpa using h3, by simpa using h1, rfl⟩
  obtain ⟨i0, z0, hi0, hz0, hz1, hz2, hz3⟩ := hex
  have HI0 := Lib.hid (And.intro hi0 (And.intro hz0 (And.intro hz1 (And.intro hz2 hz3))))
  have HBS := Lib.hid (show ∀ (es : Array Value), es.size = 16 → ∀ V : World, Sem.run Tryd.prog (Instr.buildSlice 27 1 #[(0, .agg es)]) V = .ok (.slice (some ⟨V.heap.size, 0, none⟩) 1 1) (V.alloc (.cells es 23)) from fun es he V =>
    run_slice_one V 27 23 es Tryd.underlying27 (by rw [he]; exact info16) (by rw [hi0, he]; simp [hz0, hz3]) (by omega) (by omega))
  have HD := Lib.hid (show ds = arrV .u8 seed ∧ ds.size = 16 ∧ dd = arrV .u8 d ∧ dd.size = 16 from ⟨hds, by rw [hds, arr_size, hs.1], hdd, by rw [hdd, arr_size, hd.1]⟩)
  have HN := Lib.hid (And.intro hs hd)
  have hown := World.ownsRow_lit (base := w.heap.size) (e := 23) (size := 16) ((w.alloc (.cells ds 23)).alloc (.cells dd 23)) #[] 0 (by rw [World.size_alloc, World.size_alloc]; omega) (by decide) rfl
  have HB0 := Lib.hid ((((Blk.new w 23 ds).alloc (.cells dd 23)).alloc (.cells #[] 23)))
  have hb1 := (Blk.new (w.alloc (.cells ds 23)) 23 dd).alloc (.cells #[] 23)
  have HG0 := Lib.hid (grown_trans (grown_trans (World.grownBy_alloc w (.cells ds 23) none) (World.grownBy_alloc _ (.cells dd 23) none)) (World.grownBy_alloc _ (.cells #[] 23) none))
  simp only [World.size_alloc] at hown hb1
  have HB1 := Lib.hid hb1
  have HOWN := Lib.hid hown
  clear hds hs hdd hd hi0 hz0 hz1 hz2 hz3 hown hb1
  go_enter Tryd.func29, Tryd.ntmps29
  go_wp2_with (refine wpList_load_row rfl 23 _ rfl (w.heap.size + 1) rfl 23 dd (0, 0) _ HB1.out Tryd.underlying23 rfl (by rw [HD.out.2.2.2]; exact info16) ?_)
  refine (rdigits_v _ d HN.out.2 dd HD.out.2.2.1).mono ?_
  rintro e w1 ⟨g, cap, rfl, hcell, hgs, hk1⟩
  simp only [World.size_alloc] at hgs
  have HC := Lib.hid (And.intro hcell hgs)
  have HB2 := Lib.hid (HB0.out.grown hk1 (by simp))
  have HG1 := Lib.hid (grown_trans HG0.out hk1)
  have HO1 := Lib.hid (own_keep HOWN.out hk1)
  clear hcell hgs hk1
  go_wp2_with fail
  go_loopw [14, 7] (fun i v wr => ∃ k : Nat, k ≤ 68 ∧ i = .int .i64 (k : Int) ∧ wr.ownsRow w.heap.size 23 16 v k (rowV (fun j => arrV .u8 (sigS seed lf d j)) k) ∧ w1.grownBy wr (some (w.heap.size + 1 + 1)) ∧ (v.ownBlock = some (w.heap.size + 1 + 1) ∨ ∀ g', v.ownBlock = some g' → w1.heap.size ≤ g')) (fun i _ _ => 68 - (intOf i).toNat)
  case atStart => exact ⟨0, by omega, rfl, HO1.out, World.grownBy.refl w1 _, .inl rfl⟩
  case round =>
    obtain ⟨k, hk, hi, hown, hK, hat⟩ := hrel
    obtain ⟨I, hI⟩ : ∃ I : Int, I = (k : Int) := ⟨_, rfl⟩
    rw [← hI] at hi
    subst hi
    by_cases hlt : k < 68
    · have d1 : decide (I < 68) = true := by simp; omega
      have hI68 : 0 ≤ I ∧ I < 68 := by omega
      have hkI : I.toNat = k := by omega
      obtain ⟨x, hx⟩ : ∃ x, x = (digitsS d).getD k 0 := ⟨_, rfl⟩
      have kc : wr.cell? ⟨g, I.toNat, none⟩ = some (.int .i64 x) := by rw [hkI, hx]; exact hK.cell (HC.out.1 k hlt) (by intro e; have := Option.some.inj e; dsimp only at this; have := HC.out.2; omega)
      obtain ⟨cs, hcs⟩ : ∃ cs, cs = arrV .u8 (secC seed lf I) := ⟨_, rfl⟩
      obtain ⟨es, hes⟩ : ∃ es, es = arrV .u8 (sigS seed lf d k) := ⟨_, rfl⟩
      have hed := sigS_dig seed lf d k
      have HE := Lib.hid (show es.size = 16 ∧ (es.all fun v => v.oneCell') = true ∧ es = arrV .u8 (sigS seed lf d k) from ⟨by rw [hes, arr_size]; exact hed.1, by rw [hes]; exact arr_one _ _, hes⟩)
      have HB := Lib.hid (HB2.out.grown hK (by intro e; have := Option.some.inj e; omega))
      have HSE := Lib.hid (rsecret_v wr seed HN.out.1 lf I ds cs HD.out.1 hcs)
      have HST := Lib.hid (fun V => rsig_of V seed lf I d k hI x hx cs es (by rw [hcs, hI]) hes)
      have HK := Lib.hid (And.intro hI (And.intro hlt (And.intro hK hat)))
      have HO := Lib.hid hown
      clear hI hlt hkI hx hcs hes hed hK hk hown hat
      go_wp2_with (refine wpList_load_row rfl 23 _ rfl w.heap.size rfl 23 ds (0, 0) _ HB.out Tryd.underlying23 rfl (by rw [HD.out.2.1]; exact info16) ?_)
      refine HSE.out.mono ?_
      rintro e w2 ⟨rfl, hk2⟩
      have HK2 := Lib.hid hk2
      clear hk2
      go_wp2_with fail
      refine (HST.out w2).mono ?_
      rintro e w3 ⟨rfl, hk3⟩
      have HK3 := Lib.hid (grown_trans HK2.out hk3)
      have HO3 := Lib.hid (own_keep HO.out (grown_trans HK2.out hk3))
      clear hk3
      go_wp2_with (first
        | (refine wpList_bslice_run rfl 27 1 0 _ rfl (.agg es) _ rfl (HBS.out es HE.out.1 _) ?_)
        | (at_builtin; refine wpList_push_row rfl _ _ 27 rfl w.heap.size 23 23 i0 z0 16 16 Tryd.underlying27 HI0.out.1 HI0.out.2.1 HI0.out.2.2.1 HI0.out.2.2.2.1 HI0.out.2.2.2.2 (by decide) _ _ _ rfl HO3.out es HE.out.2.1 HE.out.1 rfl (by have := HK.out.2.1; omega) (by decide) (by have := HG1.out.size; have := HK.out.2.2.1.size; have := HK3.out.size; omega) ?_; intro v' w4 hown4 hgrow hat4; have HO4 := Lib.hid hown4; have HG4 := Lib.hid (show w3.grownBy w4 u7.ownBlock ∧ (v'.ownBlock = u7.ownBlock ∨ v'.ownBlock = some (w3.heap.size + 1)) from And.intro hgrow hat4); clear hown4 hgrow hat4))
      go_roundw
      case rel =>
        obtain ⟨hI, hlt, hK, hat⟩ := HK.out
        have hs3 := (grown_trans hK (grown_weak HK3.out _)).size
        refine ⟨k + 1, by omega, by rw [hI]; rfl, ?_, ?_, ?_⟩
        · rw [rowV, ← HE.out.2.2]
          exact HO4.out
        · have h3 := grown_trans hK (grown_weak HK3.out _)
          rcases hat with e | e
          · have := HG4.out.1; rw [e] at this; exact grown_trans h3 this
          · have h4 := HG4.out.1
            cases hv : u7.ownBlock with
            | none => rw [hv] at h4; exact grown_trans h3 (grown_weak h4 _)
            | some q => rw [hv] at h4; exact grown_fresh h3 h4 (e q hv)
        · rcases HG4.out.2 with e | e
          · rw [e]; exact hat
          · right; intro q hq; have := Option.some.inj (e.symm.trans hq); omega
      case measure => obtain ⟨hI, hlt, _⟩ := HK.out; simp only [intOf]; omega
    · obtain rfl : k = 68 := by omega
      have d1 : decide (I < 68) = false := by simp; omega
      obtain ⟨b, cap2, rfl, _, _, _, hR⟩ := own_rows (fun j => arrV .u8 (sigS seed lf d j)) (fun j => by rw [arr_size]; exact (sigS_dig _ _ _ _).1) (by omega) hown
      have HRR := Lib.hid hR
      have HK := Lib.hid hK
      clear hown hR hK hI hlt hk hat
      go_wp2_with fail
      go_ret
      refine ⟨b, ⟨cap2, rfl⟩, fun j hj => ?_, grown_fresh HG1.out HK.out (by omega)⟩
      rw [sigsS_length] at hj
      rw [sigsS, upto_getD hj]
      exact HRR.out j hj

set_option maxRecDepth 100000 in
set_option maxHeartbeats 4000000 in
theorem same_is (w : World) (b1 o1 c1 b2 o2 c2 : Nat) (ps : List (List Int)) (hl : ps.length = 68) (hps : ∀ p ∈ ps, isDig p) (D1 : DigsAt w b1 o1 ps) (D2 : DigsAt w b2 o2 ps) :
    Calls Tryd.prog 27 #[.slice (some ⟨b1, o1, none⟩) 68 c1, .slice (some ⟨b2, o2, none⟩) 68 c2] w fun e w' => e = .returned (.bool true) ∧ w.grownBy w' none := by
  have HN := Lib.hid (And.intro hl (And.intro hps (And.intro D1 D2)))
  clear hl hps D1 D2
  go_enter Tryd.func27, Tryd.ntmps27
  go_wp2_with fail
  go_loopw [13] (fun i wr => ∃ k : Nat, k ≤ 68 ∧ i = .int .i64 (k : Int) ∧ w.grownBy wr none) (fun i _ => 68 - (intOf i).toNat)
  case atStart => exact ⟨0, by omega, rfl, World.grownBy.refl w none⟩
  case round =>
    obtain ⟨k, hk, hi, hK⟩ := hrel
    obtain ⟨I, hI⟩ : ∃ I : Int, I = (k : Int) := ⟨_, rfl⟩
    rw [← hI] at hi
    subst hi
    by_cases hlt : k < 68
    · have d1 : decide (I < 68) = true := by simp; omega
      have hI68 : 0 ≤ I ∧ I < 68 := by omega
      have hkI : I.toNat = k := by omega
      have hpd := getD_dig HN.out.2.1 k
      obtain ⟨p, hp⟩ : ∃ p, p = ps.getD k zeroC := ⟨_, rfl⟩
      rw [← hp] at hpd
      obtain ⟨cl, hcl⟩ : ∃ cl, cl = (arrV .u8 p).toList := ⟨_, rfl⟩
      have hcl16 : cl.length = 16 := by rw [hcl, Array.length_toList, arr_size]; exact hpd.1
      have hu := Tryd.underlying23
      have hi6 : (Tryd.prog.info? 23).map (·.size) = some cl.length := by rw [hcl16]; exact info16
      have hq := eqDG p hpd.1 cl.toArray (by rw [hcl, Array.toArray_toList])
      obtain ⟨es, hes⟩ : ∃ es, es = cl.toArray := ⟨_, rfl⟩
      rw [← hes] at hq
      have v1 : ∀ z : Gr wr, Sem.run Tryd.prog (Instr.loadAt 23 (.pointer (some ⟨b1, o1 + I.toNat * 16, none⟩))) z.1 = .ok (.agg es) z.1 := fun z => by
        rw [hes]
        refine run_loadAt_mid z.1 b1 _ 23 cl _ ?_ hu rfl hi6
        rw [hkI, hcl, hp]
        exact range_grown (HN.out.2.2.1 k (by rw [HN.out.1]; exact hlt)) (grown_trans hK z.2)
      have v2 : ∀ z : Gr wr, Sem.run Tryd.prog (Instr.loadAt 23 (.pointer (some ⟨b2, o2 + I.toNat * 16, none⟩))) z.1 = .ok (.agg es) z.1 := fun z => by
        rw [hes]
        refine run_loadAt_mid z.1 b2 _ 23 cl _ ?_ hu rfl hi6
        rw [hkI, hcl, hp]
        exact range_grown (HN.out.2.2.2 k (by rw [HN.out.1]; exact hlt)) (grown_trans hK z.2)
      have V1 := Lib.hid v1
      have V2 := Lib.hid v2
      have HK := Lib.hid (And.intro hI (And.intro hlt hK))
      clear hI hlt hkI hp hpd hcl hcl16 hu hi6 hes hK hk v1 v2
      go_wp2_with fail
      refine wp_region_grown (by kernel_rfl) (by kernel_rfl) ?_
      repeat (first
        | (refine wpQuiet_load_row 23 _ ⟨b1, o1 + I.toNat * 16, none⟩ (.agg es) (by rfl) rfl rfl (by rintro _ ⟨z, rfl⟩; exact V1.out z) ?_; simp only [Act.put, List.setIfInBounds_toArray, List.set_cons_zero, List.set_cons_succ])
        | (refine wpQuiet_load_row 23 _ ⟨b2, o2 + I.toNat * 16, none⟩ (.agg es) (by rfl) rfl rfl (by rintro _ ⟨z, rfl⟩; exact V2.out z) ?_; simp only [Act.put, List.setIfInBounds_toArray, List.set_cons_zero, List.set_cons_succ])
        | go_big_quiet_step (fail))
      refine wpQuiet_nil ?_
      rintro w7 ⟨⟨_, k7⟩, rfl⟩
      have HK7 := Lib.hid k7
      clear k7
      go_wp2_with fail
      go_roundw
      case rel =>
        obtain ⟨hI, hlt, hK⟩ := HK.out
        exact ⟨k + 1, by omega, by rw [hI]; rfl, grown_trans hK HK7.out⟩
      case measure => obtain ⟨hI, hlt, _⟩ := HK.out; simp only [intOf]; omega
    · obtain rfl : k = 68 := by omega
      have d1 : decide (I < 68) = false := by simp; omega
      have HK := Lib.hid hK
      clear hK hI hlt hk
      go_wp2_with fail
      go_ret
      exact ⟨rfl, HK.out⟩
end Go.Proofs.YtpldegdcachlmaaDoor
/-
  ChainsSigns, walked.
-/
namespace Go.Proofs.YtpldegdcachlmaaDoor
open Go.RowKit

theorem pub_v (w : World) (hR : Rounds w) (seed : List Int) (hs : isDig seed) (lf : Int) (hlf : 0 ≤ lf ∧ lf < 32) (ds rs : Array Value) (h : ds = arrV .u8 seed) (hrs : rs = arrV .u8 (pubS seed lf)) :
    Calls Tryd.prog 21 #[.agg ds, .int .i64 lf] w fun e w' => e = .returned (.tuple #[.agg rs, .nilIface]) ∧ w.grownBy w' none := by
  subst h; exact pub_ok w hR seed hs lf hlf rs hrs
theorem sign_v (w : World) (hR : Rounds w) (seed : List Int) (hs : isDig seed) (lf : Int) (hlf : 0 ≤ lf ∧ lf < 32) (d : List Int) (hd : isDig d) (ds dd : Array Value) (h : ds = arrV .u8 seed) (h2 : dd = arrV .u8 d) :
    Calls Tryd.prog 24 #[.agg ds, .int .i64 lf, .agg dd] w fun e w' => ∃ b, e = .returned (.tuple #[.slice (some ⟨b, 0, none⟩) 68 68, .nilIface]) ∧ w.heap.size ≤ b ∧ w'.there b 0 1088 ∧ DigsAt w' b 0 (sigsS seed lf d) ∧ w.grownBy w' none := by
  subst h h2; exact sign_ok w hR seed hs lf hlf d hd
theorem back_v (w : World) (hR : Rounds w) (lf : Int) (hlf : 0 ≤ lf ∧ lf < 32) (b off c : Nat) (seed : List Int) (d : List Int) (hd : isDig d) (hD : DigsAt w b off (sigsS seed lf d)) (dd rs : Array Value) (h2 : dd = arrV .u8 d) (hrs : rs = arrV .u8 (pubS seed lf)) :
    Calls Tryd.prog 31 #[.int .i64 lf, .slice (some ⟨b, off, none⟩) 68 c, .agg dd] w fun e w' => e = .returned (.tuple #[.agg rs, .nilIface]) ∧ w.grownBy w' none := by
  subst h2; exact recover_ok w hR lf hlf b off c (sigsS seed lf d) (sigsS_length _ _ _) (sigsS_dig _ _ _) hD d hd rs (by rw [hrs, recC_sigs])
theorem rpub_v (w : World) (seed : List Int) (hs : isDig seed) (lf : Int) (ds rs : Array Value) (h : ds = arrV .u8 seed) (hrs : rs = arrV .u8 (pubS seed lf)) :
    Calls Tryd.prog 23 #[.agg ds, .int .i64 lf] w fun e w' => e = .returned (.agg rs) ∧ w.grownBy w' none := by
  subst h; exact rpublic_is w seed hs lf rs hrs
theorem rsign_v (w : World) (seed : List Int) (hs : isDig seed) (lf : Int) (d : List Int) (hd : isDig d) (ds dd : Array Value) (h : ds = arrV .u8 seed) (h2 : dd = arrV .u8 d) :
    Calls Tryd.prog 29 #[.agg ds, .int .i64 lf, .agg dd] w fun e w' => ∃ b cap, e = .returned (.slice (some ⟨b, 0, none⟩) 68 cap) ∧ DigsAt w' b 0 (sigsS seed lf d) ∧ w.grownBy w' none := by
  subst h h2; exact rsign_is w seed hs lf d hd
end Go.Proofs.YtpldegdcachlmaaDoor
