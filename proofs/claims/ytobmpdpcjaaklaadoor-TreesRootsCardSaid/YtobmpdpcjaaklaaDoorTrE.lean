/-
  quorateref04.Climb.
-/
import Derived.Test.YtobmpdpcjaaklaaDoorTrC
namespace Go.Proofs.YtobmpdpcjaaklaaDoor
open Go.RowKit

theorem half (i : Int) (h : 0 ≤ i ∧ i < 32) (k : Nat) (hk : k < 5) : ∃ v v' p : Int, i / 2 ^ k = v ∧ i / 2 ^ (k + 1) = v' ∧ (0 ≤ v ∧ v < 32) ∧ v.tmod 2 = p ∧ v % 2 = p ∧ v.tdiv 2 = v' ∧ v / 2 = v' ∧ IntKind.i64.wrap v' = v' ∧ (p = 0 ∨ p = 1) := by
  have hv : 0 ≤ i / 2 ^ k ∧ i / 2 ^ k < 32 := by
    have : k = 0 ∨ k = 1 ∨ k = 2 ∨ k = 3 ∨ k = 4 := by omega
    rcases this with rfl | rfl | rfl | rfl | rfl <;> simp <;> omega
  have hv2 : i / 2 ^ (k + 1) = i / 2 ^ k / 2 := by
    have : k = 0 ∨ k = 1 ∨ k = 2 ∨ k = 3 ∨ k = 4 := by omega
    rcases this with rfl | rfl | rfl | rfl | rfl <;> simp <;> omega
  refine ⟨i / 2 ^ k, i / 2 ^ k / 2, i / 2 ^ k % 2, rfl, hv2, hv, Int.tmod_eq_emod_of_nonneg hv.1, rfl, Int.tdiv_eq_ediv_of_nonneg hv.1, rfl, by rw [IntKind.wrap_i64]; omega, by omega⟩

set_option maxRecDepth 100000 in
set_option maxHeartbeats 8000000 in
theorem rclimb_is (w : World) (x : List Int) (hx : isDig x) (lf : Int) (hlf : 0 ≤ lf ∧ lf < 32) (b off c : Nat) (ps : List (List Int)) (hl : ps.length = 5) (hps : ∀ p ∈ ps, isDig p) (hD : DigsAt w b off ps) (ds rs : Array Value) (hds : ds = arrV .u8 x) (hrs : rs = arrV .u8 (climbC x lf ps 5)) :
    Calls Tryd.prog 16 #[.agg ds, .int .i64 lf, .slice (some ⟨b, off, none⟩) 5 c] w fun e w' => e = .returned (.agg rs) ∧ w.grownBy w' none := by
  obtain ⟨Z16, hZ16⟩ : ∃ Z, Z = arrV .u8 (List.replicate 16 0) := ⟨_, rfl⟩
  have hz16 : ∀ w, Sem.run Tryd.prog (zeroValue 25) w = .ok (.agg Z16) w := fun w => by rw [hZ16]; exact z16run w
  have HD := Lib.hid (show ds = arrV .u8 (climbC x lf ps 0) ∧ ds.size = 16 ∧ Z16.size = 16 ∧ (ds.all fun v => v.oneCell') = true from ⟨by rw [hds, climbC], by rw [hds, arr_size, hx.1], by rw [hZ16]; rfl, by rw [hds]; exact arr_one _ _⟩)
  have HN := Lib.hid (And.intro hx (And.intro hl (And.intro hps (And.intro hD hrs))))
  have HLF := Lib.hid hlf
  clear hZ16 hds hx hl hps hD hrs hlf
  go_enter Tryd.func16, Tryd.ntmps16
  go_wp2_with fail
  have b0 := (Blk.new w 25 ds).alloc (.cells Z16 25)
  have b1 := Blk.new (w.alloc (.cells ds 25)) 25 Z16
  rw [World.size_alloc] at b1
  have HF := Lib.hid (And.intro b0 (And.intro b1 (grown_trans (World.grownBy_alloc w (.cells ds 25) none) (World.grownBy_alloc _ (.cells Z16 25) none))))
  clear b0 b1
  generalize (w.alloc (.cells ds 25)).alloc (.cells Z16 25) = w3 at *
  go_loopw [11, 1] (fun i v wr => ∃ k : Nat, k ≤ 5 ∧ i = .int .i64 (k : Int) ∧ v = .int .i64 (lf / 2 ^ k) ∧ Blk wr w.heap.size 25 (arrV .u8 (climbC x lf ps k)) ∧ Blk wr (w.heap.size + 1) 25 Z16 ∧ w.grownBy wr none) (fun i _ _ => 5 - (intOf i).toNat)
  case atStart => exact ⟨0, by omega, rfl, by simp, by rw [← HD.out.1]; exact HF.out.1, HF.out.2.1, HF.out.2.2⟩
  case round =>
    obtain ⟨k, hk, hi, hv, hB, hZ, hG⟩ := hrel
    obtain ⟨cs, hcs⟩ : ∃ cs, cs = arrV .u8 (climbC x lf ps k) := ⟨_, rfl⟩
    rw [← hcs] at hB
    have hdk := climbC_dig HN.out.1 lf ps k
    have hsz : cs.size = 16 := by rw [hcs, arr_size]; exact hdk.1
    obtain ⟨I, hI⟩ : ∃ I : Int, I = (k : Int) := ⟨_, rfl⟩
    rw [← hI] at hi
    by_cases hlt : k < 5
    · have d1 : decide (I < 5) = true := by simp; omega
      have hI5 : 0 ≤ I ∧ I < 5 := by omega
      have hkI : I.toNat = k := by omega
      obtain ⟨v, v', p2, e1, e2, hvr, m1, m2, m3, m4, m5, hp2⟩ := half lf HLF.out k hlt
      rw [e1] at hv
      subst hi hv
      have hpd := getD_dig HN.out.2.2.1 k
      obtain ⟨p, hp⟩ : ∃ p, p = ps.getD k zeroC := ⟨_, rfl⟩
      rw [← hp] at hpd
      obtain ⟨es, hes⟩ : ∃ es, es = arrV .u8 p := ⟨_, rfl⟩
      obtain ⟨el, hel⟩ : ∃ el, el = es.toList := ⟨_, rfl⟩
      have he16 : es.size = 16 := by rw [hes, arr_size]; exact hpd.1
      have hr1 : wr.rangeAt b (off + I.toNat * 16) el := by
        rw [hkI, hel, hes, hp]
        exact range_grown (HN.out.2.2.2.1 k (by rw [HN.out.2.1]; exact hlt)) hG
      obtain ⟨ns, hns⟩ : ∃ ns, ns = arrV .u8 (climbC x lf ps (k + 1)) := ⟨_, rfl⟩
      have hn16 : ns.size = 16 := by rw [hns, arr_size]; exact (climbC_dig HN.out.1 lf ps (k + 1)).1
      have HNS := Lib.hid (And.intro hn16 (And.intro (show (ns.all fun v => v.oneCell') = true by rw [hns]; exact arr_one _ _) hns))
      have HES := Lib.hid (And.intro he16 (And.intro (show (es.all fun v => v.oneCell') = true by rw [hes]; exact arr_one _ _) (And.intro hr1 (And.intro (show (Tryd.prog.info? 25).map (·.size) = some el.length by rw [hel, Array.length_toList, he16]; exact info16) (show el.toArray = es by rw [hel, Array.toArray_toList])))))
      have HB := Lib.hid (And.intro hB (And.intro hZ (And.intro hG hsz)))
      have HK := Lib.hid (And.intro hI (And.intro hlt e2))
      have hpar : lf / 2 ^ k % 2 = p2 := by rw [e1]; exact m2
      rcases hp2 with rfl | rfl
      · have J := Lib.hid (fun (V : World) => rjoin_is V (climbC x lf ps k) p hdk hpd cs es ns hcs hes (by rw [hns, climbC, if_pos hpar, ← hp]))
        clear hB hZ hG hk hlt hp hes hel he16 hr1 hns hn16 hpar hcs hsz hI hkI e1 e2 hdk hpd
        go_wp2_with (first
          | (refine wpList_load_mid rfl 25 _ rfl b (off + I.toNat * 16) rfl el _ HES.out.2.2.1 Tryd.underlying25 rfl HES.out.2.2.2.1 ?_; rw [HES.out.2.2.2.2])
          | (refine wpList_store_row rfl 25 _ _ rfl wr.heap.size es rfl rfl 25 _ (heap_alloc_new wr _) (by rw [HES.out.1]; exact info16) (by rw [HD.out.2.2.1, HES.out.1]) HES.out.2.1 ?_
             obtain ⟨w4, hw4⟩ : ∃ w4, w4 = (wr.alloc (.cells Z16 25)).setRow wr.heap.size es := ⟨_, rfl⟩
             obtain ⟨p10, hp10⟩ : ∃ p, p = wr.heap.size := ⟨_, rfl⟩
             rw [← hw4, ← hp10]
             have HB4 := Lib.hid (show Blk w4 p10 25 es ∧ Blk w4 w.heap.size 25 cs ∧ Blk w4 (w.heap.size + 1) 25 Z16 ∧ w.grownBy w4 none from by
               rw [hw4, hp10]
               have hg4 := grown_row (World.grownBy_alloc wr (.cells Z16 25) none) (.inl (Nat.le_refl _)) es
               exact ⟨(Blk.new wr 25 Z16).row es, HB.out.1.grown hg4 (by simp), HB.out.2.1.grown hg4 (by simp), grown_trans HB.out.2.2.1 hg4⟩)
             clear hw4 hp10)
          | (refine wpList_load_row rfl 25 _ rfl w.heap.size rfl 25 cs (0, 0) _ HB4.out.2.1 Tryd.underlying25 rfl (by rw [HB.out.2.2.2]; exact info16) ?_)
          | (refine wpList_load_row rfl 25 _ rfl p10 rfl 25 es (0, 0) _ HB4.out.1 Tryd.underlying25 rfl (by rw [HES.out.1]; exact info16) ?_))
        refine (J.out w4).mono ?_
        rintro e w5 ⟨rfl, hk5⟩
        have HB5 := Lib.hid (And.intro (HB4.out.2.1.grown hk5 (by simp)) (And.intro (HB4.out.2.2.1.grown hk5 (by simp)) (grown_trans HB4.out.2.2.2 hk5)))
        clear hk5
        go_wp2_with (refine wpList_store_row rfl 25 _ _ rfl w.heap.size ns rfl rfl 25 _ HB5.out.1 (by rw [HNS.out.1]; exact info16) (by rw [HB.out.2.2.2, HNS.out.1]) HNS.out.2.1 ?_)
        go_roundw
        case rel => obtain ⟨hI, hlt, e2⟩ := HK.out; exact ⟨k + 1, by omega, by rw [hI]; rfl, by rw [e2], by rw [← HNS.out.2.2]; exact HB5.out.1.row ns, HB5.out.2.1.farRow (by omega) ns, grown_row HB5.out.2.2 (.inl (by omega)) ns⟩
        case measure => obtain ⟨hI, hlt, _⟩ := HK.out; simp only [intOf]; omega
      · have J := Lib.hid (fun (V : World) => rjoin_is V p (climbC x lf ps k) hpd hdk es cs ns hes hcs (by rw [hns, climbC, if_neg (by omega), ← hp]))
        clear hB hZ hG hk hlt hp hes hel he16 hr1 hns hn16 hpar hcs hsz hI hkI e1 e2 hdk hpd
        go_wp2_with (first
          | (refine wpList_load_mid rfl 25 _ rfl b (off + I.toNat * 16) rfl el _ HES.out.2.2.1 Tryd.underlying25 rfl HES.out.2.2.2.1 ?_; rw [HES.out.2.2.2.2])
          | (refine wpList_store_row rfl 25 _ _ rfl wr.heap.size es rfl rfl 25 _ (heap_alloc_new wr _) (by rw [HES.out.1]; exact info16) (by rw [HD.out.2.2.1, HES.out.1]) HES.out.2.1 ?_
             obtain ⟨w4, hw4⟩ : ∃ w4, w4 = (wr.alloc (.cells Z16 25)).setRow wr.heap.size es := ⟨_, rfl⟩
             obtain ⟨p10, hp10⟩ : ∃ p, p = wr.heap.size := ⟨_, rfl⟩
             rw [← hw4, ← hp10]
             have HB4 := Lib.hid (show Blk w4 p10 25 es ∧ Blk w4 w.heap.size 25 cs ∧ Blk w4 (w.heap.size + 1) 25 Z16 ∧ w.grownBy w4 none from by
               rw [hw4, hp10]
               have hg4 := grown_row (World.grownBy_alloc wr (.cells Z16 25) none) (.inl (Nat.le_refl _)) es
               exact ⟨(Blk.new wr 25 Z16).row es, HB.out.1.grown hg4 (by simp), HB.out.2.1.grown hg4 (by simp), grown_trans HB.out.2.2.1 hg4⟩)
             clear hw4 hp10)
          | (refine wpList_load_row rfl 25 _ rfl w.heap.size rfl 25 cs (0, 0) _ HB4.out.2.1 Tryd.underlying25 rfl (by rw [HB.out.2.2.2]; exact info16) ?_)
          | (refine wpList_load_row rfl 25 _ rfl p10 rfl 25 es (0, 0) _ HB4.out.1 Tryd.underlying25 rfl (by rw [HES.out.1]; exact info16) ?_))
        refine (J.out w4).mono ?_
        rintro e w5 ⟨rfl, hk5⟩
        have HB5 := Lib.hid (And.intro (HB4.out.2.1.grown hk5 (by simp)) (And.intro (HB4.out.2.2.1.grown hk5 (by simp)) (grown_trans HB4.out.2.2.2 hk5)))
        clear hk5
        go_wp2_with (refine wpList_store_row rfl 25 _ _ rfl w.heap.size ns rfl rfl 25 _ HB5.out.1 (by rw [HNS.out.1]; exact info16) (by rw [HB.out.2.2.2, HNS.out.1]) HNS.out.2.1 ?_)
        go_roundw
        case rel => obtain ⟨hI, hlt, e2⟩ := HK.out; exact ⟨k + 1, by omega, by rw [hI]; rfl, by rw [e2], by rw [← HNS.out.2.2]; exact HB5.out.1.row ns, HB5.out.2.1.farRow (by omega) ns, grown_row HB5.out.2.2 (.inl (by omega)) ns⟩
        case measure => obtain ⟨hI, hlt, _⟩ := HK.out; simp only [intOf]; omega
    · obtain rfl : k = 5 := by omega
      have d1 : decide (I < 5) = false := by simp; omega
      have hr : cs = rs := by rw [hcs, HN.out.2.2.2.2]
      subst hr
      have HB := Lib.hid (And.intro hB (And.intro hZ (And.intro hG (And.intro hsz (show (cs.all fun v => v.oneCell') = true by rw [hcs]; exact arr_one _ _)))))
      subst hi hv
      clear hB hZ hG hk hlt hcs hdk hsz hI
      go_wp2_with (first
        | (refine wpList_load_row rfl 25 _ rfl w.heap.size rfl 25 cs (0, 0) _ HB.out.1 Tryd.underlying25 rfl (by rw [HB.out.2.2.2.1]; exact info16) ?_)
        | (refine wpList_store_row rfl 25 _ _ rfl (w.heap.size + 1) cs rfl rfl 25 _ HB.out.2.1 (by rw [HB.out.2.2.2.1]; exact info16) (by rw [HD.out.2.2.1, HB.out.2.2.2.1]) HB.out.2.2.2.2 ?_))
      refine bodyPost_ret (results_cell rfl _ _ _ ⟨w.heap.size + 1, 0, none⟩ (.agg cs) rfl (run_loadVar_row _ (w.heap.size + 1) 25 25 cs (0, 0) _ (HB.out.2.1.row cs) Tryd.underlying25 rfl (by rw [HB.out.2.2.2.1]; exact info16))) rfl ?_
      exact ⟨rfl, grown_row HB.out.2.2.1 (.inl (by omega)) cs⟩
end Go.Proofs.YtobmpdpcjaaklaaDoor
