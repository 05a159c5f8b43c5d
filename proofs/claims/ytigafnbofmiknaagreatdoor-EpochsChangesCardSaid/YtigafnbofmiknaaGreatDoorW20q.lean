/- TrE, Kv, Kr, Pw, PwC -/
import Derived.Test.YtigafnbofmiknaaGreatDoorW20l
import Derived.Test.YtigafnbofmiknaaGreatDoorW20p
import Derived.Test.YtigafnbofmiknaaGreatDoorW20j
import Derived.Test.YtigafnbofmiknaaGreatDoorW20a
import Derived.Deep.RegionHeld3
import Derived.BigQuiet
import Derived.Deep.MidRow
import Derived.Test.YtigafnbofmiknaaGreatDoorW20e
namespace Go.Proofs.YtigafnbofmiknaaGreatDoor
set_option maxRecDepth 100000
set_option maxHeartbeats 10000000
open Go.RowKit
section
theorem half (i : Int) (h : 0 <= i /\ i < 32) (k : Nat) (hk : k < 5) : ∃ v v' p : Int, i / 2 ^ k = v /\ i / 2 ^ (k + 1) = v' /\ (0 <= v /\ v < 32) /\ v.tmod 2 = p /\ v % 2 = p /\ v.tdiv 2 = v' /\ v / 2 = v' /\ IntKind.i64.wrap v' = v' /\ (p = 0 \/ p = 1) := by
 have hv : 0 <= i / 2 ^ k /\ i / 2 ^ k < 32 := by
  have : k = 0 \/ k = 1 \/ k = 2 \/ k = 3 \/ k = 4 := by omega
  rcases this with rfl | rfl | rfl | rfl | rfl <;> simp <;> omega
 have hv2 : i / 2 ^ (k + 1) = i / 2 ^ k / 2 := by
  have : k = 0 \/ k = 1 \/ k = 2 \/ k = 3 \/ k = 4 := by omega
  rcases this with rfl | rfl | rfl | rfl | rfl <;> simp <;> omega
 refine ⟨i / 2 ^ k, i / 2 ^ k / 2, i / 2 ^ k % 2, rfl, hv2, hv, Int.tmod_eq_emod_of_nonneg hv.1, rfl, Int.tdiv_eq_ediv_of_nonneg hv.1, rfl, by rw [IntKind.wrap_i64]; omega, by omega⟩
theorem rclimb_is (w : World) (x : List Int) (hx : isDig x) (lf : Int) (hlf : 0 <= lf /\ lf < 32) (b off c : Nat) (ps : List (List Int)) (hl : ps.length = 5) (hps : ∀ p ∈ ps, isDig p) (hD : DigsAt w b off ps) (ds rs : Array Value) (hds : ds = arrV .u8 x) (hrs : rs = arrV .u8 (climbC x lf ps 5)) :
    Calls Tryz.prog 79 #[.agg ds, .int .i64 lf, .slice (some ⟨b, off, none⟩) 5 c] w fun e w' => e = .returned (.agg rs) /\ w.grownBy w' none := by
 obtain ⟨Z16, hZ16⟩ : ∃ Z, Z = arrV .u8 (List.replicate 16 0) := ⟨_, rfl⟩
 have hz16 : ∀ w, Sem.run Tryz.prog (zeroValue 24) w = .ok (.agg Z16) w := fun w => by rw [hZ16]; exact z16run w
 have HD := hQ_ (show ds = arrV .u8 (climbC x lf ps 0) /\ ds.size = 16 /\ Z16.size = 16 /\ (ds.all fun v => v.oneCell') = true from ⟨by rw [hds, climbC], by rw [hds, zf, hx.1], by rw [hZ16]; rfl, by rw [hds]; exact zu _ _⟩)
 have HN := hQ_ (aQ hx (aQ hl (aQ hps (aQ hD hrs))))
 have HLF := hQ_ hlf
 clear hZ16 hds hx hl hps hD hrs hlf
 go_enter Tryz.func79, Tryz.ntmps79
 go_wp2_with fail
 have b0 := (Blk.new w 24 ds).alloc (.cells Z16 24)
 have b1 := Blk.new (w.alloc (.cells ds 24)) 24 Z16
 rw [World.size_alloc] at b1
 have HF := hQ_ (aQ b0 (aQ b1 (za (World.grownBy_alloc w (.cells ds 24) none) (World.grownBy_alloc _ (.cells Z16 24) none))))
 clear b0 b1
 generalize (w.alloc (.cells ds 24)).alloc (.cells Z16 24) = w3 at *
 go_loopw [11, 1] (fun i v wr => ∃ k : Nat, k <= 5 /\ i = .int .i64 (k : Int) /\ v = .int .i64 (lf / 2 ^ k) /\ Blk wr w.heap.size 24 (arrV .u8 (climbC x lf ps k)) /\ Blk wr (w.heap.size + 1) 24 Z16 /\ w.grownBy wr none) (fun i _ _ => 5 - (intOf i).toNat)
 case atStart => exact ⟨0, by omega, rfl, by simp, by rw [<- HD.out.1]; exact HF.out.1, HF.out.2.1, HF.out.2.2⟩
 case round =>
  obtain ⟨k, hk, hi, hv, hB, hZ, hG⟩ := hrel
  obtain ⟨cs, hcs⟩ : ∃ cs, cs = arrV .u8 (climbC x lf ps k) := ⟨_, rfl⟩
  rw [<- hcs] at hB
  have hdk := zaj HN.out.1 lf ps k
  have hsz : cs.size = 16 := by rw [hcs, zf]; exact hdk.1
  obtain ⟨I, hI⟩ : ∃ I : Int, I = (k : Int) := ⟨_, rfl⟩
  rw [<- hI] at hi
  by_cases hlt : k < 5
  · have d1 : decide (I < 5) = true := by simp; omega
    have hI5 : 0 <= I /\ I < 5 := by omega
    have hkI : I.toNat = k := by omega
    obtain ⟨v, v', p2, e1, e2, hvr, m1, m2, m3, m4, m5, hp2⟩ := half lf HLF.out k hlt
    rw [e1] at hv
    subst hi hv
    have hpd := zbu HN.out.2.2.1 k
    obtain ⟨p, hp⟩ : ∃ p, p = ps.getD k zeroC := ⟨_, rfl⟩
    rw [<- hp] at hpd
    obtain ⟨es, hes⟩ : ∃ es, es = arrV .u8 p := ⟨_, rfl⟩
    obtain ⟨el, hel⟩ : ∃ el, el = es.toList := ⟨_, rfl⟩
    have he16 : es.size = 16 := by rw [hes, zf]; exact hpd.1
    have hr1 : wr.rangeAt b (off + I.toNat * 16) el := by
     rw [hkI, hel, hes, hp]
     exact zaq (HN.out.2.2.2.1 k (by rw [HN.out.2.1]; exact hlt)) hG
    obtain ⟨ns, hns⟩ : ∃ ns, ns = arrV .u8 (climbC x lf ps (k + 1)) := ⟨_, rfl⟩
    have hn16 : ns.size = 16 := by rw [hns, zf]; exact (zaj HN.out.1 lf ps (k + 1)).1
    have HNS := hQ_ (aQ hn16 (aQ (show (ns.all fun v => v.oneCell') = true by rw [hns]; exact zu _ _) hns))
    have HES := hQ_ (aQ he16 (aQ (show (es.all fun v => v.oneCell') = true by rw [hes]; exact zu _ _) (aQ hr1 (aQ (show (Tryz.prog.info? 24).map (·.size) = some el.length by rw [hel, Array.length_toList, he16]; exact info16) (show el.toArray = es by rw [hel, Array.toArray_toList])))))
    have HB := hQ_ (aQ hB (aQ hZ (aQ hG hsz)))
    have HK := hQ_ (aQ hI (aQ hlt e2))
    have hpar : lf / 2 ^ k % 2 = p2 := by rw [e1]; exact m2
    rcases hp2 with rfl | rfl
    · have J := hQ_ (fun (V : World) => rjoin_is V (climbC x lf ps k) p hdk hpd cs es ns hcs hes (by rw [hns, climbC, if_pos hpar, <- hp]))
      clear hB hZ hG hk hlt hp hes hel he16 hr1 hns hn16 hpar hcs hsz hI hkI e1 e2 hdk hpd
      go_wp2_with (first
       | (refine wpList_load_mid rfl 24 _ rfl b (off + I.toNat * 16) rfl el _ HES.out.2.2.1 Tryz.underlying24 rfl HES.out.2.2.2.1 ?_; rw [HES.out.2.2.2.2])
       | (refine wpList_store_row rfl 24 _ _ rfl wr.heap.size es rfl rfl 24 _ (heap_alloc_new wr _) (by rw [HES.out.1]; exact info16) (by rw [HD.out.2.2.1, HES.out.1]) HES.out.2.1 ?_
          obtain ⟨w4, hw4⟩ : ∃ w4, w4 = (wr.alloc (.cells Z16 24)).setRow wr.heap.size es := ⟨_, rfl⟩
          obtain ⟨p10, hp10⟩ : ∃ p, p = wr.heap.size := ⟨_, rfl⟩
          rw [<- hw4, <- hp10]
          have HB4 := hQ_ (show Blk w4 p10 24 es /\ Blk w4 w.heap.size 24 cs /\ Blk w4 (w.heap.size + 1) 24 Z16 /\ w.grownBy w4 none from by
           rw [hw4, hp10]
           have hg4 := zc (World.grownBy_alloc wr (.cells Z16 24) none) (.inl (Nat.le_refl _)) es
           exact ⟨(Blk.new wr 24 Z16).row es, HB.out.1.grown hg4 (by simp), HB.out.2.1.grown hg4 (by simp), za HB.out.2.2.1 hg4⟩)
          clear hw4 hp10)
       | (refine wpList_load_row rfl 24 _ rfl w.heap.size rfl 24 cs (0, 0) _ HB4.out.2.1 Tryz.underlying24 rfl (by rw [HB.out.2.2.2]; exact info16) ?_)
       | (refine wpList_load_row rfl 24 _ rfl p10 rfl 24 es (0, 0) _ HB4.out.1 Tryz.underlying24 rfl (by rw [HES.out.1]; exact info16) ?_))
      refine (J.out w4).mono ?_
      rintro e w5 ⟨rfl, hk5⟩
      have HB5 := hQ_ (aQ (HB4.out.2.1.grown hk5 (by simp)) (aQ (HB4.out.2.2.1.grown hk5 (by simp)) (za HB4.out.2.2.2 hk5)))
      clear hk5
      go_wp2_with (refine wpList_store_row rfl 24 _ _ rfl w.heap.size ns rfl rfl 24 _ HB5.out.1 (by rw [HNS.out.1]; exact info16) (by rw [HB.out.2.2.2, HNS.out.1]) HNS.out.2.1 ?_)
      go_roundw
      case rel => obtain ⟨hI, hlt, e2⟩ := HK.out; exact ⟨k + 1, by omega, by rw [hI]; rfl, by rw [e2], by rw [<- HNS.out.2.2]; exact HB5.out.1.row ns, HB5.out.2.1.farRow (by omega) ns, zc HB5.out.2.2 (.inl (by omega)) ns⟩
      case measure => obtain ⟨hI, hlt, _⟩ := HK.out; simp only [intOf]; omega
    · have J := hQ_ (fun (V : World) => rjoin_is V p (climbC x lf ps k) hpd hdk es cs ns hes hcs (by rw [hns, climbC, if_neg (by omega), <- hp]))
      clear hB hZ hG hk hlt hp hes hel he16 hr1 hns hn16 hpar hcs hsz hI hkI e1 e2 hdk hpd
      go_wp2_with (first
       | (refine wpList_load_mid rfl 24 _ rfl b (off + I.toNat * 16) rfl el _ HES.out.2.2.1 Tryz.underlying24 rfl HES.out.2.2.2.1 ?_; rw [HES.out.2.2.2.2])
       | (refine wpList_store_row rfl 24 _ _ rfl wr.heap.size es rfl rfl 24 _ (heap_alloc_new wr _) (by rw [HES.out.1]; exact info16) (by rw [HD.out.2.2.1, HES.out.1]) HES.out.2.1 ?_
          obtain ⟨w4, hw4⟩ : ∃ w4, w4 = (wr.alloc (.cells Z16 24)).setRow wr.heap.size es := ⟨_, rfl⟩
          obtain ⟨p10, hp10⟩ : ∃ p, p = wr.heap.size := ⟨_, rfl⟩
          rw [<- hw4, <- hp10]
          have HB4 := hQ_ (show Blk w4 p10 24 es /\ Blk w4 w.heap.size 24 cs /\ Blk w4 (w.heap.size + 1) 24 Z16 /\ w.grownBy w4 none from by
           rw [hw4, hp10]
           have hg4 := zc (World.grownBy_alloc wr (.cells Z16 24) none) (.inl (Nat.le_refl _)) es
           exact ⟨(Blk.new wr 24 Z16).row es, HB.out.1.grown hg4 (by simp), HB.out.2.1.grown hg4 (by simp), za HB.out.2.2.1 hg4⟩)
          clear hw4 hp10)
       | (refine wpList_load_row rfl 24 _ rfl w.heap.size rfl 24 cs (0, 0) _ HB4.out.2.1 Tryz.underlying24 rfl (by rw [HB.out.2.2.2]; exact info16) ?_)
       | (refine wpList_load_row rfl 24 _ rfl p10 rfl 24 es (0, 0) _ HB4.out.1 Tryz.underlying24 rfl (by rw [HES.out.1]; exact info16) ?_))
      refine (J.out w4).mono ?_
      rintro e w5 ⟨rfl, hk5⟩
      have HB5 := hQ_ (aQ (HB4.out.2.1.grown hk5 (by simp)) (aQ (HB4.out.2.2.1.grown hk5 (by simp)) (za HB4.out.2.2.2 hk5)))
      clear hk5
      go_wp2_with (refine wpList_store_row rfl 24 _ _ rfl w.heap.size ns rfl rfl 24 _ HB5.out.1 (by rw [HNS.out.1]; exact info16) (by rw [HB.out.2.2.2, HNS.out.1]) HNS.out.2.1 ?_)
      go_roundw
      case rel => obtain ⟨hI, hlt, e2⟩ := HK.out; exact ⟨k + 1, by omega, by rw [hI]; rfl, by rw [e2], by rw [<- HNS.out.2.2]; exact HB5.out.1.row ns, HB5.out.2.1.farRow (by omega) ns, zc HB5.out.2.2 (.inl (by omega)) ns⟩
      case measure => obtain ⟨hI, hlt, _⟩ := HK.out; simp only [intOf]; omega
  · obtain rfl : k = 5 := by omega
    have d1 : decide (I < 5) = false := by simp; omega
    have hr : cs = rs := by rw [hcs, HN.out.2.2.2.2]
    subst hr
    have HB := hQ_ (aQ hB (aQ hZ (aQ hG (aQ hsz (show (cs.all fun v => v.oneCell') = true by rw [hcs]; exact zu _ _)))))
    subst hi hv
    clear hB hZ hG hk hlt hcs hdk hsz hI
    go_wp2_with (first
     | (refine wpList_load_row rfl 24 _ rfl w.heap.size rfl 24 cs (0, 0) _ HB.out.1 Tryz.underlying24 rfl (by rw [HB.out.2.2.2.1]; exact info16) ?_)
     | (refine wpList_store_row rfl 24 _ _ rfl (w.heap.size + 1) cs rfl rfl 24 _ HB.out.2.1 (by rw [HB.out.2.2.2.1]; exact info16) (by rw [HD.out.2.2.1, HB.out.2.2.2.1]) HB.out.2.2.2.2 ?_))
    refine bodyPost_ret (z5 rfl _ _ _ ⟨w.heap.size + 1, 0, none⟩ (.agg cs) rfl (run_loadVar_row _ (w.heap.size + 1) 24 24 cs (0, 0) _ (HB.out.2.1.row cs) Tryz.underlying24 rfl (by rw [HB.out.2.2.2.1]; exact info16))) rfl ?_
    exact ⟨rfl, zc HB.out.2.2.1 (.inl (by omega)) cs⟩
end
section
theorem zd1 (w : World) (rt dd : Array Value) (hrt : rt.size = 16) (hdd : dd.size = 16) (lf : Int) (A1 A2 : Option Addr) (n1 c1 n2 c2 : Nat) (xs : Array Value) (hxs : xs.size = 16) (hx1 : (xs.all fun v => v.oneCell') = true) (a : Addr) (H1 : ∀ z, w.grownBy z none -> Calls Tryz.prog 117 #[.int .i64 lf, .slice A1 n1 c1, .agg dd] z fun e w' => e = .returned (.tuple #[.agg xs, errV a]) /\ z.grownBy w' none) :
    Calls Tryz.prog 96 #[.agg rt, .agg dd, .agg (sigV lf (.slice A1 n1 c1) (.slice A2 n2 c2))] w fun e w' => e = .returned (.bool false) /\ w.grownBy w' none := by
 obtain ⟨Z16, hZ16⟩ : ∃ Z, Z = arrV .u8 (List.replicate 16 0) := ⟨_, rfl⟩
 have hz16 : ∀ w, Sem.run Tryz.prog (zeroValue 24) w = .ok (.agg Z16) w := fun w => by rw [hZ16]; exact z16run w
 have K1 := hQ_ H1
 have HS := hQ_ (aQ hrt (aQ hdd (aQ (show Z16.size = 16 by rw [hZ16]; rfl) (aQ hxs (show (xs.all fun v => v.oneCell') = true from hx1)))))
 have B3 := hQ_ (show Blk (((w.alloc (.cells rt 24)).alloc (.cells dd 24)).alloc (.cells #[.int .i64 lf, .slice A1 n1 c1, .slice A2 n2 c2] 87)) w.heap.size 24 rt /\ Blk (((w.alloc (.cells rt 24)).alloc (.cells dd 24)).alloc (.cells #[.int .i64 lf, .slice A1 n1 c1, .slice A2 n2 c2] 87)) (w.heap.size + 1) 24 dd /\ Blk (((w.alloc (.cells rt 24)).alloc (.cells dd 24)).alloc (.cells #[.int .i64 lf, .slice A1 n1 c1, .slice A2 n2 c2] 87)) (w.heap.size + 1 + 1) 87 #[.int .i64 lf, .slice A1 n1 c1, .slice A2 n2 c2] /\ w.grownBy (((w.alloc (.cells rt 24)).alloc (.cells dd 24)).alloc (.cells #[.int .i64 lf, .slice A1 n1 c1, .slice A2 n2 c2] 87)) none from by
  have b1 := (Blk.new (w.alloc (.cells rt 24)) 24 dd).alloc (.cells #[.int .i64 lf, .slice A1 n1 c1, .slice A2 n2 c2] 87)
  have b2 := Blk.new ((w.alloc (.cells rt 24)).alloc (.cells dd 24)) 87 #[.int .i64 lf, .slice A1 n1 c1, .slice A2 n2 c2]
  simp only [World.size_alloc] at b1 b2
  exact ⟨((Blk.new w 24 rt).alloc _).alloc _, b1, b2, za (za (World.grownBy_alloc w _ none) (gQ)) (gQ)⟩)
 simp only [sigV]
 clear H1 hZ16 hrt hdd hxs hx1
 go_enter Tryz.func96, Tryz.ntmps96
 go_wp2_with (refine wpList_load_row rfl 24 _ rfl (w.heap.size + 1) rfl 24 dd (0, 0) _ B3.out.2.1 Tryz.underlying24 rfl (by rw [HS.out.2.1]; exact info16) ?_)
 refine (K1.out _ B3.out.2.2.2).mono ?_
 rintro e w2 ⟨rfl, hk2⟩
 have H2' := hQ_ (show Blk w2 w.heap.size 24 rt /\ Blk w2 (w.heap.size + 1 + 1) 87 #[.int .i64 lf, .slice A1 n1 c1, .slice A2 n2 c2] /\ w.grownBy w2 none from ⟨B3.out.1.grown hk2 (by simp), B3.out.2.2.1.grown hk2 (by simp), za B3.out.2.2.2 hk2⟩)
 clear hk2
 go_wp2_with (first
  | (refine wpList_store_row rfl 24 _ _ rfl w2.heap.size xs rfl rfl 24 _ (heap_alloc_new w2 _) (by rw [HS.out.2.2.2.1]; exact info16) (by rw [HS.out.2.2.1, HS.out.2.2.2.1]) HS.out.2.2.2.2 ?_
     obtain ⟨w3, hw3⟩ : ∃ w3, w3 = (w2.alloc (.cells Z16 24)).setRow w2.heap.size xs := ⟨_, rfl⟩
     obtain ⟨pb, hpb⟩ : ∃ pb, pb = w2.heap.size := ⟨_, rfl⟩
     rw [<- hw3, <- hpb]
     have H3 := hQ_ (show Blk w3 pb 24 xs /\ Blk w3 w.heap.size 24 rt /\ Blk w3 (w.heap.size + 1 + 1) 87 #[.int .i64 lf, .slice A1 n1 c1, .slice A2 n2 c2] /\ w.grownBy w3 none from by
      rw [hw3, hpb]
      have g3 := zc (World.grownBy_alloc w2 (.cells Z16 24) none) (.inl (Nat.le_refl _)) xs
      exact ⟨(Blk.new w2 24 Z16).row xs, H2'.out.1.grown g3 (by simp), H2'.out.2.1.grown g3 (by simp), za H2'.out.2.2 g3⟩)
     have c0' := H3.out.2.2.1.cell 0
     have c2' := H3.out.2.2.1.cell 2
     simp only [List.getElem?_toArray, List.getElem?_cons_zero, List.getElem?_cons_succ] at c0' c2'
     clear hw3 hpb)
  | (refine wpList_load_row rfl 24 _ rfl pb rfl 24 xs (0, 0) _ H3.out.1 Tryz.underlying24 rfl (by rw [HS.out.2.2.2.1]; exact info16) ?_))
 go_ret
 exact ⟨rfl, H3.out.2.2.2⟩
theorem verify_b (w : World) (rt dd : Array Value) (hrt : rt.size = 16) (hdd : dd.size = 16) (lf : Int) (A1 A2 : Option Addr) (n1 c1 n2 c2 : Nat) (xs ts : Array Value) (hxs : xs.size = 16) (hx1 : (xs.all fun v => v.oneCell') = true) (hts : ts.size = 16) (ht1 : (ts.all fun v => v.oneCell') = true) (a : Addr) (H1 : ∀ z, w.grownBy z none -> Calls Tryz.prog 117 #[.int .i64 lf, .slice A1 n1 c1, .agg dd] z fun e w' => e = .returned (.tuple #[.agg xs, .nilIface]) /\ z.grownBy w' none) (H2 : ∀ z, w.grownBy z none -> Calls Tryz.prog 118 #[.agg xs, .int .i64 lf, .slice A2 n2 c2] z fun e w' => e = .returned (.tuple #[.agg ts, errV a]) /\ z.grownBy w' none) :
    Calls Tryz.prog 96 #[.agg rt, .agg dd, .agg (sigV lf (.slice A1 n1 c1) (.slice A2 n2 c2))] w fun e w' => e = .returned (.bool false) /\ w.grownBy w' none := by
 obtain ⟨Z16, hZ16⟩ : ∃ Z, Z = arrV .u8 (List.replicate 16 0) := ⟨_, rfl⟩
 have hz16 : ∀ w, Sem.run Tryz.prog (zeroValue 24) w = .ok (.agg Z16) w := fun w => by rw [hZ16]; exact z16run w
 have K2 := hQ_ H2
 have HT := hQ_ (aQ hts ht1)
 clear H2 hts ht1
 have K1 := hQ_ H1
 have HS := hQ_ (aQ hrt (aQ hdd (aQ (show Z16.size = 16 by rw [hZ16]; rfl) (aQ hxs (show (xs.all fun v => v.oneCell') = true from hx1)))))
 have B3 := hQ_ (show Blk (((w.alloc (.cells rt 24)).alloc (.cells dd 24)).alloc (.cells #[.int .i64 lf, .slice A1 n1 c1, .slice A2 n2 c2] 87)) w.heap.size 24 rt /\ Blk (((w.alloc (.cells rt 24)).alloc (.cells dd 24)).alloc (.cells #[.int .i64 lf, .slice A1 n1 c1, .slice A2 n2 c2] 87)) (w.heap.size + 1) 24 dd /\ Blk (((w.alloc (.cells rt 24)).alloc (.cells dd 24)).alloc (.cells #[.int .i64 lf, .slice A1 n1 c1, .slice A2 n2 c2] 87)) (w.heap.size + 1 + 1) 87 #[.int .i64 lf, .slice A1 n1 c1, .slice A2 n2 c2] /\ w.grownBy (((w.alloc (.cells rt 24)).alloc (.cells dd 24)).alloc (.cells #[.int .i64 lf, .slice A1 n1 c1, .slice A2 n2 c2] 87)) none from by
  have b1 := (Blk.new (w.alloc (.cells rt 24)) 24 dd).alloc (.cells #[.int .i64 lf, .slice A1 n1 c1, .slice A2 n2 c2] 87)
  have b2 := Blk.new ((w.alloc (.cells rt 24)).alloc (.cells dd 24)) 87 #[.int .i64 lf, .slice A1 n1 c1, .slice A2 n2 c2]
  simp only [World.size_alloc] at b1 b2
  exact ⟨((Blk.new w 24 rt).alloc _).alloc _, b1, b2, za (za (World.grownBy_alloc w _ none) (gQ)) (gQ)⟩)
 simp only [sigV]
 clear H1 hZ16 hrt hdd hxs hx1
 go_enter Tryz.func96, Tryz.ntmps96
 go_wp2_with (refine wpList_load_row rfl 24 _ rfl (w.heap.size + 1) rfl 24 dd (0, 0) _ B3.out.2.1 Tryz.underlying24 rfl (by rw [HS.out.2.1]; exact info16) ?_)
 refine (K1.out _ B3.out.2.2.2).mono ?_
 rintro e w2 ⟨rfl, hk2⟩
 have H2' := hQ_ (show Blk w2 w.heap.size 24 rt /\ Blk w2 (w.heap.size + 1 + 1) 87 #[.int .i64 lf, .slice A1 n1 c1, .slice A2 n2 c2] /\ w.grownBy w2 none from ⟨B3.out.1.grown hk2 (by simp), B3.out.2.2.1.grown hk2 (by simp), za B3.out.2.2.2 hk2⟩)
 clear hk2
 go_wp2_with (first
  | (refine wpList_store_row rfl 24 _ _ rfl w2.heap.size xs rfl rfl 24 _ (heap_alloc_new w2 _) (by rw [HS.out.2.2.2.1]; exact info16) (by rw [HS.out.2.2.1, HS.out.2.2.2.1]) HS.out.2.2.2.2 ?_
     obtain ⟨w3, hw3⟩ : ∃ w3, w3 = (w2.alloc (.cells Z16 24)).setRow w2.heap.size xs := ⟨_, rfl⟩
     obtain ⟨pb, hpb⟩ : ∃ pb, pb = w2.heap.size := ⟨_, rfl⟩
     rw [<- hw3, <- hpb]
     have H3 := hQ_ (show Blk w3 pb 24 xs /\ Blk w3 w.heap.size 24 rt /\ Blk w3 (w.heap.size + 1 + 1) 87 #[.int .i64 lf, .slice A1 n1 c1, .slice A2 n2 c2] /\ w.grownBy w3 none from by
      rw [hw3, hpb]
      have g3 := zc (World.grownBy_alloc w2 (.cells Z16 24) none) (.inl (Nat.le_refl _)) xs
      exact ⟨(Blk.new w2 24 Z16).row xs, H2'.out.1.grown g3 (by simp), H2'.out.2.1.grown g3 (by simp), za H2'.out.2.2 g3⟩)
     have c0' := H3.out.2.2.1.cell 0
     have c2' := H3.out.2.2.1.cell 2
     simp only [List.getElem?_toArray, List.getElem?_cons_zero, List.getElem?_cons_succ] at c0' c2'
     clear hw3 hpb)
  | (refine wpList_load_row rfl 24 _ rfl pb rfl 24 xs (0, 0) _ H3.out.1 Tryz.underlying24 rfl (by rw [HS.out.2.2.2.1]; exact info16) ?_))
 refine (K2.out _ H3.out.2.2.2).mono ?_
 rintro e w4 ⟨rfl, hk4⟩
 have H4 := hQ_ (aQ (H3.out.2.1.grown hk4 (by simp)) (za H3.out.2.2.2 hk4))
 clear hk4 c0' c2'
 go_wp2_with (first
  | (refine wpList_store_row rfl 24 _ _ rfl w4.heap.size ts rfl rfl 24 _ (heap_alloc_new w4 _) (by rw [HT.out.1]; exact info16) (by rw [HS.out.2.2.1, HT.out.1]) HT.out.2 ?_
     obtain ⟨w5, hw5⟩ : ∃ w5, w5 = (w4.alloc (.cells Z16 24)).setRow w4.heap.size ts := ⟨_, rfl⟩
     obtain ⟨qb, hqb⟩ : ∃ qb, qb = w4.heap.size := ⟨_, rfl⟩
     rw [<- hw5, <- hqb]
     have H5 := hQ_ (show Blk w5 qb 24 ts /\ Blk w5 w.heap.size 24 rt /\ w.grownBy w5 none from by
      rw [hw5, hqb]
      have g5 := zc (World.grownBy_alloc w4 (.cells Z16 24) none) (.inl (Nat.le_refl _)) ts
      exact ⟨(Blk.new w4 24 Z16).row ts, H4.out.1.grown g5 (by simp), za H4.out.2 g5⟩)
     clear hw5 hqb)
  | (refine ub (by rfl) 24 _ rfl qb rfl 24 ts (0, 0) _ H5.out.1 Tryz.underlying24 rfl (by rw [HT.out.1]; exact info16) ?_)
  | (refine ub (by rfl) 24 _ rfl w.heap.size rfl 24 rt (0, 0) _ H5.out.2.1 Tryz.underlying24 rfl (by rw [HS.out.1]; exact info16) ?_))
 go_ret
 exact ⟨rfl, H5.out.2.2⟩
theorem verify_c (w : World) (rt dd : Array Value) (hrt : rt.size = 16) (hdd : dd.size = 16) (lf : Int) (A1 A2 : Option Addr) (n1 c1 n2 c2 : Nat) (xs ts : Array Value) (hxs : xs.size = 16) (hx1 : (xs.all fun v => v.oneCell') = true) (hts : ts.size = 16) (ht1 : (ts.all fun v => v.oneCell') = true) (r : Bool) (hq : ∀ V, Sem.run Tryz.prog (Op.equalIn 10000 24 (.agg ts) (.agg rt)) V = .ok r V) (H1 : ∀ z, w.grownBy z none -> Calls Tryz.prog 117 #[.int .i64 lf, .slice A1 n1 c1, .agg dd] z fun e w' => e = .returned (.tuple #[.agg xs, .nilIface]) /\ z.grownBy w' none) (H2 : ∀ z, w.grownBy z none -> Calls Tryz.prog 118 #[.agg xs, .int .i64 lf, .slice A2 n2 c2] z fun e w' => e = .returned (.tuple #[.agg ts, .nilIface]) /\ z.grownBy w' none) :
    Calls Tryz.prog 96 #[.agg rt, .agg dd, .agg (sigV lf (.slice A1 n1 c1) (.slice A2 n2 c2))] w fun e w' => e = .returned (.bool r) /\ w.grownBy w' none := by
 obtain ⟨Z16, hZ16⟩ : ∃ Z, Z = arrV .u8 (List.replicate 16 0) := ⟨_, rfl⟩
 have hz16 : ∀ w, Sem.run Tryz.prog (zeroValue 24) w = .ok (.agg Z16) w := fun w => by rw [hZ16]; exact z16run w
 have K2 := hQ_ H2
 have HT := hQ_ (aQ hts ht1)
 clear H2 hts ht1
 have K1 := hQ_ H1
 have HS := hQ_ (aQ hrt (aQ hdd (aQ (show Z16.size = 16 by rw [hZ16]; rfl) (aQ hxs (show (xs.all fun v => v.oneCell') = true from hx1)))))
 have B3 := hQ_ (show Blk (((w.alloc (.cells rt 24)).alloc (.cells dd 24)).alloc (.cells #[.int .i64 lf, .slice A1 n1 c1, .slice A2 n2 c2] 87)) w.heap.size 24 rt /\ Blk (((w.alloc (.cells rt 24)).alloc (.cells dd 24)).alloc (.cells #[.int .i64 lf, .slice A1 n1 c1, .slice A2 n2 c2] 87)) (w.heap.size + 1) 24 dd /\ Blk (((w.alloc (.cells rt 24)).alloc (.cells dd 24)).alloc (.cells #[.int .i64 lf, .slice A1 n1 c1, .slice A2 n2 c2] 87)) (w.heap.size + 1 + 1) 87 #[.int .i64 lf, .slice A1 n1 c1, .slice A2 n2 c2] /\ w.grownBy (((w.alloc (.cells rt 24)).alloc (.cells dd 24)).alloc (.cells #[.int .i64 lf, .slice A1 n1 c1, .slice A2 n2 c2] 87)) none from by
  have b1 := (Blk.new (w.alloc (.cells rt 24)) 24 dd).alloc (.cells #[.int .i64 lf, .slice A1 n1 c1, .slice A2 n2 c2] 87)
  have b2 := Blk.new ((w.alloc (.cells rt 24)).alloc (.cells dd 24)) 87 #[.int .i64 lf, .slice A1 n1 c1, .slice A2 n2 c2]
  simp only [World.size_alloc] at b1 b2
  exact ⟨((Blk.new w 24 rt).alloc _).alloc _, b1, b2, za (za (World.grownBy_alloc w _ none) (gQ)) (gQ)⟩)
 simp only [sigV]
 clear H1 hZ16 hrt hdd hxs hx1
 go_enter Tryz.func96, Tryz.ntmps96
 go_wp2_with (refine wpList_load_row rfl 24 _ rfl (w.heap.size + 1) rfl 24 dd (0, 0) _ B3.out.2.1 Tryz.underlying24 rfl (by rw [HS.out.2.1]; exact info16) ?_)
 refine (K1.out _ B3.out.2.2.2).mono ?_
 rintro e w2 ⟨rfl, hk2⟩
 have H2' := hQ_ (show Blk w2 w.heap.size 24 rt /\ Blk w2 (w.heap.size + 1 + 1) 87 #[.int .i64 lf, .slice A1 n1 c1, .slice A2 n2 c2] /\ w.grownBy w2 none from ⟨B3.out.1.grown hk2 (by simp), B3.out.2.2.1.grown hk2 (by simp), za B3.out.2.2.2 hk2⟩)
 clear hk2
 go_wp2_with (first
  | (refine wpList_store_row rfl 24 _ _ rfl w2.heap.size xs rfl rfl 24 _ (heap_alloc_new w2 _) (by rw [HS.out.2.2.2.1]; exact info16) (by rw [HS.out.2.2.1, HS.out.2.2.2.1]) HS.out.2.2.2.2 ?_
     obtain ⟨w3, hw3⟩ : ∃ w3, w3 = (w2.alloc (.cells Z16 24)).setRow w2.heap.size xs := ⟨_, rfl⟩
     obtain ⟨pb, hpb⟩ : ∃ pb, pb = w2.heap.size := ⟨_, rfl⟩
     rw [<- hw3, <- hpb]
     have H3 := hQ_ (show Blk w3 pb 24 xs /\ Blk w3 w.heap.size 24 rt /\ Blk w3 (w.heap.size + 1 + 1) 87 #[.int .i64 lf, .slice A1 n1 c1, .slice A2 n2 c2] /\ w.grownBy w3 none from by
      rw [hw3, hpb]
      have g3 := zc (World.grownBy_alloc w2 (.cells Z16 24) none) (.inl (Nat.le_refl _)) xs
      exact ⟨(Blk.new w2 24 Z16).row xs, H2'.out.1.grown g3 (by simp), H2'.out.2.1.grown g3 (by simp), za H2'.out.2.2 g3⟩)
     have c0' := H3.out.2.2.1.cell 0
     have c2' := H3.out.2.2.1.cell 2
     simp only [List.getElem?_toArray, List.getElem?_cons_zero, List.getElem?_cons_succ] at c0' c2'
     clear hw3 hpb)
  | (refine wpList_load_row rfl 24 _ rfl pb rfl 24 xs (0, 0) _ H3.out.1 Tryz.underlying24 rfl (by rw [HS.out.2.2.2.1]; exact info16) ?_))
 refine (K2.out _ H3.out.2.2.2).mono ?_
 rintro e w4 ⟨rfl, hk4⟩
 have H4 := hQ_ (aQ (H3.out.2.1.grown hk4 (by simp)) (za H3.out.2.2.2 hk4))
 clear hk4 c0' c2'
 go_wp2_with (first
  | (refine wpList_store_row rfl 24 _ _ rfl w4.heap.size ts rfl rfl 24 _ (heap_alloc_new w4 _) (by rw [HT.out.1]; exact info16) (by rw [HS.out.2.2.1, HT.out.1]) HT.out.2 ?_
     obtain ⟨w5, hw5⟩ : ∃ w5, w5 = (w4.alloc (.cells Z16 24)).setRow w4.heap.size ts := ⟨_, rfl⟩
     obtain ⟨qb, hqb⟩ : ∃ qb, qb = w4.heap.size := ⟨_, rfl⟩
     rw [<- hw5, <- hqb]
     have H5 := hQ_ (show Blk w5 qb 24 ts /\ Blk w5 w.heap.size 24 rt /\ w.grownBy w5 none from by
      rw [hw5, hqb]
      have g5 := zc (World.grownBy_alloc w4 (.cells Z16 24) none) (.inl (Nat.le_refl _)) ts
      exact ⟨(Blk.new w4 24 Z16).row ts, H4.out.1.grown g5 (by simp), za H4.out.2 g5⟩)
     clear hw5 hqb)
  | (refine ub (by rfl) 24 _ rfl qb rfl 24 ts (0, 0) _ H5.out.1 Tryz.underlying24 rfl (by rw [HT.out.1]; exact info16) ?_)
  | (refine ub (by rfl) 24 _ rfl w.heap.size rfl 24 rt (0, 0) _ H5.out.2.1 Tryz.underlying24 rfl (by rw [HS.out.1]; exact info16) ?_))
 go_ret
 exact ⟨rfl, H5.out.2.2⟩
end
section
theorem right_neg (w : World) (rt dd : Array Value) (lf : Int) (A1 A2 : Option Addr) (n1 c1 n2 c2 : Nat) (hlf : lf < 0) :
    Calls Tryz.prog 57 #[.agg rt, .agg dd, .agg (sigV lf (.slice A1 n1 c1) (.slice A2 n2 c2))] w fun e w' => e = .returned (.bool false) /\ w.grownBy w' none := by
 have h0 : decide (lf < 0) = true := by simp; omega
 have B3 := hQ_ (show Blk (((w.alloc (.cells rt 24)).alloc (.cells dd 24)).alloc (.cells #[.int .i64 lf, .slice A1 n1 c1, .slice A2 n2 c2] 87)) w.heap.size 24 rt /\ Blk (((w.alloc (.cells rt 24)).alloc (.cells dd 24)).alloc (.cells #[.int .i64 lf, .slice A1 n1 c1, .slice A2 n2 c2] 87)) (w.heap.size + 1) 24 dd /\ Blk (((w.alloc (.cells rt 24)).alloc (.cells dd 24)).alloc (.cells #[.int .i64 lf, .slice A1 n1 c1, .slice A2 n2 c2] 87)) (w.heap.size + 1 + 1) 87 #[.int .i64 lf, .slice A1 n1 c1, .slice A2 n2 c2] /\ w.grownBy (((w.alloc (.cells rt 24)).alloc (.cells dd 24)).alloc (.cells #[.int .i64 lf, .slice A1 n1 c1, .slice A2 n2 c2] 87)) none from by
  have b1 := (Blk.new (w.alloc (.cells rt 24)) 24 dd).alloc (.cells #[.int .i64 lf, .slice A1 n1 c1, .slice A2 n2 c2] 87)
  have b2 := Blk.new ((w.alloc (.cells rt 24)).alloc (.cells dd 24)) 87 #[.int .i64 lf, .slice A1 n1 c1, .slice A2 n2 c2]
  simp only [World.size_alloc] at b1 b2
  exact ⟨((Blk.new w 24 rt).alloc _).alloc _, b1, b2, za (za (World.grownBy_alloc w _ none) (gQ)) (gQ)⟩)
 simp only [sigV]
 clear hlf
 go_enter Tryz.func57, Tryz.ntmps57
 go_wp2_with fail
 go_ret
 exact ⟨rfl, B3.out.2.2.2⟩
theorem right_big (w : World) (rt dd : Array Value) (lf : Int) (A1 A2 : Option Addr) (n1 c1 n2 c2 : Nat) (hlf : 32 <= lf) :
    Calls Tryz.prog 57 #[.agg rt, .agg dd, .agg (sigV lf (.slice A1 n1 c1) (.slice A2 n2 c2))] w fun e w' => e = .returned (.bool false) /\ w.grownBy w' none := by
 have h0 : decide (lf < 0) = false := by simp; omega
 have h0b : ¬ lf < 0 := by omega
 have h1 : 31 < lf := by omega
 have B3 := hQ_ (show Blk (((w.alloc (.cells rt 24)).alloc (.cells dd 24)).alloc (.cells #[.int .i64 lf, .slice A1 n1 c1, .slice A2 n2 c2] 87)) w.heap.size 24 rt /\ Blk (((w.alloc (.cells rt 24)).alloc (.cells dd 24)).alloc (.cells #[.int .i64 lf, .slice A1 n1 c1, .slice A2 n2 c2] 87)) (w.heap.size + 1) 24 dd /\ Blk (((w.alloc (.cells rt 24)).alloc (.cells dd 24)).alloc (.cells #[.int .i64 lf, .slice A1 n1 c1, .slice A2 n2 c2] 87)) (w.heap.size + 1 + 1) 87 #[.int .i64 lf, .slice A1 n1 c1, .slice A2 n2 c2] /\ w.grownBy (((w.alloc (.cells rt 24)).alloc (.cells dd 24)).alloc (.cells #[.int .i64 lf, .slice A1 n1 c1, .slice A2 n2 c2] 87)) none from by
  have b1 := (Blk.new (w.alloc (.cells rt 24)) 24 dd).alloc (.cells #[.int .i64 lf, .slice A1 n1 c1, .slice A2 n2 c2] 87)
  have b2 := Blk.new ((w.alloc (.cells rt 24)).alloc (.cells dd 24)) 87 #[.int .i64 lf, .slice A1 n1 c1, .slice A2 n2 c2]
  simp only [World.size_alloc] at b1 b2
  exact ⟨((Blk.new w 24 rt).alloc _).alloc _, b1, b2, za (za (World.grownBy_alloc w _ none) (gQ)) (gQ)⟩)
 simp only [sigV]
 clear hlf
 go_enter Tryz.func57, Tryz.ntmps57
 go_wp2_with fail
 go_ret
 exact ⟨rfl, B3.out.2.2.2⟩
theorem right_form1 (w : World) (rt dd : Array Value) (lf : Int) (A1 A2 : Option Addr) (n1 c1 n2 c2 : Nat) (hlf : 0 <= lf /\ lf < 32) (hn : n1 ≠ 68) :
    Calls Tryz.prog 57 #[.agg rt, .agg dd, .agg (sigV lf (.slice A1 n1 c1) (.slice A2 n2 c2))] w fun e w' => e = .returned (.bool false) /\ w.grownBy w' none := by
 have h0 : decide (lf < 0) = false := by simp; omega
 have h0b : ¬ lf < 0 := by omega
 have h1 : ¬ 31 < lf := by omega
 have h1b : decide (31 < lf) = false := by simp; omega
 have h2 : ¬ ((n1 : Int) = 68) := by omega
 have B3 := hQ_ (show Blk (((w.alloc (.cells rt 24)).alloc (.cells dd 24)).alloc (.cells #[.int .i64 lf, .slice A1 n1 c1, .slice A2 n2 c2] 87)) w.heap.size 24 rt /\ Blk (((w.alloc (.cells rt 24)).alloc (.cells dd 24)).alloc (.cells #[.int .i64 lf, .slice A1 n1 c1, .slice A2 n2 c2] 87)) (w.heap.size + 1) 24 dd /\ Blk (((w.alloc (.cells rt 24)).alloc (.cells dd 24)).alloc (.cells #[.int .i64 lf, .slice A1 n1 c1, .slice A2 n2 c2] 87)) (w.heap.size + 1 + 1) 87 #[.int .i64 lf, .slice A1 n1 c1, .slice A2 n2 c2] /\ w.grownBy (((w.alloc (.cells rt 24)).alloc (.cells dd 24)).alloc (.cells #[.int .i64 lf, .slice A1 n1 c1, .slice A2 n2 c2] 87)) none from by
  have b1 := (Blk.new (w.alloc (.cells rt 24)) 24 dd).alloc (.cells #[.int .i64 lf, .slice A1 n1 c1, .slice A2 n2 c2] 87)
  have b2 := Blk.new ((w.alloc (.cells rt 24)).alloc (.cells dd 24)) 87 #[.int .i64 lf, .slice A1 n1 c1, .slice A2 n2 c2]
  simp only [World.size_alloc] at b1 b2
  exact ⟨((Blk.new w 24 rt).alloc _).alloc _, b1, b2, za (za (World.grownBy_alloc w _ none) (gQ)) (gQ)⟩)
 simp only [sigV]
 clear hlf hn
 go_enter Tryz.func57, Tryz.ntmps57
 go_wp2_with fail
 go_ret
 exact ⟨rfl, B3.out.2.2.2⟩
theorem right_form2 (w : World) (rt dd : Array Value) (lf : Int) (A1 A2 : Option Addr) (n1 c1 n2 c2 : Nat) (hlf : 0 <= lf /\ lf < 32) (hn1 : n1 = 68) (hn : n2 ≠ 5) :
    Calls Tryz.prog 57 #[.agg rt, .agg dd, .agg (sigV lf (.slice A1 n1 c1) (.slice A2 n2 c2))] w fun e w' => e = .returned (.bool false) /\ w.grownBy w' none := by
 have h0 : decide (lf < 0) = false := by simp; omega
 have h0b : ¬ lf < 0 := by omega
 have h1 : ¬ 31 < lf := by omega
 have h1b : decide (31 < lf) = false := by simp; omega
 have h3 : ¬ ((n2 : Int) = 5) := by omega
 subst hn1
 have B3 := hQ_ (show Blk (((w.alloc (.cells rt 24)).alloc (.cells dd 24)).alloc (.cells #[.int .i64 lf, .slice A1 68 c1, .slice A2 n2 c2] 87)) w.heap.size 24 rt /\ Blk (((w.alloc (.cells rt 24)).alloc (.cells dd 24)).alloc (.cells #[.int .i64 lf, .slice A1 68 c1, .slice A2 n2 c2] 87)) (w.heap.size + 1) 24 dd /\ Blk (((w.alloc (.cells rt 24)).alloc (.cells dd 24)).alloc (.cells #[.int .i64 lf, .slice A1 68 c1, .slice A2 n2 c2] 87)) (w.heap.size + 1 + 1) 87 #[.int .i64 lf, .slice A1 68 c1, .slice A2 n2 c2] /\ w.grownBy (((w.alloc (.cells rt 24)).alloc (.cells dd 24)).alloc (.cells #[.int .i64 lf, .slice A1 68 c1, .slice A2 n2 c2] 87)) none from by
  have b1 := (Blk.new (w.alloc (.cells rt 24)) 24 dd).alloc (.cells #[.int .i64 lf, .slice A1 68 c1, .slice A2 n2 c2] 87)
  have b2 := Blk.new ((w.alloc (.cells rt 24)).alloc (.cells dd 24)) 87 #[.int .i64 lf, .slice A1 68 c1, .slice A2 n2 c2]
  simp only [World.size_alloc] at b1 b2
  exact ⟨((Blk.new w 24 rt).alloc _).alloc _, b1, b2, za (za (World.grownBy_alloc w _ none) (gQ)) (gQ)⟩)
 simp only [sigV]
 clear hlf hn
 go_enter Tryz.func57, Tryz.ntmps57
 go_wp2_with fail
 go_ret
 exact ⟨rfl, B3.out.2.2.2⟩
theorem right_ok (w : World) (rt dd : Array Value) (hrt : rt.size = 16) (hdd : dd.size = 16) (lf : Int) (hlf : 0 <= lf /\ lf < 32) (A1 A2 : Option Addr) (c1 c2 : Nat) (xs ts : Array Value) (r : Bool) (hq : ∀ V, Sem.run Tryz.prog (Op.equalIn 10000 24 (.agg ts) (.agg rt)) V = .ok r V)
    (H1 : ∀ z, w.grownBy z none -> Calls Tryz.prog 80 #[.int .i64 lf, .slice A1 68 c1, .agg dd] z fun e w' => e = .returned (.agg xs) /\ z.grownBy w' none)
    (H2 : ∀ z, w.grownBy z none -> Calls Tryz.prog 79 #[.agg xs, .int .i64 lf, .slice A2 5 c2] z fun e w' => e = .returned (.agg ts) /\ z.grownBy w' none) :
    Calls Tryz.prog 57 #[.agg rt, .agg dd, .agg (sigV lf (.slice A1 68 c1) (.slice A2 5 c2))] w fun e w' => e = .returned (.bool r) /\ w.grownBy w' none := by
 have h0 : decide (lf < 0) = false := by simp; omega
 have h0b : ¬ lf < 0 := by omega
 have h1 : ¬ 31 < lf := by omega
 have h1b : decide (31 < lf) = false := by simp; omega
 have B3 := hQ_ (show Blk (((w.alloc (.cells rt 24)).alloc (.cells dd 24)).alloc (.cells #[.int .i64 lf, .slice A1 68 c1, .slice A2 5 c2] 87)) w.heap.size 24 rt /\ Blk (((w.alloc (.cells rt 24)).alloc (.cells dd 24)).alloc (.cells #[.int .i64 lf, .slice A1 68 c1, .slice A2 5 c2] 87)) (w.heap.size + 1) 24 dd /\ Blk (((w.alloc (.cells rt 24)).alloc (.cells dd 24)).alloc (.cells #[.int .i64 lf, .slice A1 68 c1, .slice A2 5 c2] 87)) (w.heap.size + 1 + 1) 87 #[.int .i64 lf, .slice A1 68 c1, .slice A2 5 c2] /\ w.grownBy (((w.alloc (.cells rt 24)).alloc (.cells dd 24)).alloc (.cells #[.int .i64 lf, .slice A1 68 c1, .slice A2 5 c2] 87)) none from by
  have b1 := (Blk.new (w.alloc (.cells rt 24)) 24 dd).alloc (.cells #[.int .i64 lf, .slice A1 68 c1, .slice A2 5 c2] 87)
  have b2 := Blk.new ((w.alloc (.cells rt 24)).alloc (.cells dd 24)) 87 #[.int .i64 lf, .slice A1 68 c1, .slice A2 5 c2]
  simp only [World.size_alloc] at b1 b2
  exact ⟨((Blk.new w 24 rt).alloc _).alloc _, b1, b2, za (za (World.grownBy_alloc w _ none) (gQ)) (gQ)⟩)
 simp only [sigV]
 have HS := hQ_ (aQ hrt hdd)
 have K1 := hQ_ H1
 have K2 := hQ_ H2
 clear H1 H2 hrt hdd hlf
 go_enter Tryz.func57, Tryz.ntmps57
 go_wp2_with fail
 obtain ⟨w3, hw3⟩ : ∃ w3, w3 = ((w.alloc (.cells rt 24)).alloc (.cells dd 24)).alloc (.cells #[.int .i64 lf, .slice A1 68 c1, .slice A2 5 c2] 87) := ⟨_, rfl⟩
 rw [<- hw3]
 have H3 := hQ_ (show Blk w3 w.heap.size 24 rt /\ Blk w3 (w.heap.size + 1) 24 dd /\ Blk w3 (w.heap.size + 1 + 1) 87 #[.int .i64 lf, .slice A1 68 c1, .slice A2 5 c2] /\ w.grownBy w3 none by rw [hw3]; exact B3.out)
 clear hw3
 have g0 := Gr.cell (H3.out.2.2.1.cell 0)
 have g1 := Gr.cell (H3.out.2.2.1.cell 1)
 have g2 := Gr.cell (H3.out.2.2.1.cell 2)
 have V1 := hQ_ (show ∀ z : Gr w3, Sem.run Tryz.prog (Instr.loadAt 24 (.pointer (some ⟨w.heap.size, 0, none⟩))) z.1 = .ok (.agg rt) z.1 from fun z => zd9 _ rt HS.out.1 z.1 (H3.out.1.grown z.2 (by simp)))
 have V2 := hQ_ (show ∀ z : Gr w3, Sem.run Tryz.prog (Instr.loadAt 24 (.pointer (some ⟨w.heap.size + 1, 0, none⟩))) z.1 = .ok (.agg dd) z.1 from fun z => zd9 _ dd HS.out.2 z.1 (H3.out.2.1.grown z.2 (by simp)))
 have S1 := hQ_ (show ∀ z : Gr w3, _ from fun z => K1.out z.1 (za H3.out.2.2.2 z.2))
 have S2 := hQ_ (show ∀ z : Gr w3, _ from fun z => K2.out z.1 (za H3.out.2.2.2 z.2))
 refine zj (by kernel_rfl) (by kernel_rfl) ?_
 repeat (first
  | (refine zy 24 _ ⟨w.heap.size, 0, none⟩ (.agg rt) (by rfl) rfl rfl (by rintro _ ⟨z, rfl⟩; exact V1.out z) ?_; simp only [Act.put, List.setIfInBounds_toArray, List.set_cons_zero, List.set_cons_succ])
  | (refine zy 24 _ ⟨w.heap.size + 1, 0, none⟩ (.agg dd) (by rfl) rfl rfl (by rintro _ ⟨z, rfl⟩; exact V2.out z) ?_; simp only [Act.put, List.setIfInBounds_toArray, List.set_cons_zero, List.set_cons_succ])
  | go_big_quiet_step (first
  | (go_at_call 80; with_reducible exact Calls.grown _ (S1.out _))
  | (go_at_call 79; with_reducible exact Calls.grown _ (S2.out _))))
 refine wpQuiet_nil ?_
 rintro w7 ⟨⟨_, k7⟩, rfl⟩
 clear g0 g1 g2
 go_wp2_with fail
 go_ret
 exact ⟨rfl, za H3.out.2.2.2 k7⟩
end
section
theorem eqD (w : World) (l1 l2 : List Int) (h1 : l1.length = 16) (h2 : l2.length = 16) : Sem.run Tryz.prog (Op.equalIn 10000 24 (.agg (arrV .u8 l1)) (.agg (arrV .u8 l2))) w = .ok (decide (l1 = l2)) w :=
 eq_arr w 9998 Tryz.underlying24 (by kernel_rfl) Tryz.underlying5 (by kernel_rfl) (by kernel_rfl) l1 l2 h1 h2
theorem zcd {w : World} {b o : Nat} {x : Vd} (h : w.rangeAt b o x.cells) : w.rangeAt b o (x.key.map (Value.int .u8)) := fun j v hv => h j v (by
 have hj := (List.getElem?_eq_some_iff.1 hv).1
 rw [Vd.cells, List.getElem?_append_left hj]; exact hv)
theorem zc4 {w : World} {b o : Nat} {x : Vd} (hx : x.key.length = 16) (h : w.rangeAt b o x.cells) : w.cell? ⟨b, o + 16, none⟩ = some (.int .i64 x.p) := h 16 _ (by
 rw [Vd.cells, List.getElem?_append_right (by simp [hx])]; simp [hx])
theorem range_new (w : World) (cs : List Value) (t : TypeId) : (w.alloc (.cells cs.toArray t)).rangeAt w.heap.size 0 cs := fun j v hv => by
 rw [Nat.zero_add, (Blk.new w t cs.toArray).cell]; simpa using hv
theorem zcy {l : List Int} (h : l.length = 16) : (Tryz.prog.info? 24).map (·.size) = some (l.map (Value.int .u8)).length := by rw [List.length_map, h]; kernel_rfl
theorem vdSize {x : Vd} (h : x.key.length = 16) : (Tryz.prog.info? 55).map (·.size) = some x.cells.length := by rw [Vd.cells_length h]; kernel_rfl
theorem find1_is (w : World) (x : Vd) (hx : x.key.length = 16) (B : Nat) (key : List Int) (hk : key.length = 16) (hB : w.rangeAt B 0 (key.map (Value.int .u8))) :
    Calls Tryz.prog 50 #[x.val, .pointer (some ⟨B, 0, none⟩)] w fun e w' => e = .returned (.bool (decide (x.key = key))) /\ w.grownBy w' none := by
 obtain ⟨kx, hkx⟩ : ∃ kx, kx = x.key.map (Value.int .u8) := ⟨_, rfl⟩
 obtain ⟨ky, hky⟩ : ∃ ky, ky = key.map (Value.int .u8) := ⟨_, rfl⟩
 have heq : ∀ w, Sem.run Tryz.prog (Op.equalIn 10000 24 (.agg kx.toArray) (.agg ky.toArray)) w = .ok (decide (x.key = key)) w := fun w => by rw [hkx, hky]; exact eqD w x.key key hx hk
 have i1 := zcy hx
 have i2 := zcy hk
 rw [<- hkx] at i1
 rw [<- hky] at i2 hB
 have r1 := zcd (range_new w x.cells 55)
 rw [<- hkx] at r1
 have r2 : (w.alloc (.cells x.cells.toArray 55)).rangeAt B 0 ky := ze hB (World.grownBy_alloc w _ none)
 obtain ⟨r, hr⟩ : ∃ r, r = decide (x.key = key) := ⟨_, rfl⟩
 rw [<- hr] at heq ⊢
 have HG := hQ_ (World.grownBy_alloc w (.cells x.cells.toArray 55) none)
 have HI := hQ_ (aQ i1 i2)
 have HR := hQ_ (aQ r1 r2)
 clear i1 i2 r1 r2 hB hkx hky hr hx hk
 go_enter Tryz.func50, Tryz.ntmps50
 go_wp2_with (first
  | (refine wpList_load_mid rfl 24 _ rfl w.heap.size 0 rfl kx _ HR.out.1 Tryz.underlying24 rfl HI.out.1 ?_)
  | (refine wpList_load_mid rfl 24 _ rfl B 0 rfl ky _ HR.out.2 Tryz.underlying24 rfl HI.out.2 ?_))
 go_ret
 exact ⟨rfl, HG.out⟩
def findS (key : List Int) : List Vd -> Int
 | [] => -1
 | x :: V => if x.key = key then 0 else if findS key V = -1 then -1 else findS key V + 1
def keysOk (V : List Vd) : Prop := ∀ x ∈ V, x.key.length = 16
theorem findS_nonneg (key : List Int) : ∀ V : List Vd, findS key V = -1 \/ (0 <= findS key V /\ findS key V < V.length)
 | [] => .inl rfl
 | x :: V => by
  rw [findS]
  by_cases h : x.key = key
  · rw [if_pos h]; right; simp
  · rw [if_neg h]
    rcases findS_nonneg key V with h1 | h1
    · rw [if_pos h1]; exact .inl rfl
    · rw [if_neg (by omega)]; right; simp only [List.length_cons]; omega
theorem zc1 (key : List Int) : ∀ (V : List Vd) (k : Nat), (∀ j (h : j < V.length), j < k -> V[j].key ≠ key) -> k <= V.length -> findS key V = if findS key (V.drop k) = -1 then -1 else findS key (V.drop k) + k
 | V, 0, _, _ => by simp
 | [], k + 1, _, hk => by simp at hk
 | x :: V, k + 1, h, hk => by
  have h0 : x.key ≠ key := h 0 (by simp) (by omega)
  have ih := zc1 key V k (fun j hj hjk => h (j + 1) (by simpa using hj) (by omega)) (by simpa using hk)
  rw [findS, if_neg h0, List.drop_succ_cons, ih]
  rcases findS_nonneg key (V.drop k) with e | ⟨e1, e2⟩
  · simp [e]
  · rw [if_neg (by omega), if_neg (by omega)]; omega
theorem findS_at {key : List Int} {V : List Vd} {k : Nat} (hk : k < V.length) (h : ∀ j (h : j < V.length), j < k -> V[j].key ≠ key) (e : V[k].key = key) : findS key V = k := by
 rw [zc1 key V k h (by omega), List.drop_eq_getElem_cons hk, findS, if_pos e]; simp
theorem findS_none {key : List Int} {V : List Vd} (h : ∀ j (h : j < V.length), V[j].key ≠ key) : findS key V = -1 := by
 rw [zc1 key V V.length (fun j hj _ => h j hj) (by omega)]; simp [findS]
theorem indexf_is (w : World) (A : Option Addr) (c : Nat) (V : List Vd) (hV : VdsAt w A V) (ok : keysOk V) (hl : V.length < 1000) (B : Nat) (key : List Int) (hk : key.length = 16) (hB : w.rangeAt B 0 (key.map (Value.int .u8))) :
    Calls Tryz.prog 49 #[.slice A V.length c, .func (.func 50) #[] #[.pointer (some ⟨B, 0, none⟩)]] w fun e w' => e = .returned (.int .i64 (findS key V)) /\ w.grownBy w' none := by
 go_enter Tryz.func49, Tryz.ntmps49
 go_wp2_with fail
 go_loopw [8] (fun i wr => ∃ k : Nat, k <= V.length /\ i = .int .i64 (k : Int) /\ (∀ j (h : j < V.length), j < k -> V[j].key ≠ key) /\ w.grownBy wr none) (fun i _ => V.length - (intOf i).toNat)
 case atStart => exact ⟨0, by omega, rfl, fun j _ h => absurd h (by omega), World.grownBy.refl w none⟩
 case round =>
  obtain ⟨k, hkl, hi, hno, hK⟩ := hrel
  obtain ⟨I, hI⟩ : ∃ I : Int, I = (k : Int) := ⟨_, rfl⟩
  rw [<- hI] at hi
  subst hi
  by_cases hlt : k < V.length
  · have hne : V ≠ [] := by rintro rfl; simp at hlt
    obtain ⟨b, off, rfl, hc⟩ := hV hne
    have d1 : decide (I < (V.length : Int)) = true := by simp; omega
    have hIV : I < (V.length : Int) := by omega
    have hI0 : 0 <= I /\ I < 1000 := by omega
    have hkI : I.toNat = k := by omega
    have r1 := ze (hc k hlt) hK
    have hx := ok _ (List.getElem_mem hlt)
    obtain ⟨x, hxe⟩ : ∃ x, x = V[k] := ⟨_, rfl⟩
    rw [<- hxe] at r1 hx
    rw [<- hkI] at r1
    have i1 := vdSize hx
    have HR := hQ_ (aQ r1 (show ∃ h : k < V.length, x = V[k] from ⟨hlt, hxe⟩))
    have HI := hQ_ (aQ i1 hx)
    have HN := hQ_ (aQ hno (aQ hK (aQ hl hI)))
    clear r1 hxe i1 hx hno hc ok hne hK hV hkl hl hI hkI
    go_wp2_with (refine wpList_load_mid rfl 55 _ rfl b (off + I.toNat * 17) rfl x.cells _ HR.out.1 Tryz.underlying55 rfl HI.out.1 ?_)
    refine (find1_is _ x HI.out.2 B key hk (ze hB HN.out.2.1)).mono ?_
    rintro e w1 ⟨rfl, hk1⟩
    by_cases he : x.key = key
    · rw [show decide (x.key = key) = true by simpa using he]
      have HE := hQ_ he
      clear he
      go_wp2_with fail
      go_ret
      obtain ⟨h1, h3, h2⟩ := HR.out
      refine ⟨?_, za HN.out.2.1 hk1⟩
      rw [findS_at h3 HN.out.1 (by rw [<- h2]; exact HE.out), <- HN.out.2.2.2]
      rfl
    · rw [show decide (x.key = key) = false by simpa using he]
      have HE := hQ_ he
      clear he
      go_wp2_with fail
      go_roundw
      case rel =>
       obtain ⟨h1, h3, h2⟩ := HR.out
       refine ⟨k + 1, by omega, by rw [HN.out.2.2.2]; rfl, fun j hj hjk => ?_, za HN.out.2.1 hk1⟩
       by_cases hjk' : j < k
       · exact HN.out.1 j hj hjk'
       · obtain rfl : j = k := by omega
         rw [<- h2]; exact HE.out
      case measure => have := HN.out.2.2.2; simp [intOf]; omega
  · have d1 : decide (I < (V.length : Int)) = false := by simp; omega
    have HN := hQ_ (aQ hno (aQ hK (aQ hkl hlt)))
    clear hno hK hkl hlt hI
    go_wp2_with fail
    go_ret
    refine ⟨?_, HN.out.2.1⟩
    rw [findS_none (fun j hj => HN.out.1 j hj (by have := HN.out.2.2.2; omega))]
    rfl
theorem find_is (w : World) (A : Option Addr) (c : Nat) (V : List Vd) (hV : VdsAt w A V) (ok : keysOk V) (hl : V.length < 1000) (key : List Int) (hk : key.length = 16) :
    Calls Tryz.prog 35 #[.slice A V.length c, .agg (arrV .u8 key)] w fun e w' => e = .returned (.int .i64 (findS key V)) /\ w.grownBy w' none := by
 obtain ⟨ky, hky⟩ : ∃ ky, ky = arrV .u8 key := ⟨_, rfl⟩
 rw [<- hky]
 have HK := hQ_ hky
 have hR : ∀ W, (w.alloc (.cells ky 24)).grownBy W none -> W.rangeAt w.heap.size 0 (key.map (Value.int .u8)) := fun W hW => by
  refine ze ?_ hW
  rw [hky]
  exact range_new w (key.map (Value.int .u8)) 24
 have HW := hQ_ hR
 clear hky hR
 have HG := hQ_ (World.grownBy_alloc w (.cells ky 24) none)
 go_enter Tryz.func35, Tryz.ntmps35
 go_wp2_with fail
 refine (indexf_is _ A c V (hV.grown HG.out) ok hl w.heap.size key hk (HW.out _ (World.grownBy.refl _ _))).mono ?_
 rintro e w1 ⟨rfl, hk1⟩
 go_wp2_with fail
 go_ret
 exact ⟨rfl, za HG.out hk1⟩
end
section
def okAt (V : List Vd) (k : Nat) : Bool := match V[k]? with
 | none => false
 | some x => !decide (x.p < 1) && !decide (1099511627776 < x.p) && decide (findS x.key V = (k : Int))
def rightS (V : List Vd) : Bool := decide (1 <= V.length) && decide (V.length <= 7) && (List.range V.length).all (okAt V)
theorem ud (V : List Vd) : rightS V = true ↔ (1 <= V.length /\ V.length <= 7) /\ ∀ k (h : k < V.length), 1 <= V[k].p /\ V[k].p <= 1099511627776 /\ findS V[k].key V = (k : Int) := by
 simp only [rightS, Bool.and_eq_true, decide_eq_true_eq, List.all_eq_true, List.mem_range]
 refine and_congr_right fun _ => forall_congr' fun k => ⟨fun h hk => ?_, fun h hk => ?_⟩
 · have := h hk
   simp only [okAt, List.getElem?_eq_getElem hk, Bool.and_eq_true, Bool.not_eq_true', decide_eq_false_iff_not, decide_eq_true_eq] at this
   exact ⟨by omega, by omega, this.2⟩
 · simp only [okAt, List.getElem?_eq_getElem hk, Bool.and_eq_true, Bool.not_eq_true', decide_eq_false_iff_not, decide_eq_true_eq]
   have := h hk
   exact ⟨⟨by omega, by omega⟩, this.2.2⟩
theorem zbr {P : Program} {t : TypeId} {v : Value} (w : World) (h : (P.info? t).bind (·.zero) = some v) : Sem.run P (zeroValue t) w = .ok v w := by
 cases hq : P.info? t with
 | none => simp [hq] at h
 | some i =>
  have h1 : i.zero = some v := by simpa [hq] using h
  simp [zeroValue, typeInfo, hq, h1]
theorem uf {P : Program} {ops : Array Oper} {rest : List Oper} {op : Oper} {a : Act} {w : World} {Q : Exit -> Act -> World -> Prop} (hw : Region.wanted op (yielded ops a.tmps) = true) (ty : TypeId) (x : Operand) (ho : op.op = .load ty x)
    (b o : Nat) (hx : a.eval x = .pointer (some ⟨b, o, none⟩)) (cs : List Value) (d : TypeDesc) (hc : w.rangeAt b o cs)
    (hu : P.underlying ty = some d) (hd : d.isRow = true) (hi : (P.info? ty).map (·.size) = some cs.length)
    (h : wpList P ops Q rest (a.put op.dst (.agg cs.toArray)) w) : wpList P ops Q (op :: rest) a w :=
 BigFrame.wpList_want hw fun _ hK => wp_load_mid ty x ho b o hx cs d hc hu hd hi (hK _ _ h)
theorem u6 (w : World) (A : Option Addr) (c B : Nat) (V : List Vd) (es : Addr) (hV : VdsAt w A V) (ok : keysOk V) (hl : V.length < 1000) (he : ErrAt w B 10 es) :
    Calls Tryz.prog 19 #[.slice A V.length c] w fun e w' => w.grownBy w' none /\ ((rightS V = true /\ e = .returned .nilIface) \/ (rightS V = false /\ e = .returned (errV es))) := by
 by_cases h7 : 1 <= V.length /\ V.length <= 7
 · have g1 : ¬ (V.length : Int) < 1 := by omega
   have g2 : ¬ (7 : Int) < (V.length : Int) := by omega
   have g3 : (1 : Int) <= (V.length : Int) := by omega
   have g4 : (V.length : Int) <= 7 := by omega
   obtain ⟨zs, hzs⟩ : ∃ zs : Array Value, zs = (List.replicate 16 (Value.int .u8 0) ++ [Value.int .i64 0]).toArray := ⟨_, rfl⟩
   have hz : ∀ w, Sem.run Tryz.prog (zeroValue 55) w = .ok (.agg zs) w := fun w => by rw [hzs]; exact zbr w (by kernel_rfl)
   have HZ := hQ_ hzs
   clear hzs
   go_enter Tryz.func19, Tryz.ntmps19
   go_wp2_with fail
   go_loopw [16] (fun i wr => ∃ k : Nat, k <= V.length /\ i = .int .i64 (k : Int) /\ (∀ j (h : j < V.length), j < k -> 1 <= V[j].p /\ V[j].p <= 1099511627776 /\ findS V[j].key V = (j : Int)) /\ w.grownBy wr none) (fun i _ => V.length - (intOf i).toNat)
   case atStart => exact ⟨0, by omega, rfl, fun j _ h => absurd h (by omega), World.grownBy.refl w none⟩
   case round =>
    obtain ⟨k, hkl, hi, hno, hK⟩ := hrel
    obtain ⟨I, hI⟩ : ∃ I : Int, I = (k : Int) := ⟨_, rfl⟩
    rw [<- hI] at hi
    subst hi
    by_cases hlt : k < V.length
    · have hne : V ≠ [] := by rintro rfl; simp at hlt
      obtain ⟨b, off, rfl, hc⟩ := hV hne
      have d1 : decide (I < (V.length : Int)) = true := by simp; omega
      have hIV : I < (V.length : Int) := by omega
      have hI0 : 0 <= I /\ I < 1000 := by omega
      have hkI : I.toNat = k := by omega
      have r1 := ze (hc k hlt) hK
      have hx := ok _ (List.getElem_mem hlt)
      obtain ⟨x, hxe⟩ : ∃ x, x = V[k] := ⟨_, rfl⟩
      rw [<- hxe] at r1 hx
      rw [<- hkI] at r1
      have i1 := vdSize hx
      have HR := hQ_ (aQ r1 (show ∃ h : k < V.length, x = V[k] from ⟨hlt, hxe⟩))
      have HI := hQ_ (aQ i1 hx)
      have HN := hQ_ (aQ hno (aQ hK (aQ hl hI)))
      have HV := hQ_ (aQ hV (aQ ok he))
      obtain ⟨cs, hcs⟩ : ∃ cs, cs = x.cells.toArray := ⟨_, rfl⟩
      have hsz : cs.size = 17 := by rw [hcs, List.size_toArray, Vd.cells_length hx]
      have hall : (cs.all fun v => v.oneCell') = true := by rw [hcs]; simp [Vd.cells, Value.oneCell']
      have hW : ∀ W, W = (wr.alloc (.cells zs 55)).setRow wr.heap.size cs -> wr.grownBy W none /\ W.rangeAt wr.heap.size 0 (x.key.map (Value.int .u8)) /\ W.cell? ⟨wr.heap.size, 16, none⟩ = some (.int .i64 x.p) := fun W e => by
       have hb := (Blk.new wr 55 zs).row cs
       rw [<- e] at hb
       have hr : W.rangeAt wr.heap.size 0 x.cells := fun j v hv => by
        rw [Nat.zero_add, hb.cell, hcs]; simpa using hv
       refine ⟨?_, zcd hr, by simpa using zc4 hx hr⟩
       rw [e]
       exact zc (World.grownBy_alloc wr _ none) (.inl (Nat.le_refl _)) cs
      have HC := hQ_ (aQ hcs (aQ hsz (aQ hall (show (Tryz.prog.info? 55).map (·.size) = some cs.size by rw [hsz]; kernel_rfl))))
      have HW := hQ_ hW
      have HK := hQ_ (zcy hx)
      obtain ⟨p, hp⟩ : ∃ p, p = x.p := ⟨_, rfl⟩
      rw [<- hp] at HW
      have HP := hQ_ hp
      clear r1 hxe i1 hx hno hc ok hne hK hV hkl hl hI hkI he hcs hsz hall hW hp
      have HF := hQ_ (show ∀ W, wr.grownBy W none -> W.cell? ⟨10, 0, none⟩ = some (errV es) from fun W hW => ((HV.out.2.2.grown HN.out.2.1 (fun _ e => by cases e)).grown hW (fun _ e => by cases e)).1)
      have HNot := hQ_ (show (p < 1 \/ 1099511627776 < p \/ ¬ findS x.key V = I) -> rightS V = false from fun h => by
       cases hr : rightS V with
       | false => rfl
       | true =>
        obtain ⟨h1, h3, h2⟩ := HR.out
        obtain ⟨q1, q2, q3⟩ := ((ud V).1 hr).2 k h3
        rw [<- h2] at q1 q2 q3
        have hp := HP.out
        have hI := HN.out.2.2.2
        exfalso; omega)
      by_cases p1 : p < 1
      · have p1' : decide (p < 1) = true := by simpa using p1
        have hnot := hQ_ (HNot.out (.inl p1))
        clear p1
        go_wp2_with (first
         | (refine wpList_load_mid rfl 55 _ rfl b (off + I.toNat * 17) rfl x.cells _ HR.out.1 Tryz.underlying55 rfl HI.out.1 ?_; rw [<- HC.out.1])
         | (refine wpList_store_row rfl 55 _ _ rfl wr.heap.size cs rfl rfl 55 _ (heap_alloc_new wr _) HC.out.2.2.2 (by rw [HC.out.2.1, HZ.out]; simp) HC.out.2.2.1 ?_
            obtain ⟨W0, hW0⟩ : ∃ W0, W0 = (wr.alloc (.cells zs 55)).setRow wr.heap.size cs := ⟨_, rfl⟩
            rw [<- hW0]
            have c16 := (HW.out W0 hW0).2.2
            have e16 := HF.out W0 (HW.out W0 hW0).1
            have HG := hQ_ (HW.out W0 hW0).1
            clear hW0))
        go_ret
        exact ⟨za HN.out.2.1 HG.out, .inr ⟨hnot.out, rfl⟩⟩
      · have p1' : decide (p < 1) = false := by simpa using p1
        have p1'' : 1 <= p := by omega
        by_cases p2 : 1099511627776 < p
        · have p2' : decide (1099511627776 < p) = true := by simpa using p2
          have hnot := hQ_ (HNot.out (.inr (.inl p2)))
          clear p1
          go_wp2_with (first
           | (refine wpList_load_mid rfl 55 _ rfl b (off + I.toNat * 17) rfl x.cells _ HR.out.1 Tryz.underlying55 rfl HI.out.1 ?_; rw [<- HC.out.1])
           | (refine wpList_store_row rfl 55 _ _ rfl wr.heap.size cs rfl rfl 55 _ (heap_alloc_new wr _) HC.out.2.2.2 (by rw [HC.out.2.1, HZ.out]; simp) HC.out.2.2.1 ?_
              obtain ⟨W0, hW0⟩ : ∃ W0, W0 = (wr.alloc (.cells zs 55)).setRow wr.heap.size cs := ⟨_, rfl⟩
              rw [<- hW0]
              have c16 := (HW.out W0 hW0).2.2
              have e16 := HF.out W0 (HW.out W0 hW0).1
              have HG := hQ_ (HW.out W0 hW0).1
              clear hW0))
          go_ret
          exact ⟨za HN.out.2.1 HG.out, .inr ⟨hnot.out, rfl⟩⟩
        · have p2' : decide (1099511627776 < p) = false := by simpa using p2
          have p2'' : p <= 1099511627776 := by omega
          have HP2 := hQ_ (aQ p1 p2)
          clear p1 p2
          go_wp2_with (first
           | (refine wpList_load_mid rfl 55 _ rfl b (off + I.toNat * 17) rfl x.cells _ HR.out.1 Tryz.underlying55 rfl HI.out.1 ?_; rw [<- HC.out.1])
           | (refine uf (by rfl) 24 _ rfl wr.heap.size 0 rfl (x.key.map (Value.int .u8)) _ HG.out.2.1 Tryz.underlying24 rfl HK.out ?_)
           | (refine wpList_store_row rfl 55 _ _ rfl wr.heap.size cs rfl rfl 55 _ (heap_alloc_new wr _) HC.out.2.2.2 (by rw [HC.out.2.1, HZ.out]; simp) HC.out.2.2.1 ?_
              obtain ⟨W0, hW0⟩ : ∃ W0, W0 = (wr.alloc (.cells zs 55)).setRow wr.heap.size cs := ⟨_, rfl⟩
              rw [<- hW0]
              have c16 := (HW.out W0 hW0).2.2
              have HG := hQ_ (HW.out W0 hW0)
              clear hW0))
          refine (find_is W0 (some ⟨b, off, none⟩) c V ((HV.out.1.grown HN.out.2.1).grown HG.out.1) HV.out.2.1 HN.out.2.2.1 x.key HI.out.2).mono ?_
          rintro e w1 ⟨rfl, hk1⟩
          obtain ⟨f, hf⟩ : ∃ f, f = findS x.key V := ⟨_, rfl⟩
          rw [<- hf]
          by_cases hfk : f = I
          · have f1 : (f != I) = false := by simpa using hfk
            have HFK := hQ_ (aQ hf hfk)
            have HK1 := hQ_ hk1
            clear hf hfk hk1 c16
            go_wp2_with fail
            go_roundw
            case rel =>
             obtain ⟨h1, h3, h2⟩ := HR.out
             have hI := HN.out.2.2.2
             obtain ⟨q1, q2⟩ := HFK.out
             obtain ⟨z1, z2⟩ := HP2.out
             have hp := HP.out
             refine ⟨k + 1, by omega, by rw [hI]; rfl, fun j hj hjk => ?_, za (za HN.out.2.1 HG.out.1) HK1.out⟩
             by_cases hjk' : j < k
             · exact HN.out.1 j hj hjk'
             · obtain rfl : j = k := by omega
               rw [<- h2]; omega
            case measure => have := HN.out.2.2.2; simp [intOf]; omega
          · have f1 : (f != I) = true := by simpa using hfk
            have hnot := hQ_ (HNot.out (.inr (.inr (by rw [<- hf]; exact hfk))))
            have e16 := HF.out w1 (za HG.out.1 hk1)
            have HK1 := hQ_ hk1
            clear hf hfk hk1 c16
            go_wp2_with fail
            go_ret
            exact ⟨za (za HN.out.2.1 HG.out.1) HK1.out, .inr ⟨hnot.out, rfl⟩⟩
    · have d1 : decide (I < (V.length : Int)) = false := by simp; omega
      have HN := hQ_ (aQ hno (aQ hK (aQ hkl hlt)))
      have H7 := hQ_ h7
      clear hno hK hkl hlt hI h7
      go_wp2_with fail
      go_ret
      exact ⟨HN.out.2.1, .inl ⟨(ud V).2 ⟨H7.out, fun j hj => HN.out.1 j hj (by have := HN.out.2.2.2; omega)⟩, rfl⟩⟩
 · have hnot : rightS V = false := by
     cases hr : rightS V with
     | false => rfl
     | true => exact absurd ((ud V).1 hr).1 h7
   have HNot := hQ_ hnot
   have e16 := he.1
   by_cases h1 : 1 <= V.length
   · have g3 : (1 : Int) <= (V.length : Int) := by omega
     have g4 : (7 : Int) < (V.length : Int) := by omega
     clear hnot h7 h1 he hV ok
     go_enter Tryz.func19, Tryz.ntmps19
     go_wp2_with fail
     go_ret
     exact ⟨World.grownBy.refl w none, .inr ⟨HNot.out, rfl⟩⟩
   · have g3 : (V.length : Int) < 1 := by omega
     clear hnot h7 h1 he hV ok
     go_enter Tryz.func19, Tryz.ntmps19
     go_wp2_with fail
     go_ret
     exact ⟨World.grownBy.refl w none, .inr ⟨HNot.out, rfl⟩⟩
end
end Go.Proofs.YtigafnbofmiknaaGreatDoor
