/- ShOf, Ev, Wire, Law, Arr -/
import Derived.Test.YtigafnbofmiknaaGreatDoorW20c
import Derived.Deep.MidRow
import Derived.Test.YtigafnbofmiknaaGreatDoorW20a
import Derived.Deep.QuietTactic
import Derived.BigQuiet
import Derived.Deep.RegionWith
import Derived.ProofKit
import Derived.OpenShut
namespace Go.Proofs.YtigafnbofmiknaaGreatDoor
set_option maxRecDepth 100000
set_option maxHeartbeats 10000000
open Go.RowKit
section
def partS (s : HS) (p : List Int) : HS := writeS (writeS s (wordB ((p.length : Int) % 4294967296))) p
def zel (a0 : Int) (ps : List (List Int)) : HS := ps.foldl partS (writeS startS [a0 % 256])
def ofS (a0 : Int) (ps : List (List Int)) : List Int := (digS (zel a0 ps)).take 16
theorem zag (a0 : Int) (ps : List (List Int)) : (ofS a0 ps).length = 16 := by rw [ofS, List.length_take, zat]; rfl
theorem partS_n (s : HS) (p : List Int) : (partS s p).n = s.n + 4 + p.length := by rw [partS, uj, uj]; rfl
theorem ze3 : ∀ (L : List (List Int)) (s : HS), (∀ p ∈ L, p.length <= 65536) -> (L.foldl partS s).n <= s.n + L.length * 65540
 | [], s, _ => by simp
 | p :: L, s, h => by
  have ih := ze3 L (partS s p) (fun q hq => h q (by simp [hq]))
  have h1 := h p (by simp)
  rw [partS_n] at ih
  simp only [List.foldl_cons, List.length_cons]
  omega
def PartsI (w : World) (A : Option Addr) (ps : List (List Int)) : Prop := ∀ j, j < ps.length -> ∃ ad B m c, A = some ad /\ w.cell? (ad.add j) = some (.slice B m c) /\ (ps.getD j []).length = m /\ m <= c /\ BytesI w B (ps.getD j [])
theorem BytesI.grown {w w' : World} {A : Option Addr} {x : List Int} (h : BytesI w A x) (hg : w.grownBy w' none) : BytesI w' A x := fun hne => by
 obtain ⟨ad, rfl, hc⟩ := h hne
 exact ⟨ad, rfl, fun j hj => hg.cell (hc j hj) (by simp)⟩
theorem PartsI.grown {w w' : World} {A : Option Addr} {ps : List (List Int)} (h : PartsI w A ps) (hg : w.grownBy w' none) : PartsI w' A ps := fun j hj => by
 obtain ⟨ad, B, m, c, e, h1, h2, h3, h4⟩ := h j hj
 exact ⟨ad, B, m, c, e, hg.cell h1 (by simp), h2, h3, h4.grown hg⟩
theorem BytesI.lt {w : World} {A : Option Addr} {x : List Int} (h : BytesI w A x) (ad : Addr) (e : A = some ad) (hne : x ≠ []) : ad.block < w.heap.size := by
 obtain ⟨ad', e', hc⟩ := h hne
 rw [e] at e'
 obtain rfl := Option.some.inj e'
 have h0 := World.block_lt_of_cell? w _ (hc 0 (List.length_pos_iff.2 hne))
 rwa [yk] at h0
theorem zcr {α : Type} (x : List α) (k : Nat) (d : α) (h : k < x.length) : x.take (k + 1) = x.take k ++ [x.getD k d] := by
 rw [List.take_add_one, List.getD, List.getElem?_eq_getElem h]; rfl
theorem arrayAt_run (w : World) (a : Addr) : Sem.run Tryz.prog (Instr.arrayAt 24 (.slice (some a) 16 32)) w = .ok (.pointer (some a)) w := by
 simp [Instr.arrayAt, run_underlying Tryz.underlying24]
theorem z16b : arrV .u8 (List.replicate 16 0) = #[.int .u8 0, .int .u8 0, .int .u8 0, .int .u8 0, .int .u8 0, .int .u8 0, .int .u8 0, .int .u8 0, .int .u8 0, .int .u8 0, .int .u8 0, .int .u8 0, .int .u8 0, .int .u8 0, .int .u8 0, .int .u8 0] := by kernel_rfl
theorem z4b : arrV .u8 (List.replicate 4 0) = #[.int .u8 0, .int .u8 0, .int .u8 0, .int .u8 0] := by kernel_rfl
theorem of_is (w : World) (hR : Rounds w) (a0 : Int) (A : Option Addr) (n c : Nat) (ps : List (List Int)) (hn : ps.length = n) (hP : PartsI w A ps) (hn64 : n <= 64) (hps : ∀ p ∈ ps, p.length <= 65536) :
    Calls Tryz.prog 52 #[.int .i64 a0, .slice A n c] w fun e w' => e = .returned (.agg (arrV .u8 (ofS a0 ps))) /\ w.grownBy w' none := by
 obtain ⟨C0, hC0⟩ : ∃ C0, C0 = hash0 := ⟨_, rfl⟩
 have hz : ∀ w, Sem.run Tryz.prog (zeroValue 161) w = .ok (.agg C0) w := fun w => by rw [hC0]; exact zd0 w
 have HZ := hQ_ (show C0.size = 73 by rw [hC0]; rfl)
 have HX := hQ_ (aQ hP (aQ hn (aQ hn64 hps)))
 have HR := hQ_ hR
 clear hC0 hP hn hn64 hps hR
 go_enter Tryz.func52, Tryz.ntmps52
 go_wp2_with fail
 rw [<- z16b]
 have HB0 := hQ_ (Blk.new w 24 (arrV .u8 (List.replicate 16 0)))
 have HG0 := hQ_ (World.grownBy_alloc w (.cells (arrV .u8 (List.replicate 16 0)) 24) none)
 generalize w.alloc (.cells (arrV .u8 (List.replicate 16 0)) 24) = w0 at *
 refine (start_is w0).mono ?_
 rintro e w1 ⟨rfl, hk1⟩
 obtain ⟨cs, hcs⟩ : ∃ cs, cs = hashV startS.ws startS.bs 0 := ⟨_, rfl⟩
 rw [<- hcs]
 have hsz : cs.size = 73 := by rw [hcs]; exact zdr _ _ _ rfl rfl
 have HI := hQ_ (show (Tryz.prog.info? 161).map (·.size) = some cs.size by rw [hsz]; exact zds)
 have HO := hQ_ (show (cs.all fun x => x.oneCell') = true by rw [hcs]; exact zei _ _ _)
 have HS := hQ_ hsz
 have HC := hQ_ hcs
 have HB1 := hQ_ (HB0.out.grown hk1 (by simp))
 have HG1 := hQ_ (za HG0.out hk1)
 have HLT := hQ_ (aQ HB1.out.lt HG1.out.size)
 clear hsz hcs hk1 HB0 HG0
 go_wp2_with (refine wpList_store_row rfl 161 _ _ rfl w1.heap.size cs rfl rfl 161 _ (heap_alloc_new w1 _) HI.out (by rw [HS.out]; exact HZ.out) HO.out ?_)
 have hH2 : HashIs ((w1.alloc (.cells C0 161)).setRow w1.heap.size cs) w1.heap.size startS := ⟨by have := Blk.row (Blk.new w1 161 C0) cs; rw [HC.out] at this ⊢; exact this, rfl, rfl⟩
 have hB2 := Blk.farRow (HB1.out.alloc (.cells C0 161)) (Nat.ne_of_lt HB1.out.lt) cs
 have hG2 := zc (za HG1.out (World.grownBy_alloc w1 (.cells C0 161) none)) (g := w1.heap.size) (.inl HG1.out.size) cs
 have hs2 : ((w1.alloc (.cells C0 161)).setRow w1.heap.size cs).heap.size = w1.heap.size + 1 := by rw [setRow_size, World.size_alloc]
 generalize (w1.alloc (.cells C0 161)).setRow w1.heap.size cs = w2 at *
 rw [<- hs2]
 have hA3 := Blk.new w2 5 (arrV .u8 [a0 % 256])
 have hG3 := World.grownBy_alloc w2 (.cells (arrV .u8 [a0 % 256]) 5) none
 generalize hw3 : w2.alloc (.cells #[.int .u8 (a0 % 256)] 5) = w3
 rw [show w2.alloc (.cells (arrV .u8 [a0 % 256]) 5) = w3 from hw3] at hA3 hG3
 clear hw3 HI HO HS HC HB1 HG1 hz HZ
 refine (zaf w3 w1.heap.size startS (hH2.grown hG3 (by simp)) (by have := HLT.out.1; have := HR.out.lt; omega) ((HR.out.grown hG2 (by simp)).grown hG3 (by simp)) (some ⟨w2.heap.size, 0, none⟩) 1 1 [a0 % 256] rfl (BytesI.blk hA3 (fun j hj => by simp at hj; subst hj; simp)) (fun ad e _ => by obtain rfl := Option.some.inj e; exact fun h => by simp at h; omega) (Nat.le_refl _) (by show 0 + 1 <= _; omega)).mono ?_
 rintro e w4 ⟨rfl, hH4, hk4⟩
 have HH4 := hQ_ hH4
 have HB4 := hQ_ ((hB2.grown hG3 (by simp)).grown hk4 (by intro e; have := Option.some.inj e; have := HLT.out.1; omega))
 have HG4 := hQ_ (za4 (za hG2 hG3) hk4 HLT.out.2)
 clear hH2 hB2 hG2 hs2 hA3 hG3 hH4 hk4
 go_wp2_with fail
 go_loopw [17] (fun i wr => ∃ k : Nat, k <= n /\ i = .int .i64 (k : Int) /\ HashIs wr w1.heap.size ((ps.take k).foldl partS (writeS startS [a0 % 256])) /\ Blk wr w.heap.size 24 (arrV .u8 (List.replicate 16 0)) /\ w.grownBy wr none) (fun i _ => n - (intOf i).toNat)
 case atStart => exact ⟨0, by omega, rfl, HH4.out, HB4.out, HG4.out⟩
 case round =>
  obtain ⟨k, hk, hi, hH, hB, hK⟩ := hrel
  obtain ⟨I, hI⟩ : ∃ I : Int, I = (k : Int) := ⟨_, rfl⟩
  rw [<- hI] at hi
  subst hi
  by_cases hlt : k < n
  · have d1 : decide (I < (n : Int)) = true := by simp; omega
    obtain ⟨ad, B, m, c', rfl, hcell, hpl, hmc, hpb⟩ := HX.out.1 k (by rw [HX.out.2.1]; exact hlt)
    obtain ⟨p, hp⟩ : ∃ p, p = ps.getD k [] := ⟨_, rfl⟩
    rw [<- hp] at hpl hpb
    have hpm : m <= 65536 := by
     have : p ∈ ps := by rw [hp, List.getD, List.getElem?_eq_getElem (by rw [HX.out.2.1]; exact hlt)]; exact List.getElem_mem _
     have := HX.out.2.2.2 p this
     omega
    have hkI : I.toNat = k := by omega
    have hcy : wr.cell? (ad.add I.toNat) = some (.slice B m c') := by rw [hkI]; exact hK.cell hcell (by simp)
    have hx0 : 0 <= I /\ I < (n : Int) := by omega
    have hbound : ((ps.take k).foldl partS (writeS startS [a0 % 256])).n <= 1 + k * 65540 := by
     have := ze3 (ps.take k) (writeS startS [a0 % 256]) (fun q hq => HX.out.2.2.2 q (List.mem_of_mem_take hq))
     rw [List.length_take, HX.out.2.1, Nat.min_eq_left hk] at this
     rw [show (writeS startS [a0 % 256]).n = 1 from by rw [uj]; rfl] at this
     exact this
    have hnext : (ps.take (k + 1)).foldl partS (writeS startS [a0 % 256]) = writeS (writeS ((ps.take k).foldl partS (writeS startS [a0 % 256])) (wordB ((m : Int) % 4294967296))) p := by
     rw [zcr ps k [] (by rw [HX.out.2.1]; exact hlt), List.foldl_append, <- hp, <- hpl]; rfl
    obtain ⟨s, hs⟩ : ∃ s, s = (ps.take k).foldl partS (writeS startS [a0 % 256]) := ⟨_, rfl⟩
    rw [<- hs] at hH hnext hbound
    have HI := hQ_ (aQ hI (aQ hlt (aQ hkI (aQ hbound (aQ hpm hnext)))))
    have HP := hQ_ (aQ hpl (aQ hmc hpb))
    have HH := hQ_ hH
    have HB := hQ_ hB
    have HK := hQ_ hK
    have HX0 := hQ_ hx0
    have hsa : ∀ w b, Sem.run Tryz.prog (Instr.sliceAt 164 (.pointer (some ⟨b, 0, none⟩)) none none none) w = .ok (.slice (some ⟨b, 0, none⟩) 4 4) w := fun w b => zce (P := Tryz.prog) (w := w) (b := b) (o := 0) (t := 164) Tryz.underlying164 (by kernel_rfl)
    clear hI hlt hkI hbound hpm hnext hpl hmc hpb hH hB hK hcell hs hp hk
    go_wp2_with fail
    rw [<- z4b]
    have hA3 := Blk.new wr 164 (arrV .u8 (List.replicate 4 0))
    have hG3 := World.grownBy_alloc wr (.cells (arrV .u8 (List.replicate 4 0)) 164) none
    have HLK := hQ_ (show w1.heap.size < wr.heap.size from HH.out.1.lt)
    have hsw : wr.heap.size < (wr.alloc (.cells (arrV .u8 (List.replicate 4 0)) 164)).heap.size := by rw [World.size_alloc]; omega
    generalize wr.alloc (.cells (arrV .u8 (List.replicate 4 0)) 164) = w3 at *
    refine (put_is w3 wr.heap.size 0 4 4 164 (List.replicate 4 0) ((m : Int) % 4294967296) hA3 (by simp) (Nat.le_refl _)).mono ?_
    rintro e w4 ⟨rfl, hA4, hk4⟩
    have hH4 := (HH.out.grown hG3 (by simp)).grown hk4 (by intro e; have := Option.some.inj e; have := HLK.out; omega)
    have hB4 := (HB.out.grown hG3 (by simp)).grown hk4 (by intro e; have := Option.some.inj e; have := HB.out.lt; omega)
    have hK4 := za4 (za HK.out hG3) hk4 HK.out.size
    have HH4 := hQ_ hH4
    have HA4 := hQ_ hA4
    have HB4 := hQ_ hB4
    have HK4 := hQ_ hK4
    clear hA3 hG3 hsw hA4 hk4 hH4 hB4 hK4
    go_wp2_with fail
    refine (zaf w4 w1.heap.size _ HH4.out (by have := HLT.out.1; have := HR.out.lt; omega) (HR.out.grown HK4.out (by simp)) (some ⟨wr.heap.size, 0, none⟩) 4 4 (wordB ((m : Int) % 4294967296)) rfl (BytesI.blk HA4.out (fun j hj => by
        have : j < 4 := hj
        refine ⟨by rw [vy, List.length_replicate]; omega, ?_⟩
        have : j = 0 \/ j = 1 \/ j = 2 \/ j = 3 := by omega
        rcases this with rfl | rfl | rfl | rfl <;> rfl)) (fun ad e _ => by obtain rfl := Option.some.inj e; exact fun h => by have := HLK.out; simp at h; omega) (Nat.le_refl _) (by have := HI.out; have := HX.out.2.2.1; omega)).mono ?_
    rintro e w5 ⟨rfl, hH5, hk5⟩
    have HH5 := hQ_ hH5
    have HB5 := hQ_ (HB4.out.grown hk5 (by intro e; have := Option.some.inj e; have := HLT.out.1; omega))
    have HK5 := hQ_ (za4 HK4.out hk5 HLT.out.2)
    clear hH5 hk5 HH4 HA4 HB4 HK4
    go_wp2_with fail
    refine (zaf w5 w1.heap.size _ HH5.out (by have := HLT.out.1; have := HR.out.lt; omega) (HR.out.grown HK5.out (by simp)) B m c' p HP.out.1 (HP.out.2.2.grown HK5.out) (fun ad e hne => by
        have h1 := HP.out.2.2.lt ad e hne
        have h2 := HLT.out.2
        omega) HP.out.2.1 (by rw [uj]; have := HI.out; have := HX.out.2.2.1; show _ + 4 + m <= _; omega)).mono ?_
    rintro e w6 ⟨rfl, hH6, hk6⟩
    have HH6 := hQ_ hH6
    have HB6 := hQ_ (HB5.out.grown hk6 (by intro e; have := Option.some.inj e; have := HLT.out.1; omega))
    have HK6 := hQ_ (za4 HK5.out hk6 HLT.out.2)
    clear hH6 hk6 HH5 HB5 HK5 hsa
    go_wp2_with fail
    go_roundw
    case rel =>
     obtain ⟨hI, hlt, hkI, hbound, hpm, hnext⟩ := HI.out
     have := HX.out.2.2.1
     exact ⟨k + 1, by omega, by rw [hI, w64 _ ⟨by omega, by omega⟩]; rfl, by rw [hnext]; exact HH6.out, HB6.out, HK6.out⟩
    case measure => obtain ⟨hI, hlt, hkI, _⟩ := HI.out; have := HX.out.2.2.1; simp only [intOf]; rw [w64 _ ⟨by omega, by omega⟩]; omega
  · have d1 : decide (I < (n : Int)) = false := by simp; omega
    obtain rfl : k = n := by omega
    rw [List.take_of_length_le (by rw [HX.out.2.1]; exact Nat.le_refl _)] at hH
    have hbound : (ps.foldl partS (writeS startS [a0 % 256])).n <= 1073741824 := by
     have := ze3 ps (writeS startS [a0 % 256]) HX.out.2.2.2
     rw [HX.out.2.1, show (writeS startS [a0 % 256]).n = 1 from by rw [uj]; rfl] at this
     have := HX.out.2.2.1
     omega
    have HH := hQ_ hH
    have HB := hQ_ hB
    have HK := hQ_ hK
    have HBD := hQ_ hbound
    clear hI hlt hk hH hB hK hbound
    go_wp2_with fail
    refine (sum_isK20 wr w1.heap.size _ HH.out (HR.out.grown HK.out (by simp)) HBD.out).mono ?_
    rintro e w5 ⟨rfl, hk5⟩
    obtain ⟨ds, hds⟩ : ∃ ds, ds = arrV .u8 (digS (zel a0 ps)) := ⟨_, rfl⟩
    rw [show arrV .u8 (digS (ps.foldl partS (writeS startS [a0 % 256]))) = ds from hds.symm]
    have hsz : ds.size = 32 := by rw [hds, zf, zat]
    have HI3 := hQ_ (show (Tryz.prog.info? 113).map (·.size) = some ds.size by rw [hsz]; exact info32)
    have HS3 := hQ_ (aQ hsz (show (ds.all fun x => x.oneCell') = true by rw [hds]; exact zu _ _))
    have HD := hQ_ hds
    have HB5 := hQ_ (HB.out.grown hk5 (by simp))
    have HK5 := hQ_ (za HK.out hk5)
    clear hsz hds hk5
    obtain ⟨c6, hc6⟩ : ∃ c6, c6 = arrV .u8 (ofS a0 ps) := ⟨_, rfl⟩
    have hs16 : c6.size = 16 := by rw [hc6, zf, zag]
    have HI6 := hQ_ (show (Tryz.prog.info? 24).map (·.size) = some c6.size by rw [hs16]; kernel_rfl)
    have HI6' := hQ_ (show (Tryz.prog.info? 24).map (·.size) = some c6.toList.length by rw [Array.length_toList, hs16]; kernel_rfl)
    have HS6 := hQ_ (aQ hs16 (aQ (show (c6.all fun x => x.oneCell') = true by rw [hc6]; exact zu _ _) hc6))
    have HB7 := hQ_ (fun o => Blk.row (Blk.new w5 113 o) ds)
    have HB8 := hQ_ (fun o => Blk.farRow (HB5.out.alloc o) (Nat.ne_of_lt HB5.out.lt) ds)
    have HR7 := hQ_ (show ∀ o, World.rangeAt ((w5.alloc (.cells o 113)).setRow w5.heap.size ds) w5.heap.size 0 c6.toList from fun o j v hv => by
     have hj : j < 16 := by
      have := (List.getElem?_eq_some_iff.1 hv).1
      rw [Array.length_toList, HS6.out.1] at this
      exact this
     rw [Nat.zero_add, (HB7.out o).cell, HD.out, yr (by rw [zat]; omega)]
     rw [HS6.out.2.2] at hv
     simp only [List.getElem?_map, ofS, List.getElem?_take, if_pos hj] at hv
     rw [<- hv]
     simp [List.getD, List.getElem?_eq_getElem (show j < (digS (zel a0 ps)).length by rw [zat]; omega)])
    clear hs16 hc6
    have hst : ∀ w b, Sem.run Tryz.prog (Instr.sliceAt 113 (.pointer (some ⟨b, 0, none⟩)) none (some (.int .i64 16)) none) w = .ok (.slice (some ⟨b, 0, none⟩) 16 32) w := fun w b =>
     slice_to (P := Tryz.prog) (w := w) (b := b) (o := 0) (q := 16) (t := 113) Tryz.underlying113 (by kernel_rfl) (by omega)
    have haa : ∀ w a, Sem.run Tryz.prog (Instr.arrayAt 24 (.slice (some a) 16 32)) w = .ok (.pointer (some a)) w := fun w a => arrayAt_run w a
    go_wp2_with (first
     | (refine wpList_store_row rfl 113 _ _ rfl w5.heap.size ds rfl rfl 113 _ (heap_alloc_new w5 _) HI3.out (by rw [HS3.out.1]; simp) HS3.out.2 ?_)
     | (refine wpList_load_mid rfl 24 _ rfl w5.heap.size 0 rfl c6.toList _ (HR7.out _) Tryz.underlying24 rfl HI6'.out ?_; rw [Array.toArray_toList])
     | (refine wpList_store_row rfl 24 _ _ rfl w.heap.size c6 rfl rfl 24 _ (HB8.out _) HI6.out (by rw [HS6.out.1]; simp [arrV]) HS6.out.2.1 ?_))
    refine bodyPost_ret (z5 rfl _ _ _ ⟨w.heap.size, 0, none⟩ (.agg c6) rfl (run_loadVar_row _ w.heap.size 24 24 c6 (0, 0) _ ((HB8.out _).row c6) Tryz.underlying24 rfl HI6.out)) rfl ?_
    exact ⟨by rw [HS6.out.2.2], zc (zc (za HK5.out (World.grownBy_alloc w5 _ none)) (.inl HK5.out.size) ds) (.inl (Nat.le_refl _)) c6⟩
end
section
abbrev errV (a : Addr) : Value := .iface 234 (.pointer (some a))
def ErrAt (w : World) (B k : Nat) (a : Addr) : Prop := w.cell? ⟨k, 0, none⟩ = some (errV a) /\ k < B
theorem ErrAt.below {w w' : World} {B B' k : Nat} {a : Addr} (h : ErrAt w B k a) (hb : Below B' w w') (hB : B <= B') : ErrAt w' B k a :=
 ⟨(hb.cell (p := ⟨k, 0, none⟩) (Nat.lt_of_lt_of_le h.2 hB)).trans h.1, h.2⟩
theorem ErrAt.grown {w w' : World} {B k : Nat} {a : Addr} {row : Option Nat} (h : ErrAt w B k a) (hb : w.grownBy w' row) (hr : ∀ g, row = some g -> B <= g) : ErrAt w' B k a :=
 ⟨hb.cell h.1 (by intro e; have := hr k e.symm; have := h.2; omega), h.2⟩
def evOf (E : Nat -> Addr) : Nat -> Value
 | 0 => .nilIface
 | k + 1 => errV (E k)
end
section
theorem zdg : (Tryz.prog.info? 5).map (fun i => (i.zero, i.size, i.bytes)) = some (some (.int .u8 0), 1, 1) := by kernel_rfl
def WrIs (w : World) (F : Nat -> Prop) (g : Nat) (ev : Value) (l : List UInt8) : Prop :=
 F g /\ ∃ bA bc, Blk w g 198 #[ev, .slice bA l.length bc] /\ w.ownsRow 0 5 1 (.slice bA l.length bc) l.length (Lib.byteCells l) /\ ∀ ad, bA = some ad -> F ad.block
theorem WrIs.mono {w : World} {F G : Nat -> Prop} {g : Nat} {ev : Value} {l : List UInt8} (h : WrIs w F g ev l) (hF : ∀ k, k < w.heap.size -> F k -> G k) : WrIs w G g ev l := by
 obtain ⟨hg, bA, bc, hb, hown, hA⟩ := h
 exact ⟨hF g hb.lt hg, bA, bc, hb, hown, by rintro ad rfl; exact hF _ (hown.lt ad.block rfl).2 (hA ad rfl)⟩
theorem own_in {F : Nat -> Prop} {A : Option Addr} {n c k : Nat} (hF : ∀ ad, A = some ad -> F ad.block) (h : (Value.slice A n c).ownBlock = some k) : F k := by
 rcases A with _ | ad
 · simp [Value.ownBlock] at h
 · have : ad.block = k := by simpa [Value.ownBlock] using h
   rw [<- this]; exact hF ad rfl
theorem write_ok (w : World) (F : Nat -> Prop) (g : Nat) (l : List UInt8) (A : Option Addr) (m c : Nat) (x : List UInt8) (hm : x.length = m) (hw : WrIs w F g .nilIface l) (hx : zt w A x)
    (hn : l.length + x.length <= 140737488355328) :
    Calls Tryz.prog 126 #[.pointer (some ⟨g, 0, none⟩), .slice A m c] w fun e w' => e = .returned (.tuple #[]) /\ WrIs w' (upTo F w.heap.size w'.heap.size) g .nilIface (l ++ x) /\ Kept F w w' := by
 subst hm
 obtain ⟨hBg, bA, bc, hb, hown, hF⟩ := hw
 obtain ⟨i0, hi, hz0, hz1, hz2⟩ := info_parts zdg
 have c0 := hb.cell 0
 have c1 := hb.cell 1
 simp at c0 c1
 go_enter Tryz.func126, Tryz.ntmps126
 go_wp2_with (at_builtin; refine uk _ rfl _ _ 81 rfl 0 5 i0 (.int .u8 0) Tryz.underlying81 hi hz0 hz1 hz2 rfl _ _ _ rfl hown A c x rfl hx hn (Nat.zero_le _) ?_)
 intro A' cap' w1 hown1 hgrow hat
 have hb1 : Blk w1 g 198 #[.nilIface, .slice bA l.length bc] := hb.grown hgrow (own_ne hown hb (by decide)).symm
 have d1 := hb1.cell 1
 have f1 := hb1.frozen 1
 simp at d1
 go_wp2
 go_end0
 refine ⟨rfl, ⟨.inl hBg, A', cap', ?_, ?_, ?_⟩, (Kept.of_grown hgrow fun k hk => own_in hF hk).set (.inl hBg) _⟩
 · have := hb1.set 1 (.slice A' (l.length + x.length) cap')
   simpa [List.length_append] using this
 · have := zcw hown1 hb1 (by decide) 1 (.slice A' (l.length + x.length) cap')
   rw [Lib.byteCells_append, List.length_append]
   exact this
 · rintro ad rfl
   have hlt := (hown1.lt ad.block rfl).2
   rcases hat with h | h
   · exact .inl (own_in hF h.symm)
   · have : ad.block = w.heap.size := by simpa [Value.ownBlock] using h
     exact .inr ⟨by omega, by simpa [World.setCell] using hlt⟩
theorem write_err (w : World) (F : Nat -> Prop) (g : Nat) (t : TypeId) (v : Value) (l : List UInt8) (A : Option Addr) (n c : Nat) (hw : WrIs w F g (.iface t v) l) :
    Calls Tryz.prog 126 #[.pointer (some ⟨g, 0, none⟩), .slice A n c] w fun e w' => e = .returned (.tuple #[]) /\ w = w' := by
 obtain ⟨hBg, bA, bc, hb, hown, hF⟩ := hw
 have c0 := hb.cell 0
 simp at c0
 go_enter Tryz.func126, Tryz.ntmps126
 go_wp2
 go_end0
 exact ⟨rfl, rfl⟩
def be : Nat -> Nat -> List UInt8
 | 0, _ => []
 | k + 1, n => UInt8.ofNat (n / 256 ^ k) :: be k n
theorem WrIs.alloc {w : World} {F : Nat -> Prop} {g : Nat} {ev : Value} {l : List UInt8} (h : WrIs w F g ev l) (o : Obj) : WrIs (w.alloc o) F g ev l := by
 obtain ⟨hBg, bA, bc, hb, hown, hF⟩ := h
 exact ⟨hBg, bA, bc, hb.alloc o, hown.alloc o, hF⟩
theorem zau : ∀ k n, (be k n).length = k
 | 0, _ => rfl
 | k + 1, n => by simp [be, zau k n]
theorem pow256 (k : Nat) : (2 : Nat) ^ (8 * k) = 256 ^ k := by rw [Nat.pow_mul]
theorem zc7 (n k : Nat) : (n : Int) / 2 ^ (8 * k) = ((n / 256 ^ k : Nat) : Int) := by
 rw [<- pow256]; simp
theorem u8_shr (n k : Nat) : Value.int .u8 ((n : Int) / 2 ^ (8 * k) % 256) = .int .u8 ((UInt8.ofNat (n / 256 ^ k)).toNat : Nat) := by
 rw [zc7]; congr 1
theorem shr_zero {n k : Nat} (h : n < 256 ^ k) : (n : Int) / 2 ^ (8 * k) = 0 := by
 rw [zc7, Nat.div_eq_of_lt h]; rfl
theorem number_ok (w : World) (F : Nat -> Prop) (g : Nat) (l : List UInt8) (n width : Nat) (hw : WrIs w F g .nilIface l)
    (h1 : 1 <= width) (h8 : width <= 8) (hn : n < 256 ^ width) (hl : l.length <= 70368744177664) :
    Calls Tryz.prog 106 #[.pointer (some ⟨g, 0, none⟩), .int .i64 (n : Int), .int .i64 (width : Int)] w fun e w' => e = .returned (.tuple #[]) /\ WrIs w' (upTo F w.heap.size w'.heap.size) g .nilIface (l ++ be width n) /\ Kept F w w' := by
 have a1 : decide ((width : Int) < 1) = false := by simp; omega
 have a2 : decide ((8 : Int) < (width : Int)) = false := by simp; omega
 have a3 : decide ((n : Int) < 0) = false := by simp
 have a4 : (((n : Int) / 2 ^ (8 * width)) != 0) = false := by rw [shr_zero hn]; rfl
 go_enter Tryz.func106, Tryz.ntmps106
 go_wp2_with fail
 go_loopw [6] (fun i wr => ∃ k done, k <= width /\ done ++ be k n = be width n /\ i = .int .i64 ((k : Int) - 1) /\ WrIs wr (upTo F w.heap.size wr.heap.size) g .nilIface (l ++ done) /\ Kept F w wr) (fun i _ => (intOf i + 1).toNat)
 case atStart => exact ⟨width, [], Nat.le_refl _, rfl, rfl, by simpa using hw.mono fun k _ h => .inl h, Kept.refl _ _⟩
 case round =>
  obtain ⟨k, done, hk, hd, hi, hwr, hbel⟩ := hrel
  rcases k with _ | k
  · subst hi
    go_wp2_with fail
    go_end0
    refine ⟨rfl, ?_, hbel⟩
    rw [<- hd]
    simpa [be] using hwr
  · have hi' := hi.trans (show Value.int .i64 (((k + 1 : Nat) : Int) - 1) = .int .i64 (k : Int) by congr 1; omega)
    clear hi
    subst hi'
    have hsz := hbel.size
    have hdl : done.length <= 8 := by have := congrArg List.length hd; rw [List.length_append, zau, zau] at this; omega
    have Hd := hQ_ hd
    clear hd
    go_wp2_with fail
    refine (write_ok _ _ g (l ++ done) _ 1 _ [UInt8.ofNat (n / 256 ^ k)] rfl (hwr.alloc _) (zt.one _ (u8_shr n k)) ?_).mono ?_
    · simp; omega
    rintro e w1 ⟨rfl, hwr1, hbel1⟩
    have hsz1 := hbel1.size
    simp at hsz1
    go_wp2_with fail
    go_roundw
    case rel => exact ⟨k, done ++ [UInt8.ofNat (n / 256 ^ k)], by omega, by rw [<- Hd.out]; simp [be], by go_num, by simpa using hwr1.mono fun k _ h => upTo_alloc hsz hsz1 k (by simpa using h), (hbel.alloc _).trans (hbel1.mono fun k _ h => by simpa using upTo_more hsz k h)⟩
    case measure => simp [intOf]
/-! ### Fail, and the Writer in the state 'error' -/
theorem zeo (w : World) (g : Nat) (t u : TypeId) (v x : Value) (hb : Blk w g t #[.nilIface, x]) :
    Calls Tryz.prog 125 #[.pointer (some ⟨g, 0, none⟩), .iface u v] w fun e w' => e = .returned (.tuple #[]) /\ w' = w.setCell ⟨g, 0, none⟩ (.iface u v) := by
 have c0 := hb.cell 0
 have f0 := hb.frozen 0
 simp at c0
 go_enter Tryz.func125, Tryz.ntmps125
 go_wp2
 go_end0
 exact ⟨rfl, rfl⟩
theorem zen (w : World) (g : Nat) (t u : TypeId) (v x y : Value) (hb : Blk w g t #[.iface u v, x]) :
    Calls Tryz.prog 125 #[.pointer (some ⟨g, 0, none⟩), y] w fun e w' => e = .returned (.tuple #[]) /\ w = w' := by
 have c0 := hb.cell 0
 simp at c0
 go_enter Tryz.func125, Tryz.ntmps125
 go_wp2
 go_end0
 exact ⟨rfl, rfl⟩
theorem WrIs.drew {w : World} {F : Nat -> Prop} {g : Nat} {ev : Value} {l : List UInt8} (h : WrIs w F g ev l) : WrIs w.drew F g ev l := h
theorem WrIs.failed {w : World} {F : Nat -> Prop} {g : Nat} {ev u : Value} {l : List UInt8} (h : WrIs w F g ev l) : WrIs (w.setCell ⟨g, 0, none⟩ u) F g u l := by
 obtain ⟨hBg, bA, bc, hb, hown, hF⟩ := h
 exact ⟨hBg, bA, bc, by simpa using hb.set 0 u, zcw hown hb (by decide) 0 u, hF⟩
theorem WrIs.grown {w w' : World} {F : Nat -> Prop} {g : Nat} {ev : Value} {l : List UInt8} (h : WrIs w F g ev l) (hg : w.grownBy w' none) : WrIs w' F g ev l := by
 obtain ⟨hBg, bA, bc, hb, hown, hF⟩ := h
 exact ⟨hBg, bA, bc, hb.grown hg (by simp), hown.kept hg (by cases hv : (Value.slice bA l.length bc).ownBlock <;> simp), hF⟩
theorem WrIs.kept {w w' : World} {F G : Nat -> Prop} {g : Nat} {ev : Value} {l : List UInt8} (h : WrIs w F g ev l) (hk : Kept G w w') (hn : ∀ k, F k -> ¬ G k) : WrIs w' F g ev l := by
 obtain ⟨hBg, bA, bc, hb, hown, hF⟩ := h
 exact ⟨hBg, bA, bc, hb.kept hk (hn g hBg), zee hown hk fun k hk => hn k (own_in hF hk), hF⟩
def badNum (n width : Int) : Bool := decide (width < 1) || decide (8 < width) || decide (n < 0) || ((n / 2 ^ (8 * width.toNat)) != 0)
theorem badNum_cases {n width : Int} (h : badNum n width = true) :
    decide (width < 1) = true \/ (decide (width < 1) = false /\ decide (8 < width) = true) \/ (decide (width < 1) = false /\ decide (8 < width) = false /\ decide (n < 0) = true) \/
    ∃ k m : Nat, width = (k : Int) /\ n = (m : Int) /\ decide ((k : Int) < 1) = false /\ decide ((8 : Int) < (k : Int)) = false /\ k <= 8 /\ (((m : Int) / 2 ^ (8 * k)) != 0) = true := by
 unfold badNum at h
 cases h1 : decide (width < 1)
 · cases h2 : decide (8 < width)
   · cases h3 : decide (n < 0)
     · have e1 : ((width.toNat : Nat) : Int) = width := by simp at h1; omega
       have e2 : ((n.toNat : Nat) : Int) = n := by simp at h3; omega
       refine .inr (.inr (.inr ⟨width.toNat, n.toNat, e1.symm, e2.symm, ?_, ?_, ?_, ?_⟩))
       · rw [e1]; exact h1
       · rw [e1]; exact h2
       · simp at h2; omega
       · rw [e2]; simpa [h1, h2, h3] using h
     · exact .inr (.inr (.inl ⟨rfl, rfl, rfl⟩))
   · exact .inr (.inl ⟨rfl, rfl⟩)
 · exact .inl rfl
theorem number_bad (w : World) (F : Nat -> Prop) (B0 g : Nat) (l : List UInt8) (a : Addr) (n width : Int) (hw : WrIs w F g .nilIface l) (he : ErrAt w B0 0 a) (hbad : badNum n width = true) :
    Calls Tryz.prog 106 #[.pointer (some ⟨g, 0, none⟩), .int .i64 n, .int .i64 width] w fun e w' => e = .returned (.tuple #[]) /\ WrIs w' F g (errV a) l /\ w.grownBy w' (some g) := by
 have hw' := hw
 obtain ⟨hBg, bA, bc, hb, hown, hF⟩ := hw'
 have hr := he.1
 have Hw := hQ_ hw
 rcases badNum_cases hbad with a1 | ⟨a1, a2⟩ | ⟨a1, a2, a3⟩ | ⟨k, m, rfl, rfl, a1, a2, a3, a4⟩
 all_goals
  clear hbad
  go_enter Tryz.func106, Tryz.ntmps106
  go_wp2_with fail
  go_region_with (go_at_call 125; refine (zeo _ g 198 _ _ (.slice bA l.length bc) ?_).mono ?_; exact hb.drew; rintro e w1 ⟨rfl, rfl⟩)
  all_goals
   go_wp2
   first | go_end0 | refine bodyPost_ret (results_none rfl _ _ _) rfl ?_
   exact ⟨rfl, Hw.out.failed, grown_set _ _⟩
end
section
open Go.ChangeShapes Go.WideShapes Go.ChangeAt Go.RowKit
theorem laid_out : laidOutB Tryz.prog = true := by kernel_rfl
section
variable {H : Type} {enc : TypeId × Value -> H} {W W' : World}
theorem trodAll_below : ∀ {ts : List TypeId} {vs : List Value} {ds : List (DataW H)} {ps : List MemPlace}, (∀ t ∈ ts, Tryz.prog.readableRec t = true /\ t < Tryz.prog.types.size) ->
    DataW.TrodAll enc Tryz.prog W 0 (fun _ => true) true ts vs ds ps -> Below W.heap.size W W' -> (∀ x ∈ ps, x.block < W.heap.size) ->
    DataW.TrodAll enc Tryz.prog W' 0 (fun b => decide (b < W.heap.size)) true ts vs ds ps
 | [], [], [], _, _, h, _, _ => h
 | _ :: _, _ :: _, _ :: _, _, hT, ⟨p, q, h1, h2, e⟩, hb, hlt =>
  ⟨p, q, Below.trod laid_out (hT _ (by simp)).1 (hT _ (by simp)).2 h1 hb (fun x hx => hlt x (by rw [e]; exact List.mem_append_left _ hx)),
   trodAll_below (fun t ht => hT t (by simp [ht])) h2 hb (fun x hx => hlt x (by rw [e]; exact List.mem_append_right _ hx)), e⟩
theorem law_post {f : Func} {s : ChangeSpec} {args : Array Value} {ds gs : List (DataW H)} {before : List MemPlace}
    (hW : DataW.Whole enc Tryz.prog f.params.toList s.vars false W args.toList ds gs before) (hv : s.vars = [])
    (hfn : s.fn H (ds ++ gs) = { results := [.lit (.bool true)], args := ds }) (hres : f.resultTypes = #[4])
    (hT : (f.params.toList.all fun t => Tryz.prog.readableRec t && decide (t < Tryz.prog.types.size)) = true) (hb : Below W.heap.size W W') :
    s.post enc Tryz.prog f false true false false W args (.bool true) W' := by
 have hW' := hW
 obtain ⟨p, q, hA, hV, rfl, hfz, hnd⟩ := hW'
 have hlt : ∀ x ∈ p ++ q, x.block < W.heap.size := fun x hx => hW.lt x hx
 have hT' : ∀ t ∈ f.params.toList, Tryz.prog.readableRec t = true /\ t < Tryz.prog.types.size := fun t ht => by
  have := List.all_eq_true.1 hT t ht
  simpa using this
 refine ⟨ds, gs, p ++ q, [], p, [], hW, ?_, ?_, ?_, hb.frame _, fun h => by cases h⟩
 · rw [hfn, hres]; exact trodAll_mk1 (shut_bool Tryz.underlying4 true)
 · rw [hfn]; exact trodAll_below hT' hA hb (fun x hx => hlt x (List.mem_append_left _ hx))
 · rw [hv, hfn]; rfl
end
end
section
open Go.ChangeShapes Go.WideShapes Go.ChangeAt Go.RowKit
section
variable {H : Type} {enc : TypeId × Value -> H} {P : Program} {w : World} {base : Nat} {spare : Nat -> Bool} {held : Bool} {fuel : Nat}
def numV : Value -> Int
 | .int _ n => n
 | _ => 0
theorem um {t e : TypeId} {n : Nat} {q : IntKind} {cs : List Value} {x : DataW H × List MemPlace} (ht : P.underlying t = some (.array n e)) (he : P.underlying e = some (.int q)) (hce : P.cellsOf e = 1) (hct : P.cellsOf t = n)
    (h : DataW.trod enc P w base spare held fuel t cs = some x) :
    ∃ l : List Int, cs = l.map (Value.int q) /\ l.length = n /\ x = (.agg (l.map fun z => .lit (.int q z)), []) /\ ∀ z ∈ l, (Lit.int q z).wf = true := by
 obtain ⟨xs, m, _, hx, hlen, hxl, hi⟩ := DataW.trod_array ht h
 rw [hct] at hlen
 have each : ∀ i, i < n -> ∃ z, cs[i]? = some (.int q z) /\ xs[i]? = some (.lit (.int q z), []) /\ (Lit.int q z).wf = true := by
  intro i hn
  have h1 := hi i hn
  rw [hce, Nat.mul_one] at h1
  have hxi : xs[i]? = some (xs[i]'(by omega)) := List.getElem?_eq_getElem _
  rw [hxi] at h1
  obtain ⟨z, e1, e2, e3⟩ := DataW.trod_int he h1
  refine ⟨z, ?_, by rw [hxi, e2], e3⟩
  have : ((cs.drop i).take 1)[0]? = some (.int q z) := by rw [e1]; rfl
  simpa using this
 have hcs : cs = (cs.map numV).map (Value.int q) := by
  apply List.ext_getElem?
  intro i
  by_cases hn : i < n
  · obtain ⟨z, e1, _⟩ := each i hn
    simp [e1, numV]
  · rw [List.getElem?_eq_none (by omega), List.getElem?_eq_none (by simp; omega)]
 have hxs : xs = (cs.map numV).map fun z => ((DataW.lit (.int q z), []) : DataW H × List MemPlace) := by
  apply List.ext_getElem?
  intro i
  by_cases hn : i < n
  · obtain ⟨z, e1, e2, _⟩ := each i hn
    rw [e2]
    simp [e1, numV]
  · rw [List.getElem?_eq_none (by omega), List.getElem?_eq_none (by simp; omega)]
 refine ⟨cs.map numV, hcs, by simp; exact hlen, ?_, ?_⟩
 · rw [hx, hxs]
   simp [Function.comp_def, List.flatMap_map]
 · intro z hz
   obtain ⟨i, hn, rfl⟩ := List.mem_iff_getElem.1 hz
   have hn' : i < n := by simp at hn; omega
   obtain ⟨z', e1, _, e3⟩ := each i hn'
   have : (cs.map numV)[i] = z' := by
    have : (cs.map numV)[i]? = some z' := by simp [e1, numV]
    rw [List.getElem?_eq_getElem hn] at this
    exact Option.some.inj this
   rw [this]
   exact e3
end
end
end Go.Proofs.YtigafnbofmiknaaGreatDoor
