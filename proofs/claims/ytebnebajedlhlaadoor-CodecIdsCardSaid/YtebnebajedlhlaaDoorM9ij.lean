/-
  Several texts in one: ShOf, Ev.
-/
import Derived.Test.YtebnebajedlhlaaDoorM9ie
import Derived.Deep.MidRow
import Derived.Test.YtebnebajedlhlaaDoorM9ia
import Derived.Deep.QuietTactic
import Derived.BigQuiet
import Derived.Deep.RegionWith
/-
  The short hash of parts.
-/
namespace Go.Proofs.YtebnebajedlhlaaDoor
open Go.RowKit

def partS (s : HS) (p : List Int) : HS := writeS (writeS s (wordB ((p.length : Int) % 4294967296))) p
/-- What is hashed. -/
def framedS (a0 : Int) (ps : List (List Int)) : HS := ps.foldl partS (writeS startS [a0 % 256])
def ofS (a0 : Int) (ps : List (List Int)) : List Int := (digS (framedS a0 ps)).take 16
theorem ofS_length (a0 : Int) (ps : List (List Int)) : (ofS a0 ps).length = 16 := by rw [ofS, List.length_take, digS_length]; rfl
theorem partS_n (s : HS) (p : List Int) : (partS s p).n = s.n + 4 + p.length := by rw [partS, writeS_n, writeS_n]; rfl
theorem parts_n : ∀ (L : List (List Int)) (s : HS), (∀ p ∈ L, p.length ≤ 65536) → (L.foldl partS s).n ≤ s.n + L.length * 65540
  | [], s, _ => by simp
  | p :: L, s, h => by
    have ih := parts_n L (partS s p) (fun q hq => h q (by simp [hq]))
    have h1 := h p (by simp)
    rw [partS_n] at ih
    simp only [List.foldl_cons, List.length_cons]
    omega

/-- The parts lie at A. -/
def PartsI (w : World) (A : Option Addr) (ps : List (List Int)) : Prop := ∀ j, j < ps.length → ∃ ad B m c, A = some ad ∧ w.cell? (ad.add j) = some (.slice B m c) ∧ (ps.getD j []).length = m ∧ m ≤ c ∧ BytesI w B (ps.getD j [])
theorem BytesI.grown {w w' : World} {A : Option Addr} {x : List Int} (h : BytesI w A x) (hg : w.grownBy w' none) : BytesI w' A x := fun hne => by
  obtain ⟨ad, rfl, hc⟩ := h hne
  exact ⟨ad, rfl, fun j hj => hg.cell (hc j hj) (by simp)⟩
theorem PartsI.grown {w w' : World} {A : Option Addr} {ps : List (List Int)} (h : PartsI w A ps) (hg : w.grownBy w' none) : PartsI w' A ps := fun j hj => by
  obtain ⟨ad, B, m, c, e, h1, h2, h3, h4⟩ := h j hj
  exact ⟨ad, B, m, c, e, hg.cell h1 (by simp), h2, h3, h4.grown hg⟩
theorem BytesI.lt {w : World} {A : Option Addr} {x : List Int} (h : BytesI w A x) (ad : Addr) (e : A = some ad) (hne : x ≠ []) : ad.block < w.heap.size := by
  obtain ⟨ad', e', hc⟩ := h hne
  rw [e] at e'
  obtain rfl := Option.some.inj e'
  have h0 := World.block_lt_of_cell? w _ (hc 0 (List.length_pos_iff.2 hne))
  rwa [block_add] at h0
theorem take_push' {α : Type} (x : List α) (k : Nat) (d : α) (h : k < x.length) : x.take (k + 1) = x.take k ++ [x.getD k d] := by
  rw [List.take_add_one, List.getD, List.getElem?_eq_getElem h]; rfl
theorem arrayAt_run (w : World) (a : Addr) : Sem.run Tryd.prog (Instr.arrayAt 23 (.slice (some a) 16 32)) w = .ok (.pointer (some a)) w := by
  simp [Instr.arrayAt, run_underlying Tryd.underlying23]
theorem z16b : arrV .u8 (List.replicate 16 0) = #[.int .u8 0, .int .u8 0, .int .u8 0, .int .u8 0, .int .u8 0, .int .u8 0, .int .u8 0, .int .u8 0, .int .u8 0, .int .u8 0, .int .u8 0, .int .u8 0, .int .u8 0, .int .u8 0, .int .u8 0, .int .u8 0] := by kernel_rfl
theorem z4b : arrV .u8 (List.replicate 4 0) = #[.int .u8 0, .int .u8 0, .int .u8 0, .int .u8 0] := by kernel_rfl

set_option maxRecDepth 100000 in
set_option maxHeartbeats 1000000 in
theorem of_is (w : World) (hR : Rounds w) (a0 : Int) (A : Option Addr) (n c : Nat) (ps : List (List Int)) (hn : ps.length = n) (hP : PartsI w A ps) (hn64 : n ≤ 64) (hps : ∀ p ∈ ps, p.length ≤ 65536) :
    Calls Tryd.prog 13 #[.int .i64 a0, .slice A n c] w fun e w' => e = .returned (.agg (arrV .u8 (ofS a0 ps))) ∧ w.grownBy w' none := by
  obtain ⟨C0, hC0⟩ : ∃ C0, C0 = hash0 := ⟨_, rfl⟩
  have hz : ∀ w, Sem.run Tryd.prog (zeroValue 99) w = .ok (.agg C0) w := fun w => by rw [hC0]; exact zeroHash w
  have HZ := Lib.hid (show C0.size = 73 by rw [hC0]; rfl)
  have HX := Lib.hid (And.intro hP (And.intro hn (And.intro hn64 hps)))
  have HR := Lib.hid hR
  clear hC0 hP hn hn64 hps hR
  go_enter Tryd.func13, Tryd.ntmps13
  go_wp2_with fail
  rw [← z16b]
  have HB0 := Lib.hid (Blk.new w 23 (arrV .u8 (List.replicate 16 0)))
  have HG0 := Lib.hid (World.grownBy_alloc w (.cells (arrV .u8 (List.replicate 16 0)) 23) none)
  generalize w.alloc (.cells (arrV .u8 (List.replicate 16 0)) 23) = w0 at *
  refine (start_is w0).mono ?_
  rintro e w1 ⟨rfl, hk1⟩
  obtain ⟨cs, hcs⟩ : ∃ cs, cs = hashV startS.ws startS.bs 0 := ⟨_, rfl⟩
  rw [← hcs]
  have hsz : cs.size = 73 := by rw [hcs]; exact hash_size _ _ _ rfl rfl
  have HI := Lib.hid (show (Tryd.prog.info? 99).map (·.size) = some cs.size by rw [hsz]; exact hash_info)
  have HO := Lib.hid (show (cs.all fun x => x.oneCell') = true by rw [hcs]; exact hash_one _ _ _)
  have HS := Lib.hid hsz
  have HC := Lib.hid hcs
  have HB1 := Lib.hid (HB0.out.grown hk1 (by simp))
  have HG1 := Lib.hid (grown_trans HG0.out hk1)
  have HLT := Lib.hid (And.intro HB1.out.lt HG1.out.size)
  clear hsz hcs hk1 HB0 HG0
  go_wp2_with (refine wpList_store_row rfl 99 _ _ rfl w1.heap.size cs rfl rfl 99 _ (heap_alloc_new w1 _) HI.out (by rw [HS.out]; exact HZ.out) HO.out ?_)
  have hH2 : HashIs ((w1.alloc (.cells C0 99)).setRow w1.heap.size cs) w1.heap.size startS := ⟨by have := Blk.row (Blk.new w1 99 C0) cs; rw [HC.out] at this ⊢; exact this, rfl, rfl⟩
  have hB2 := Blk.farRow (HB1.out.alloc (.cells C0 99)) (Nat.ne_of_lt HB1.out.lt) cs
  have hG2 := grown_row (grown_trans HG1.out (World.grownBy_alloc w1 (.cells C0 99) none)) (g := w1.heap.size) (.inl HG1.out.size) cs
  have hs2 : ((w1.alloc (.cells C0 99)).setRow w1.heap.size cs).heap.size = w1.heap.size + 1 := by rw [setRow_size, World.size_alloc]
  generalize (w1.alloc (.cells C0 99)).setRow w1.heap.size cs = w2 at *
  rw [← hs2]
  have hA3 := Blk.new w2 5 (arrV .u8 [a0 % 256])
  have hG3 := World.grownBy_alloc w2 (.cells (arrV .u8 [a0 % 256]) 5) none
  generalize hw3 : w2.alloc (.cells #[.int .u8 (a0 % 256)] 5) = w3
  rw [show w2.alloc (.cells (arrV .u8 [a0 % 256]) 5) = w3 from hw3] at hA3 hG3
  clear hw3 HI HO HS HC HB1 HG1 hz HZ
  refine (write_is w3 w1.heap.size startS (hH2.grown hG3 (by simp)) (by have := HLT.out.1; have := HR.out.lt; omega) ((HR.out.grown hG2 (by simp)).grown hG3 (by simp)) (some ⟨w2.heap.size, 0, none⟩) 1 1 [a0 % 256] rfl (BytesI.blk hA3 (fun j hj => by simp at hj; subst hj; simp)) (fun ad e _ => by obtain rfl := Option.some.inj e; exact fun h => by simp at h; omega) (Nat.le_refl _) (by show 0 + 1 ≤ _; omega)).mono ?_
  rintro e w4 ⟨rfl, hH4, hk4⟩
  have HH4 := Lib.hid hH4
  have HB4 := Lib.hid ((hB2.grown hG3 (by simp)).grown hk4 (by intro e; have := Option.some.inj e; have := HLT.out.1; omega))
  have HG4 := Lib.hid (grown_off (grown_trans hG2 hG3) hk4 HLT.out.2)
  clear hH2 hB2 hG2 hs2 hA3 hG3 hH4 hk4
  go_wp2_with fail
  go_loopw [17] (fun i wr => ∃ k : Nat, k ≤ n ∧ i = .int .i64 (k : Int) ∧ HashIs wr w1.heap.size ((ps.take k).foldl partS (writeS startS [a0 % 256])) ∧ Blk wr w.heap.size 23 (arrV .u8 (List.replicate 16 0)) ∧ w.grownBy wr none) (fun i _ => n - (intOf i).toNat)
  case atStart => exact ⟨0, by omega, rfl, HH4.out, HB4.out, HG4.out⟩
  case round =>
    obtain ⟨k, hk, hi, hH, hB, hK⟩ := hrel
    obtain ⟨I, hI⟩ : ∃ I : Int, I = (k : Int) := ⟨_, rfl⟩
    rw [← hI] at hi
    subst hi
    by_cases hlt : k < n
    · have d1 : decide (I < (n : Int)) = true := by simp; omega
      obtain ⟨ad, B, m, c', rfl, hcell, hpl, hmc, hpb⟩ := HX.out.1 k (by rw [HX.out.2.1]; exact hlt)
      obtain ⟨p, hp⟩ : ∃ p, p = ps.getD k [] := ⟨_, rfl⟩
      rw [← hp] at hpl hpb
      have hpm : m ≤ 65536 := by
        have : p ∈ ps := by rw [hp, List.getD, List.getElem?_eq_getElem (by rw [HX.out.2.1]; exact hlt)]; exact List.getElem_mem _
        have := HX.out.2.2.2 p this
        omega
      have hkI : I.toNat = k := by omega
      have hcy : wr.cell? (ad.add I.toNat) = some (.slice B m c') := by rw [hkI]; exact hK.cell hcell (by simp)
      have hx0 : 0 ≤ I ∧ I < (n : Int) := by omega
      have hbound : ((ps.take k).foldl partS (writeS startS [a0 % 256])).n ≤ 1 + k * 65540 := by
        have := parts_n (ps.take k) (writeS startS [a0 % 256]) (fun q hq => HX.out.2.2.2 q (List.mem_of_mem_take hq))
        rw [List.length_take, HX.out.2.1, Nat.min_eq_left hk] at this
        rw [show (writeS startS [a0 % 256]).n = 1 from by rw [writeS_n]; rfl] at this
        exact this
      have hnext : (ps.take (k + 1)).foldl partS (writeS startS [a0 % 256]) = writeS (writeS ((ps.take k).foldl partS (writeS startS [a0 % 256])) (wordB ((m : Int) % 4294967296))) p := by
        rw [take_push' ps k [] (by rw [HX.out.2.1]; exact hlt), List.foldl_append, ← hp, ← hpl]; rfl
      obtain ⟨s, hs⟩ : ∃ s, s = (ps.take k).foldl partS (writeS startS [a0 % 256]) := ⟨_, rfl⟩
      rw [← hs] at hH hnext hbound
      have HI := Lib.hid (And.intro hI (And.intro hlt (And.intro hkI (And.intro hbound (And.intro hpm hnext)))))
      have HP := Lib.hid (And.intro hpl (And.intro hmc hpb))
      have HH := Lib.hid hH
      have HB := Lib.hid hB
      have HK := Lib.hid hK
      have HX0 := Lib.hid hx0
      have hsa : ∀ w b, Sem.run Tryd.prog (Instr.sliceAt 101 (.pointer (some ⟨b, 0, none⟩)) none none none) w = .ok (.slice (some ⟨b, 0, none⟩) 4 4) w := fun w b => slice_all (P := Tryd.prog) (w := w) (b := b) (o := 0) (t := 101) Tryd.underlying101 (by kernel_rfl)
      clear hI hlt hkI hbound hpm hnext hpl hmc hpb hH hB hK hcell hs hp hk
      go_wp2_with fail
      rw [← z4b]
      have hA3 := Blk.new wr 101 (arrV .u8 (List.replicate 4 0))
      have hG3 := World.grownBy_alloc wr (.cells (arrV .u8 (List.replicate 4 0)) 101) none
      have HLK := Lib.hid (show w1.heap.size < wr.heap.size from HH.out.1.lt)
      have hsw : wr.heap.size < (wr.alloc (.cells (arrV .u8 (List.replicate 4 0)) 101)).heap.size := by rw [World.size_alloc]; omega
      generalize wr.alloc (.cells (arrV .u8 (List.replicate 4 0)) 101) = w3 at *
      refine (put_is w3 wr.heap.size 0 4 4 101 (List.replicate 4 0) ((m : Int) % 4294967296) hA3 (by simp) (Nat.le_refl _)).mono ?_
      rintro e w4 ⟨rfl, hA4, hk4⟩
      have hH4 := (HH.out.grown hG3 (by simp)).grown hk4 (by intro e; have := Option.some.inj e; have := HLK.out; omega)
      have hB4 := (HB.out.grown hG3 (by simp)).grown hk4 (by intro e; have := Option.some.inj e; have := HB.out.lt; omega)
      have hK4 := grown_off (grown_trans HK.out hG3) hk4 HK.out.size
      have HH4 := Lib.hid hH4
      have HA4 := Lib.hid hA4
      have HB4 := Lib.hid hB4
      have HK4 := Lib.hid hK4
      clear hA3 hG3 hsw hA4 hk4 hH4 hB4 hK4
      go_wp2_with fail
      refine (write_is w4 w1.heap.size _ HH4.out (by have := HLT.out.1; have := HR.out.lt; omega) (HR.out.grown HK4.out (by simp)) (some ⟨wr.heap.size, 0, none⟩) 4 4 (wordB ((m : Int) % 4294967296)) rfl (BytesI.blk HA4.out (fun j hj => by
          have : j < 4 := hj
          refine ⟨by rw [over_length, List.length_replicate]; omega, ?_⟩
          have : j = 0 ∨ j = 1 ∨ j = 2 ∨ j = 3 := by omega
          rcases this with rfl | rfl | rfl | rfl <;> rfl)) (fun ad e _ => by obtain rfl := Option.some.inj e; exact fun h => by have := HLK.out; simp at h; omega) (Nat.le_refl _) (by have := HI.out; have := HX.out.2.2.1; omega)).mono ?_
      rintro e w5 ⟨rfl, hH5, hk5⟩
      have HH5 := Lib.hid hH5
      have HB5 := Lib.hid (HB4.out.grown hk5 (by intro e; have := Option.some.inj e; have := HLT.out.1; omega))
      have HK5 := Lib.hid (grown_off HK4.out hk5 HLT.out.2)
      clear hH5 hk5 HH4 HA4 HB4 HK4
      go_wp2_with fail
      refine (write_is w5 w1.heap.size _ HH5.out (by have := HLT.out.1; have := HR.out.lt; omega) (HR.out.grown HK5.out (by simp)) B m c' p HP.out.1 (HP.out.2.2.grown HK5.out) (fun ad e hne => by
          have h1 := HP.out.2.2.lt ad e hne
          have h2 := HLT.out.2
          omega) HP.out.2.1 (by rw [writeS_n]; have := HI.out; have := HX.out.2.2.1; show _ + 4 + m ≤ _; omega)).mono ?_
      rintro e w6 ⟨rfl, hH6, hk6⟩
      have HH6 := Lib.hid hH6
      have HB6 := Lib.hid (HB5.out.grown hk6 (by intro e; have := Option.some.inj e; have := HLT.out.1; omega))
      have HK6 := Lib.hid (grown_off HK5.out hk6 HLT.out.2)
      clear hH6 hk6 HH5 HB5 HK5 hsa
      go_wp2_with fail
      go_roundw
      case rel =>
        obtain ⟨hI, hlt, hkI, hbound, hpm, hnext⟩ := HI.out
        have := HX.out.2.2.1
        exact ⟨k + 1, by omega, by rw [hI, w64 _ ⟨by omega, by omega⟩]; rfl, by rw [hnext]; exact HH6.out, HB6.out, HK6.out⟩
      case measure => obtain ⟨hI, hlt, hkI, _⟩ := HI.out; have := HX.out.2.2.1; simp only [intOf]; rw [w64 _ ⟨by omega, by omega⟩]; omega
    · have d1 : decide (I < (n : Int)) = false := by simp; omega
      obtain rfl : k = n := by omega
      rw [List.take_of_length_le (by rw [HX.out.2.1]; exact Nat.le_refl _)] at hH
      have hbound : (ps.foldl partS (writeS startS [a0 % 256])).n ≤ 1073741824 := by
        have := parts_n ps (writeS startS [a0 % 256]) HX.out.2.2.2
        rw [HX.out.2.1, show (writeS startS [a0 % 256]).n = 1 from by rw [writeS_n]; rfl] at this
        have := HX.out.2.2.1
        omega
      have HH := Lib.hid hH
      have HB := Lib.hid hB
      have HK := Lib.hid hK
      have HBD := Lib.hid hbound
      clear hI hlt hk hH hB hK hbound
      go_wp2_with fail
      refine (sum_is wr w1.heap.size _ HH.out (HR.out.grown HK.out (by simp)) HBD.out).mono ?_
      rintro e w5 ⟨rfl, hk5⟩
      obtain ⟨ds, hds⟩ : ∃ ds, ds = arrV .u8 (digS (framedS a0 ps)) := ⟨_, rfl⟩
      rw [show arrV .u8 (digS (ps.foldl partS (writeS startS [a0 % 256]))) = ds from hds.symm]
      have hsz : ds.size = 32 := by rw [hds, arr_size, digS_length]
      have HI3 := Lib.hid (show (Tryd.prog.info? 103).map (·.size) = some ds.size by rw [hsz]; exact info32)
      have HS3 := Lib.hid (And.intro hsz (show (ds.all fun x => x.oneCell') = true by rw [hds]; exact arr_one _ _))
      have HD := Lib.hid hds
      have HB5 := Lib.hid (HB.out.grown hk5 (by simp))
      have HK5 := Lib.hid (grown_trans HK.out hk5)
      clear hsz hds hk5
      obtain ⟨c6, hc6⟩ : ∃ c6, c6 = arrV .u8 (ofS a0 ps) := ⟨_, rfl⟩
      have hs16 : c6.size = 16 := by rw [hc6, arr_size, ofS_length]
      have HI6 := Lib.hid (show (Tryd.prog.info? 23).map (·.size) = some c6.size by rw [hs16]; kernel_rfl)
      have HI6' := Lib.hid (show (Tryd.prog.info? 23).map (·.size) = some c6.toList.length by rw [Array.length_toList, hs16]; kernel_rfl)
      have HS6 := Lib.hid (And.intro hs16 (And.intro (show (c6.all fun x => x.oneCell') = true by rw [hc6]; exact arr_one _ _) hc6))
      have HB7 := Lib.hid (fun o => Blk.row (Blk.new w5 103 o) ds)
      have HB8 := Lib.hid (fun o => Blk.farRow (HB5.out.alloc o) (Nat.ne_of_lt HB5.out.lt) ds)
      have HR7 := Lib.hid (show ∀ o, World.rangeAt ((w5.alloc (.cells o 103)).setRow w5.heap.size ds) w5.heap.size 0 c6.toList from fun o j v hv => by
        have hj : j < 16 := by
          have := (List.getElem?_eq_some_iff.1 hv).1
          rw [Array.length_toList, HS6.out.1] at this
          exact this
        rw [Nat.zero_add, (HB7.out o).cell, HD.out, arr_get (by rw [digS_length]; omega)]
        rw [HS6.out.2.2] at hv
        simp only [List.getElem?_map, ofS, List.getElem?_take, if_pos hj] at hv
        rw [← hv]
        simp [List.getD, List.getElem?_eq_getElem (show j < (digS (framedS a0 ps)).length by rw [digS_length]; omega)])
      clear hs16 hc6
      have hst : ∀ w b, Sem.run Tryd.prog (Instr.sliceAt 103 (.pointer (some ⟨b, 0, none⟩)) none (some (.int .i64 16)) none) w = .ok (.slice (some ⟨b, 0, none⟩) 16 32) w := fun w b =>
        slice_to (P := Tryd.prog) (w := w) (b := b) (o := 0) (q := 16) (t := 103) Tryd.underlying103 (by kernel_rfl) (by omega)
      have haa : ∀ w a, Sem.run Tryd.prog (Instr.arrayAt 23 (.slice (some a) 16 32)) w = .ok (.pointer (some a)) w := fun w a => arrayAt_run w a
      go_wp2_with (first
        | (refine wpList_store_row rfl 103 _ _ rfl w5.heap.size ds rfl rfl 103 _ (heap_alloc_new w5 _) HI3.out (by rw [HS3.out.1]; simp) HS3.out.2 ?_)
        | (refine wpList_load_mid rfl 23 _ rfl w5.heap.size 0 rfl c6.toList _ (HR7.out _) Tryd.underlying23 rfl HI6'.out ?_; rw [Array.toArray_toList])
        | (refine wpList_store_row rfl 23 _ _ rfl w.heap.size c6 rfl rfl 23 _ (HB8.out _) HI6.out (by rw [HS6.out.1]; simp [arrV]) HS6.out.2.1 ?_))
      refine bodyPost_ret (results_cell rfl _ _ _ ⟨w.heap.size, 0, none⟩ (.agg c6) rfl (run_loadVar_row _ w.heap.size 23 23 c6 (0, 0) _ ((HB8.out _).row c6) Tryd.underlying23 rfl HI6.out)) rfl ?_
      exact ⟨by rw [HS6.out.2.2], grown_row (grown_row (grown_trans HK5.out (World.grownBy_alloc w5 _ none)) (.inl HK5.out.size) ds) (.inl (Nat.le_refl _)) c6⟩
end Go.Proofs.YtebnebajedlhlaaDoor
/-
  An error's value, and a variable that holds one.
-/
namespace Go.Proofs.YtebnebajedlhlaaDoor
open Go.RowKit

/-- The error value at address a. -/
abbrev errV (a : Addr) : Value := .iface 152 (.pointer (some a))
/-- The variable k holds the error at a; both lie below B. -/
def ErrAt (w : World) (B k : Nat) (a : Addr) : Prop := w.cell? ⟨k, 0, none⟩ = some (errV a) ∧ k < B
theorem ErrAt.below {w w' : World} {B B' k : Nat} {a : Addr} (h : ErrAt w B k a) (hb : Below B' w w') (hB : B ≤ B') : ErrAt w' B k a :=
  ⟨(hb.cell (p := ⟨k, 0, none⟩) (Nat.lt_of_lt_of_le h.2 hB)).trans h.1, h.2⟩
theorem ErrAt.grown {w w' : World} {B k : Nat} {a : Addr} {row : Option Nat} (h : ErrAt w B k a) (hb : w.grownBy w' row) (hr : ∀ g, row = some g → B ≤ g) : ErrAt w' B k a :=
  ⟨hb.cell h.1 (by intro e; have := hr k e.symm; have := h.2; omega), h.2⟩
/-- What stands in a variable of type error: nil, or the error of that number. -/
def evOf (E : Nat → Addr) : Nat → Value
  | 0 => .nilIface
  | k + 1 => errV (E k)

end Go.Proofs.YtebnebajedlhlaaDoor
