/-
  Several texts in one: Sh7, Sh8.
-/
import Derived.Test.YtebnebajedlhlaaDoorM9id
/-
  SHA-256: the sum of all bytes so far.
-/

namespace Go.Proofs.YtebnebajedlhlaaDoor
open Go.RowKit

def sumW (ws : List Int) : Nat → List Int
  | 0 => List.replicate 32 0
  | k + 1 => over (sumW ws k) (4 * k) (wordB (ws.getD k 0))
theorem sumW_length (ws : List Int) (k : Nat) : (sumW ws k).length = 32 := by
  induction k with
  | zero => simp [sumW]
  | succ k ih => rw [sumW, over_length, ih]
def digS (s : HS) : List Int := sumW (finS s).ws 8
theorem digS_length (s : HS) : (digS s).length = 32 := sumW_length _ _
theorem info32 : (Tryd.prog.info? 103).map (·.size) = some 32 := by kernel_rfl
theorem sl32_from (w : World) (b q : Nat) (h : q < 32) : Sem.run Tryd.prog (Instr.sliceAt 103 (.pointer (some ⟨b, 0, none⟩)) (some (.int .i64 (q : Int))) none none) w = .ok (.slice (some ⟨b, q, none⟩) (32 - q) (32 - q)) w := by
  have := slice_from (P := Tryd.prog) (w := w) (b := b) (o := 0) (t := 103) Tryd.underlying103 (by kernel_rfl) h
  rwa [Nat.zero_add] at this
theorem grown_off {a b c : World} {ge : Nat} (h : a.grownBy b none) (k : b.grownBy c (some ge)) (hge : a.heap.size ≤ ge) : a.grownBy c none := grown_fresh h k hge
theorem heap2 (w : World) (o : Obj) (c : Array Value) (t : TypeId) : ((w.alloc o).alloc (.cells c t)).heap[w.heap.size + 1]? = some (.cells c t (0, 0)) := by
  have := heap_alloc_new (w.alloc o) (.cells c t)
  rwa [World.size_alloc] at this
theorem arr_one (q : IntKind) (l : List Int) : ((arrV q l).all fun x => x.oneCell') = true := by simp [arrV, Value.oneCell']

set_option maxRecDepth 100000 in
set_option maxHeartbeats 1000000 in
theorem sum_is (w : World) (g : Nat) (s : HS) (hH : HashIs w g s) (hR : Rounds w) (hn : s.n ≤ 1073741824) :
    Calls Tryd.prog 32 #[.pointer (some ⟨g, 0, none⟩)] w fun e w' => e = .returned (.agg (arrV .u8 (digS s))) ∧ w.grownBy w' none := by
  obtain ⟨C0, hC0⟩ : ∃ C0, C0 = hash0 := ⟨_, rfl⟩
  have hz : ∀ w, Sem.run Tryd.prog (zeroValue 99) w = .ok (.agg C0) w := fun w => by rw [hC0]; exact zeroHash w
  have HZ := Lib.hid (show C0.size = 73 by rw [hC0]; rfl)
  clear hC0
  obtain ⟨cs, hcs⟩ : ∃ cs, cs = hashV s.ws s.bs (s.n : Int) := ⟨_, rfl⟩
  have hB := hH.1
  rw [← hcs] at hB
  have hsz : cs.size = 73 := by rw [hcs]; exact hash_size _ _ _ hH.2.1 hH.2.2
  have HI := Lib.hid (show (Tryd.prog.info? 99).map (·.size) = some cs.size by rw [hsz]; exact hash_info)
  have HO := Lib.hid (show (cs.all fun x => x.oneCell') = true by rw [hcs]; exact hash_one _ _ _)
  have HS := Lib.hid hsz
  have HB := Lib.hid hB
  have HX := Lib.hid (And.intro hcs (And.intro hH.2.1 (And.intro hH.2.2 (And.intro hn (show 2 < w.heap.size from hR.lt)))))
  have HR := Lib.hid hR
  clear hsz hB hcs hH hn hR
  go_enter Tryd.func32, Tryd.ntmps32
  go_wp2_with (first
    | (refine wpList_load_row rfl 99 _ rfl g rfl 99 cs (0, 0) _ (HB.out.alloc _) Tryd.underlying99 rfl HI.out ?_)
    | (refine wpList_store_row rfl 99 _ _ rfl (w.heap.size + 1) cs rfl rfl 99 _ (heap2 _ _ _ _) HI.out (by rw [HS.out]; exact HZ.out) HO.out ?_))
  rw [← z32b]
  have hr0 : Blk (((w.alloc (.cells (arrV .u8 (List.replicate 32 0)) 103)).alloc (.cells C0 99)).setRow (w.heap.size + 1) cs) w.heap.size 103 (arrV .u8 (List.replicate 32 0)) := Blk.farRow ((Blk.new w _ _).alloc _) (by omega) cs
  have hl0 : Blk (((w.alloc (.cells (arrV .u8 (List.replicate 32 0)) 103)).alloc (.cells C0 99)).setRow (w.heap.size + 1) cs) (w.heap.size + 1) 99 cs := Blk.row (heap2 _ _ _ _) cs
  have hg0 : w.grownBy (((w.alloc (.cells (arrV .u8 (List.replicate 32 0)) 103)).alloc (.cells C0 99)).setRow (w.heap.size + 1) cs) none := grown_row (grown_trans (World.grownBy_alloc w _ none) (World.grownBy_alloc _ _ none)) (.inl (by omega)) cs
  generalize ((w.alloc (.cells (arrV .u8 (List.replicate 32 0)) 103)).alloc (.cells C0 99)).setRow (w.heap.size + 1) cs = w1 at *
  have hH1 : HashIs w1 (w.heap.size + 1) s := ⟨by rw [← HX.out.1]; exact hl0, HX.out.2.1, HX.out.2.2.1⟩
  have HR0 := Lib.hid hr0
  have HG0 := Lib.hid hg0
  refine (finish_is w1 (w.heap.size + 1) s hH1 (by have := HR.out.lt; omega) (HR.out.grown hg0 (by simp)) HX.out.2.2.2.1).mono ?_
  rintro e w2 ⟨rfl, hH2, hk2⟩
  have HR2 := Lib.hid (hr0.grown hk2 (by intro e; have := Option.some.inj e; omega))
  have HG2 := Lib.hid (grown_off hg0 hk2 (by omega))
  obtain ⟨ws, hws⟩ : ∃ ws, ws = (finS s).ws := ⟨_, rfl⟩
  obtain ⟨hb2, h8, h64⟩ := hH2
  rw [← hws] at hb2 h8
  obtain ⟨a0, a1, a2, a3, a4, a5, a6, a7, he⟩ : ∃ a0 a1 a2 a3 a4 a5 a6 a7, ws = [a0, a1, a2, a3, a4, a5, a6, a7] := by
    match ws, h8 with
    | [a0, a1, a2, a3, a4, a5, a6, a7], _ => exact ⟨a0, a1, a2, a3, a4, a5, a6, a7, rfl⟩
  have ce : ∀ i, i < 8 → ∀ o, (w2.alloc o).cell? ⟨w.heap.size + 1, i, none⟩ = some (.int .u32 (ws.getD i 0)) := fun i hi o => by
    rw [(hb2.alloc o).cell]; exact hashV_word (by omega)
  have c0 := ce 0 (by omega)
  have c1 := ce 1 (by omega)
  have c2 := ce 2 (by omega)
  have c3 := ce 3 (by omega)
  have c4 := ce 4 (by omega)
  have c5 := ce 5 (by omega)
  have c6 := ce 6 (by omega)
  have c7 := ce 7 (by omega)
  rw [he] at c0 c1 c2 c3 c4 c5 c6 c7
  simp only [List.getD_cons_zero, List.getD_cons_succ] at c0 c1 c2 c3 c4 c5 c6 c7
  have HW := Lib.hid (And.intro hws (And.intro h8 he))
  clear hr0 hl0 hg0 hH1 hk2 hb2 h8 h64 hws he ce HR0 HG0 HB HI HO HS HZ hz
  go_wp2_with fail
  obtain ⟨c8, hc8⟩ : ∃ c8 : Array Value, c8 = #[.int .u32 a0, .int .u32 a1, .int .u32 a2, .int .u32 a3, .int .u32 a4, .int .u32 a5, .int .u32 a6, .int .u32 a7] := ⟨_, rfl⟩
  rw [← hc8]
  have H8 := Lib.hid (show c8 = arrV .u32 ws by rw [HW.out.2.2]; exact hc8)
  clear hc8 c0 c1 c2 c3 c4 c5 c6 c7
  rw [← z32b]
  have HA := Lib.hid (Blk.new w2 103 (arrV .u8 (List.replicate 32 0)))
  have HRA := Lib.hid (HR2.out.alloc (.cells (arrV .u8 (List.replicate 32 0)) 103))
  have HGA := Lib.hid (grown_trans HG2.out (World.grownBy_alloc w2 (.cells (arrV .u8 (List.replicate 32 0)) 103) none))
  have HLT := Lib.hid (And.intro HR2.out.lt HG2.out.size)
  generalize w2.alloc (.cells (arrV .u8 (List.replicate 32 0)) 103) = w3 at *
  clear HR2 HG2
  go_loopw [14] (fun i wr => ∃ k : Nat, k ≤ 8 ∧ i = .int .i64 (k : Int) ∧ Blk wr w2.heap.size 103 (arrV .u8 (sumW ws k)) ∧ Blk wr w.heap.size 103 (arrV .u8 (List.replicate 32 0)) ∧ w.grownBy wr none) (fun i _ => 8 - (intOf i).toNat)
  case atStart => exact ⟨0, by omega, rfl, HA.out, HRA.out, HGA.out⟩
  case round =>
    obtain ⟨k, hk, hi, hB, hB0, hK⟩ := hrel
    obtain ⟨I, hI⟩ : ∃ I : Int, I = (k : Int) := ⟨_, rfl⟩
    rw [← hI] at hi
    subst hi
    by_cases hlt : k < 8
    · have d1 : decide (I < 8) = true := by simp; omega
      have hkI : I.toNat = k := by omega
      have hx : 0 ≤ I ∧ I < 8 := by omega
      obtain ⟨y, hy⟩ : ∃ y, y = ws.getD k 0 := ⟨_, rfl⟩
      have kk : c8[I.toNat]? = some (.int .u32 y) := by rw [H8.out, hkI, hy]; exact arr_get (by rw [HW.out.2.1]; exact hlt)
      have kx := index8 wr hx kk
      have hsl : Sem.run Tryd.prog (Instr.sliceAt 103 (.pointer (some ⟨w2.heap.size, 0, none⟩)) (some (.int .i64 (4 * I))) none none) wr = .ok (.slice (some ⟨w2.heap.size, 4 * k, none⟩) (32 - 4 * k) (32 - 4 * k)) wr := by
        have := sl32_from wr w2.heap.size (4 * k) (by omega)
        rw [show ((4 * k : Nat) : Int) = 4 * I by omega] at this
        exact this
      have s1 : wrap64 (4 * I) = 4 * I := w64 _ ⟨by omega, by omega⟩
      have s2 : wrap64 (I + 1) = I + 1 := w64 _ ⟨by omega, by omega⟩
      have HI := Lib.hid (And.intro hI (And.intro hlt (And.intro hkI hy)))
      have HB := Lib.hid hB
      have HB0 := Lib.hid hB0
      have HK := Lib.hid hK
      clear hI hlt hkI hy hB hB0 hK kk hx hk
      go_wp2_with fail
      refine (put_is wr w2.heap.size (4 * k) (32 - 4 * k) (32 - 4 * k) 103 (sumW ws k) y HB.out (by rw [sumW_length]; have := HI.out; omega) (by have := HI.out; omega)).mono ?_
      rintro e w4 ⟨rfl, hB4, hk4⟩
      have HB4 := Lib.hid hB4
      have HB5 := Lib.hid (HB0.out.grown hk4 (by intro e; have := Option.some.inj e; have := HLT.out.1; omega))
      have HK4 := Lib.hid (grown_off HK.out hk4 HLT.out.2)
      clear hB4 hk4
      go_wp2_with fail
      go_roundw
      case rel =>
        obtain ⟨hI, hlt, hkI, hy⟩ := HI.out
        exact ⟨k + 1, by omega, by rw [hI, w64 _ ⟨by omega, by omega⟩]; rfl, by rw [sumW, ← hy]; exact HB4.out, HB5.out, HK4.out⟩
      case measure => obtain ⟨hI, hlt, hkI, _⟩ := HI.out; simp only [intOf]; rw [w64 _ ⟨by omega, by omega⟩]; omega
    · have d1 : decide (I < 8) = false := by simp; omega
      obtain rfl : k = 8 := by omega
      obtain ⟨ds, hds⟩ : ∃ ds, ds = arrV .u8 (sumW ws 8) := ⟨_, rfl⟩
      rw [← hds] at hB
      have hsz : ds.size = 32 := by rw [hds, arr_size, sumW_length]
      have HI3 := Lib.hid (show (Tryd.prog.info? 103).map (·.size) = some ds.size by rw [hsz]; exact info32)
      have HS3 := Lib.hid (And.intro hsz (show (ds.all fun x => x.oneCell') = true by rw [hds]; exact arr_one _ _))
      have HD := Lib.hid (show ds = arrV .u8 (digS s) by rw [hds, HW.out.1]; rfl)
      have HB := Lib.hid hB
      have HB0 := Lib.hid hB0
      have HK := Lib.hid hK
      clear hsz hds hB hB0 hK hlt hI hk
      go_wp2_with (first
        | (refine wpList_load_row rfl 103 _ rfl w2.heap.size rfl 103 ds (0, 0) _ HB.out Tryd.underlying103 rfl HI3.out ?_)
        | (refine wpList_store_row rfl 103 _ _ rfl w.heap.size ds rfl rfl 103 _ HB0.out HI3.out (by rw [HS3.out.1]; simp [arrV]) HS3.out.2 ?_))
      refine bodyPost_ret (results_cell rfl _ _ _ ⟨w.heap.size, 0, none⟩ (.agg ds) rfl (run_loadVar_row _ w.heap.size 103 103 ds (0, 0) _ (HB0.out.row ds) Tryd.underlying103 rfl HI3.out)) rfl ?_
      exact ⟨by rw [HD.out], grown_row HK.out (.inl (Nat.le_refl _)) ds⟩
end Go.Proofs.YtebnebajedlhlaaDoor
/-
  SHA-256: the hash of bytes as a function.
-/

namespace Go.Proofs.YtebnebajedlhlaaDoor
open Go.RowKit

theorem add_none (b o j : Nat) : (⟨b, o, none⟩ : Addr).add j = ⟨b, o + j, none⟩ := by simp [Addr.add]
/-- The hash of bytes. -/
def hashS (x : List Int) : List Int := digS (writeS startS x)
theorem hashS_length (x : List Int) : (hashS x).length = 32 := digS_length _

end Go.Proofs.YtebnebajedlhlaaDoor
