/- Sh7, Sh8, Rf, Rf2, RfK -/
import Derived.Test.YtigafnbofmiknaaGreatDoorW20b
import Derived.Laws.BitsAllLaws
namespace Go.Proofs.YtigafnbofmiknaaGreatDoor
set_option maxRecDepth 100000
set_option maxHeartbeats 10000000
open Go.RowKit
section
def ur (ws : List Int) : Nat -> List Int
 | 0 => List.replicate 32 0
 | k + 1 => over (ur ws k) (4 * k) (wordB (ws.getD k 0))
theorem zb1 (ws : List Int) (k : Nat) : (ur ws k).length = 32 := by
 induction k with
 | zero => simp [ur]
 | succ k ih => rw [ur, vy, ih]
def digS (s : HS) : List Int := ur (finS s).ws 8
theorem zat (s : HS) : (digS s).length = 32 := zb1 _ _
theorem info32 : (Tryz.prog.info? 113).map (·.size) = some 32 := by kernel_rfl
theorem sl32_from (w : World) (b q : Nat) (h : q < 32) : Sem.run Tryz.prog (Instr.sliceAt 113 (.pointer (some ⟨b, 0, none⟩)) (some (.int .i64 (q : Int))) none none) w = .ok (.slice (some ⟨b, q, none⟩) (32 - q) (32 - q)) w := by
 have := zcu (P := Tryz.prog) (w := w) (b := b) (o := 0) (t := 113) Tryz.underlying113 (by kernel_rfl) h
 rwa [Nat.zero_add] at this
theorem za4 {a b c : World} {ge : Nat} (h : a.grownBy b none) (k : b.grownBy c (some ge)) (hge : a.heap.size <= ge) : a.grownBy c none := z8 h k hge
theorem heap2 (w : World) (o : Obj) (c : Array Value) (t : TypeId) : ((w.alloc o).alloc (.cells c t)).heap[w.heap.size + 1]? = some (.cells c t (0, 0)) := by
 have := heap_alloc_new (w.alloc o) (.cells c t)
 rwa [World.size_alloc] at this
theorem zu (q : IntKind) (l : List Int) : ((arrV q l).all fun x => x.oneCell') = true := by simp [arrV, Value.oneCell']
theorem sum_isK20 (w : World) (g : Nat) (s : HS) (hH : HashIs w g s) (hR : Rounds w) (hn : s.n <= 1073741824) :
    Calls Tryz.prog 73 #[.pointer (some ⟨g, 0, none⟩)] w fun e w' => e = .returned (.agg (arrV .u8 (digS s))) /\ w.grownBy w' none := by
 obtain ⟨C0, hC0⟩ : ∃ C0, C0 = hash0 := ⟨_, rfl⟩
 have hz : ∀ w, Sem.run Tryz.prog (zeroValue 161) w = .ok (.agg C0) w := fun w => by rw [hC0]; exact zd0 w
 have HZ := hQ_ (show C0.size = 73 by rw [hC0]; rfl)
 clear hC0
 obtain ⟨cs, hcs⟩ : ∃ cs, cs = hashV s.ws s.bs (s.n : Int) := ⟨_, rfl⟩
 have hB := hH.1
 rw [<- hcs] at hB
 have hsz : cs.size = 73 := by rw [hcs]; exact zdr _ _ _ hH.2.1 hH.2.2
 have HI := hQ_ (show (Tryz.prog.info? 161).map (·.size) = some cs.size by rw [hsz]; exact zds)
 have HO := hQ_ (show (cs.all fun x => x.oneCell') = true by rw [hcs]; exact zei _ _ _)
 have HS := hQ_ hsz
 have HB := hQ_ hB
 have HX := hQ_ (aQ hcs (aQ hH.2.1 (aQ hH.2.2 (aQ hn (show 18 < w.heap.size from hR.lt)))))
 have HR := hQ_ hR
 clear hsz hB hcs hH hn hR
 go_enter Tryz.func73, Tryz.ntmps73
 go_wp2_with (first
  | (refine wpList_load_row rfl 161 _ rfl g rfl 161 cs (0, 0) _ (HB.out.alloc _) Tryz.underlying161 rfl HI.out ?_)
  | (refine wpList_store_row rfl 161 _ _ rfl (w.heap.size + 1) cs rfl rfl 161 _ (heap2 _ _ _ _) HI.out (by rw [HS.out]; exact HZ.out) HO.out ?_))
 rw [<- z32b]
 have hr0 : Blk (((w.alloc (.cells (arrV .u8 (List.replicate 32 0)) 113)).alloc (.cells C0 161)).setRow (w.heap.size + 1) cs) w.heap.size 113 (arrV .u8 (List.replicate 32 0)) := Blk.farRow ((Blk.new w _ _).alloc _) (by omega) cs
 have hl0 : Blk (((w.alloc (.cells (arrV .u8 (List.replicate 32 0)) 113)).alloc (.cells C0 161)).setRow (w.heap.size + 1) cs) (w.heap.size + 1) 161 cs := Blk.row (heap2 _ _ _ _) cs
 have hg0 : w.grownBy (((w.alloc (.cells (arrV .u8 (List.replicate 32 0)) 113)).alloc (.cells C0 161)).setRow (w.heap.size + 1) cs) none := zc (za (World.grownBy_alloc w _ none) (gQ)) (.inl (by omega)) cs
 generalize ((w.alloc (.cells (arrV .u8 (List.replicate 32 0)) 113)).alloc (.cells C0 161)).setRow (w.heap.size + 1) cs = w1 at *
 have hH1 : HashIs w1 (w.heap.size + 1) s := ⟨by rw [<- HX.out.1]; exact hl0, HX.out.2.1, HX.out.2.2.1⟩
 have HR0 := hQ_ hr0
 have HG0 := hQ_ hg0
 refine (finish_is w1 (w.heap.size + 1) s hH1 (by have := HR.out.lt; omega) (HR.out.grown hg0 (by simp)) HX.out.2.2.2.1).mono ?_
 rintro e w2 ⟨rfl, hH2, hk2⟩
 have HR2 := hQ_ (hr0.grown hk2 (by intro e; have := Option.some.inj e; omega))
 have HG2 := hQ_ (za4 hg0 hk2 (by omega))
 obtain ⟨ws, hws⟩ : ∃ ws, ws = (finS s).ws := ⟨_, rfl⟩
 obtain ⟨hb2, h8, h64⟩ := hH2
 rw [<- hws] at hb2 h8
 obtain ⟨a0, a1, a2, a3, a4, a5, a6, a7, he⟩ : ∃ a0 a1 a2 a3 a4 a5 a6 a7, ws = [a0, a1, a2, a3, a4, a5, a6, a7] := by
  match ws, h8 with
  | [a0, a1, a2, a3, a4, a5, a6, a7], _ => exact ⟨a0, a1, a2, a3, a4, a5, a6, a7, rfl⟩
 have ce : ∀ i, i < 8 -> ∀ o, (w2.alloc o).cell? ⟨w.heap.size + 1, i, none⟩ = some (.int .u32 (ws.getD i 0)) := fun i hi o => by
  rw [(hb2.alloc o).cell]; exact vp (by omega)
 have c0 := ce 0 (by omega)
 have c1 := ce 1 (by omega)
 have c2 := ce 2 (by omega)
 have c3 := ce 3 (by omega)
 have c4 := ce 4 (by omega)
 have c5 := ce 5 (by omega)
 have c6 := ce 6 (by omega)
 have c7 := ce 7 (by omega)
 rw [he] at c0 c1 c2 c3 c4 c5 c6 c7
 simp only [List.getD_cons_zero, List.getD_cons_succ] at c0 c1 c2 c3 c4 c5 c6 c7
 have HW := hQ_ (aQ hws (aQ h8 he))
 clear hr0 hl0 hg0 hH1 hk2 hb2 h8 h64 hws he ce HR0 HG0 HB HI HO HS HZ hz
 go_wp2_with fail
 obtain ⟨c8, hc8⟩ : ∃ c8 : Array Value, c8 = #[.int .u32 a0, .int .u32 a1, .int .u32 a2, .int .u32 a3, .int .u32 a4, .int .u32 a5, .int .u32 a6, .int .u32 a7] := ⟨_, rfl⟩
 rw [<- hc8]
 have H8 := hQ_ (show c8 = arrV .u32 ws by rw [HW.out.2.2]; exact hc8)
 clear hc8 c0 c1 c2 c3 c4 c5 c6 c7
 rw [<- z32b]
 have HA := hQ_ (Blk.new w2 113 (arrV .u8 (List.replicate 32 0)))
 have HRA := hQ_ (HR2.out.alloc (.cells (arrV .u8 (List.replicate 32 0)) 113))
 have HGA := hQ_ (za HG2.out (World.grownBy_alloc w2 (.cells (arrV .u8 (List.replicate 32 0)) 113) none))
 have HLT := hQ_ (aQ HR2.out.lt HG2.out.size)
 generalize w2.alloc (.cells (arrV .u8 (List.replicate 32 0)) 113) = w3 at *
 clear HR2 HG2
 go_loopw [14] (fun i wr => ∃ k : Nat, k <= 8 /\ i = .int .i64 (k : Int) /\ Blk wr w2.heap.size 113 (arrV .u8 (ur ws k)) /\ Blk wr w.heap.size 113 (arrV .u8 (List.replicate 32 0)) /\ w.grownBy wr none) (fun i _ => 8 - (intOf i).toNat)
 case atStart => exact ⟨0, by omega, rfl, HA.out, HRA.out, HGA.out⟩
 case round =>
  obtain ⟨k, hk, hi, hB, hB0, hK⟩ := hrel
  obtain ⟨I, hI⟩ : ∃ I : Int, I = (k : Int) := ⟨_, rfl⟩
  rw [<- hI] at hi
  subst hi
  by_cases hlt : k < 8
  · have d1 : decide (I < 8) = true := by simp; omega
    have hkI : I.toNat = k := by omega
    have hx : 0 <= I /\ I < 8 := by omega
    obtain ⟨y, hy⟩ : ∃ y, y = ws.getD k 0 := ⟨_, rfl⟩
    have kk : c8[I.toNat]? = some (.int .u32 y) := by rw [H8.out, hkI, hy]; exact yr (by rw [HW.out.2.1]; exact hlt)
    have kx := index8 wr hx kk
    have hsl : Sem.run Tryz.prog (Instr.sliceAt 113 (.pointer (some ⟨w2.heap.size, 0, none⟩)) (some (.int .i64 (4 * I))) none none) wr = .ok (.slice (some ⟨w2.heap.size, 4 * k, none⟩) (32 - 4 * k) (32 - 4 * k)) wr := by
     have := sl32_from wr w2.heap.size (4 * k) (by omega)
     rw [show ((4 * k : Nat) : Int) = 4 * I by omega] at this
     exact this
    have s1 : wrap64 (4 * I) = 4 * I := w64 _ ⟨by omega, by omega⟩
    have s2 : wrap64 (I + 1) = I + 1 := w64 _ ⟨by omega, by omega⟩
    have HI := hQ_ (aQ hI (aQ hlt (aQ hkI hy)))
    have HB := hQ_ hB
    have HB0 := hQ_ hB0
    have HK := hQ_ hK
    clear hI hlt hkI hy hB hB0 hK kk hx hk
    go_wp2_with fail
    refine (put_is wr w2.heap.size (4 * k) (32 - 4 * k) (32 - 4 * k) 113 (ur ws k) y HB.out (by rw [zb1]; have := HI.out; omega) (by have := HI.out; omega)).mono ?_
    rintro e w4 ⟨rfl, hB4, hk4⟩
    have HB4 := hQ_ hB4
    have HB5 := hQ_ (HB0.out.grown hk4 (by intro e; have := Option.some.inj e; have := HLT.out.1; omega))
    have HK4 := hQ_ (za4 HK.out hk4 HLT.out.2)
    clear hB4 hk4
    go_wp2_with fail
    go_roundw
    case rel =>
     obtain ⟨hI, hlt, hkI, hy⟩ := HI.out
     exact ⟨k + 1, by omega, by rw [hI, w64 _ ⟨by omega, by omega⟩]; rfl, by rw [ur, <- hy]; exact HB4.out, HB5.out, HK4.out⟩
    case measure => obtain ⟨hI, hlt, hkI, _⟩ := HI.out; simp only [intOf]; rw [w64 _ ⟨by omega, by omega⟩]; omega
  · have d1 : decide (I < 8) = false := by simp; omega
    obtain rfl : k = 8 := by omega
    obtain ⟨ds, hds⟩ : ∃ ds, ds = arrV .u8 (ur ws 8) := ⟨_, rfl⟩
    rw [<- hds] at hB
    have hsz : ds.size = 32 := by rw [hds, zf, zb1]
    have HI3 := hQ_ (show (Tryz.prog.info? 113).map (·.size) = some ds.size by rw [hsz]; exact info32)
    have HS3 := hQ_ (aQ hsz (show (ds.all fun x => x.oneCell') = true by rw [hds]; exact zu _ _))
    have HD := hQ_ (show ds = arrV .u8 (digS s) by rw [hds, HW.out.1]; rfl)
    have HB := hQ_ hB
    have HB0 := hQ_ hB0
    have HK := hQ_ hK
    clear hsz hds hB hB0 hK hlt hI hk
    go_wp2_with (first
     | (refine wpList_load_row rfl 113 _ rfl w2.heap.size rfl 113 ds (0, 0) _ HB.out Tryz.underlying113 rfl HI3.out ?_)
     | (refine wpList_store_row rfl 113 _ _ rfl w.heap.size ds rfl rfl 113 _ HB0.out HI3.out (by rw [HS3.out.1]; simp [arrV]) HS3.out.2 ?_))
    refine bodyPost_ret (z5 rfl _ _ _ ⟨w.heap.size, 0, none⟩ (.agg ds) rfl (run_loadVar_row _ w.heap.size 113 113 ds (0, 0) _ (HB0.out.row ds) Tryz.underlying113 rfl HI3.out)) rfl ?_
    exact ⟨by rw [HD.out], zc HK.out (.inl (Nat.le_refl _)) ds⟩
end
section
theorem zdf (b o j : Nat) : (⟨b, o, none⟩ : Addr).add j = ⟨b, o + j, none⟩ := by simp [Addr.add]
def hashS (x : List Int) : List Int := digS (writeS startS x)
theorem hashS_length (x : List Int) : (hashS x).length = 32 := zat _
end
section
theorem ui (a b : Int) : bits BinOp.or IntKind.u32 a b = bits BinOp.or IntKind.u32 b a := by simp only [bits, BitVec.or_comm]
theorem or_add (a b : Int) (i : Nat) (ha : 0 <= a) (ha2 : a < 4294967296) (hb : 0 <= b) (hb2 : b < 4294967296) (hm : a.toNat % 2 ^ i = 0) (hl : b.toNat < 2 ^ i) : bits BinOp.or IntKind.u32 a b = a + b := by
 have h := u32_or a b ha ha2 hb hb2
 rw [h, nat_join i _ _ hm hl]
 omega
theorem wordF_sum (b0 b1 b2 b3 : Int) (h0 : 0 <= b0 /\ b0 < 256) (h1 : 0 <= b1 /\ b1 < 256) (h2 : 0 <= b2 /\ b2 < 256) (h3 : 0 <= b3 /\ b3 < 256) : wordF b0 b1 b2 b3 = b0 * 16777216 + b1 * 65536 + b2 * 256 + b3 := by
 unfold wordF
 rw [show b0 % 4294967296 * 16777216 % 4294967296 = b0 * 16777216 by omega, show b1 % 4294967296 * 65536 % 4294967296 = b1 * 65536 by omega, show b2 % 4294967296 * 256 % 4294967296 = b2 * 256 by omega, show b3 % 4294967296 = b3 by omega]
 rw [or_add (b0 * 16777216) (b1 * 65536) 24 (by omega) (by omega) (by omega) (by omega) (by omega) (by omega)]
 rw [or_add (b0 * 16777216 + b1 * 65536) (b2 * 256) 16 (by omega) (by omega) (by omega) (by omega) (by omega) (by omega)]
 rw [or_add (b0 * 16777216 + b1 * 65536 + b2 * 256) b3 8 (by omega) (by omega) (by omega) (by omega) (by omega) (by omega)]
def padL (n : Nat) : List Int := 128 :: (List.replicate (if 56 < (n + 1) % 64 then 120 - (n + 1) % 64 else 56 - (n + 1) % 64) 0 ++ endB (n * 8))
theorem writeS_cons (s : HS) (x : Int) (y : List Int) : writeS s (x :: y) = writeS (pushS s x) y := rfl
theorem fin_pad (s : HS) : finS s = writeS s (padL s.n) := by
 have hn : (pushS s 128).n = s.n + 1 := zec s 128
 rw [padL, writeS_cons, yu]
 unfold finS padS
 rw [hn]
 by_cases h : 56 < (s.n + 1) % 64
 · rw [if_pos h, if_pos h, uj, hn, List.length_replicate]
   have e : List.replicate (120 - (s.n + 1) % 64) (0 : Int) = List.replicate (64 - (s.n + 1) % 64) 0 ++ List.replicate (56 - (s.n + 1 + (64 - (s.n + 1) % 64)) % 64) 0 := by
    rw [List.replicate_append_replicate]
    congr 1
    omega
   rw [e, endB, yu (pushS s 128)]
 · rw [if_neg h, if_neg h, hn, endB]
theorem padL_length (n : Nat) : (n + (padL n).length) % 64 = 0 := by
 rw [padL, List.length_cons, List.length_append, List.length_replicate]
 have : (endB (n * 8)).length = 8 := rfl
 rw [this]
 split <;> omega
theorem over_all : ∀ (y bs : List Int) (a : Nat), a + y.length = bs.length -> over bs a y = bs.take a ++ y
 | [], bs, a, h => by rw [over, List.take_of_length_le (by simp at h; omega), List.append_nil]
 | x :: y, bs, a, h => by
  simp only [List.length_cons] at h
  rw [over, over_all y (bs.set a x) (a + 1) (by rw [List.length_set]; omega)]
  rw [List.take_add_one, List.take_set_of_le (Nat.le_refl a), List.getElem?_set_self (by omega)]
  simp
theorem write_block (s : HS) (y : List Int) (hn : s.n % 64 = 0) (hb : s.bs.length = 64) (hy : y.length = 64) : writeS s y = ⟨mixS s.ws y, y, s.n + 64⟩ := by
 have h := zbz y s (by omega) (by intro e; rw [e] at hy; simp at hy)
 rw [if_pos (by omega), hn, hy] at h
 rw [h, over_all y s.bs 0 (by rw [hy, hb])]
 simp
def za1 (ws : List Int) (b : List Int) : Nat -> List Int
 | 0 => ws
 | k + 1 => mixS (za1 ws b k) ((b.drop (64 * k)).take 64)
theorem write_blocks (b : List Int) : ∀ k, 64 * k <= b.length -> (writeS startS (b.take (64 * k))).ws = za1 startS.ws b k /\ (writeS startS (b.take (64 * k))).bs.length = 64 /\ (writeS startS (b.take (64 * k))).n = 64 * k
 | 0, _ => ⟨rfl, rfl, rfl⟩
 | k + 1, h => by
  obtain ⟨h1, h2, h3⟩ := write_blocks b k (by omega)
  rw [show 64 * (k + 1) = 64 * k + 64 by omega, List.take_add, yu, write_block _ _ (by rw [h3]; omega) h2 (by rw [List.length_take, List.length_drop]; omega)]
  exact ⟨by rw [h1]; rfl, by rw [List.length_take, List.length_drop]; omega, by dsimp only; rw [h3]⟩
theorem hash_blocks (x : List Int) : hashS x = ur (za1 startS.ws (x ++ padL x.length) ((x.length + (padL x.length).length) / 64)) 8 := by
 have hn : (writeS startS x).n = x.length := by rw [uj]; show 0 + _ = _; omega
 rw [hashS, digS, fin_pad, hn, <- yu]
 have hm := padL_length x.length
 have h := write_blocks (x ++ padL x.length) ((x.length + (padL x.length).length) / 64) (by rw [List.length_append]; omega)
 rw [List.take_of_length_le (by rw [List.length_append]; omega)] at h
 rw [h.1]
end
section
theorem wpList_index64 {w : World} {ops : Array Oper} {rest : List Oper} {o : Oper} {a : Act} {Q : Exit -> Act -> World -> Prop} (hgd : o.guard = none) (x y : Operand) (ho : o.op = .index 148 x y) (cs : Array Value) (I : Int) (v : Value)
    (hx : a.eval x = .agg cs) (hy : a.eval y = .int .i64 I) (hb : 0 <= I /\ I < 64) (hv : cs[I.toNat]? = some v) (h : wpList Tryz.prog ops Q rest (a.put o.dst v) w) : wpList Tryz.prog ops Q (o :: rest) a w := by
 refine wpList_plain hgd fun K hK => ?_
 unfold Oper.wp execOp
 simp only [ho, hx, hy, Sem.run_bind, index64 w hb hv, Result.andThen_ok, Sem.run_pure]
 exact hK _ _ h
theorem right2 (w : World) (x : Int) : Calls Tryz.prog 67 #[.int .u32 x, .int .u64 2] w fun e w' => e = .returned (.int .u32 (rr 1073741824 4 x)) /\ w = w' := by
 go_enter Tryz.func67, Tryz.ntmps67
 go_wp2_with fail
 go_ret
 exact ⟨by rw [rr, ui]; rfl, rfl⟩
theorem right6 (w : World) (x : Int) : Calls Tryz.prog 67 #[.int .u32 x, .int .u64 6] w fun e w' => e = .returned (.int .u32 (rr 67108864 64 x)) /\ w = w' := by
 go_enter Tryz.func67, Tryz.ntmps67
 go_wp2_with fail
 go_ret
 exact ⟨by rw [rr, ui]; rfl, rfl⟩
theorem right7 (w : World) (x : Int) : Calls Tryz.prog 67 #[.int .u32 x, .int .u64 7] w fun e w' => e = .returned (.int .u32 (rr 33554432 128 x)) /\ w = w' := by
 go_enter Tryz.func67, Tryz.ntmps67
 go_wp2_with fail
 go_ret
 exact ⟨by rw [rr, ui]; rfl, rfl⟩
theorem right11 (w : World) (x : Int) : Calls Tryz.prog 67 #[.int .u32 x, .int .u64 11] w fun e w' => e = .returned (.int .u32 (rr 2097152 2048 x)) /\ w = w' := by
 go_enter Tryz.func67, Tryz.ntmps67
 go_wp2_with fail
 go_ret
 exact ⟨by rw [rr, ui]; rfl, rfl⟩
theorem right13 (w : World) (x : Int) : Calls Tryz.prog 67 #[.int .u32 x, .int .u64 13] w fun e w' => e = .returned (.int .u32 (rr 524288 8192 x)) /\ w = w' := by
 go_enter Tryz.func67, Tryz.ntmps67
 go_wp2_with fail
 go_ret
 exact ⟨by rw [rr, ui]; rfl, rfl⟩
theorem right17 (w : World) (x : Int) : Calls Tryz.prog 67 #[.int .u32 x, .int .u64 17] w fun e w' => e = .returned (.int .u32 (rr 32768 131072 x)) /\ w = w' := by
 go_enter Tryz.func67, Tryz.ntmps67
 go_wp2_with fail
 go_ret
 exact ⟨by rw [rr, ui]; rfl, rfl⟩
theorem right18 (w : World) (x : Int) : Calls Tryz.prog 67 #[.int .u32 x, .int .u64 18] w fun e w' => e = .returned (.int .u32 (rr 16384 262144 x)) /\ w = w' := by
 go_enter Tryz.func67, Tryz.ntmps67
 go_wp2_with fail
 go_ret
 exact ⟨by rw [rr, ui]; rfl, rfl⟩
theorem right19 (w : World) (x : Int) : Calls Tryz.prog 67 #[.int .u32 x, .int .u64 19] w fun e w' => e = .returned (.int .u32 (rr 8192 524288 x)) /\ w = w' := by
 go_enter Tryz.func67, Tryz.ntmps67
 go_wp2_with fail
 go_ret
 exact ⟨by rw [rr, ui]; rfl, rfl⟩
theorem right22 (w : World) (x : Int) : Calls Tryz.prog 67 #[.int .u32 x, .int .u64 22] w fun e w' => e = .returned (.int .u32 (rr 1024 4194304 x)) /\ w = w' := by
 go_enter Tryz.func67, Tryz.ntmps67
 go_wp2_with fail
 go_ret
 exact ⟨by rw [rr, ui]; rfl, rfl⟩
theorem right25 (w : World) (x : Int) : Calls Tryz.prog 67 #[.int .u32 x, .int .u64 25] w fun e w' => e = .returned (.int .u32 (rr 128 33554432 x)) /\ w = w' := by
 go_enter Tryz.func67, Tryz.ntmps67
 go_wp2_with fail
 go_ret
 exact ⟨by rw [rr, ui]; rfl, rfl⟩
end
section
theorem yi {w : World} {ops : Array Oper} {rest : List Oper} {o : Oper} {a : Act} {Q : Exit -> Act -> World -> Prop} (hgd : o.guard = none) (t : TypeId) (parts : Array (Nat × Operand)) (ho : o.op = .build t parts) (V : Value)
    (hr : Sem.run Tryz.prog (Instr.build t (parts.map fun (i, x) => (i, a.eval x))) w = .ok V w) (h : wpList Tryz.prog ops Q rest (a.put o.dst V) w) : wpList Tryz.prog ops Q (o :: rest) a w := by
 refine wpList_plain hgd fun K hK => ?_
 unfold Oper.wp execOp
 simp only [ho, Sem.run_bind, hr, Result.andThen_ok, Sem.run_pure]
 exact hK _ _ h
theorem k_is (w : World) (i : Nat) (hi : i < 64) : Calls Tryz.prog 66 #[.int .i64 (i : Int)] w fun e w' => e = .returned (.int .u32 (kS.getD i 0)) /\ w = w' := by
 obtain ⟨I, hI⟩ : ∃ I : Int, I = (i : Int) := ⟨_, rfl⟩
 rw [<- hI]
 have hb : 0 <= I /\ I < 64 := ⟨by omega, by omega⟩
 obtain ⟨V, hV⟩ : ∃ V, V = arrV .u32 kS := ⟨_, rfl⟩
 have hv : V[I.toNat]? = some (.int .u32 (kS.getD i 0)) := by rw [hV, show I.toNat = i by omega]; exact yr (by rw [uw]; exact hi)
 obtain ⟨x, hx⟩ : ∃ x, x = kS.getD i 0 := ⟨_, rfl⟩
 rw [<- hx] at hv ⊢
 have HV := hQ_ (aQ hb (aQ hv hV))
 clear hI hi hb hv hx hV
 go_enter Tryz.func66, Tryz.ntmps66
 go_wp2_with (first
  | (refine yi rfl 148 _ rfl (.agg V) (by rw [HV.out.2.2]; kernel_rfl) ?_)
  | (refine wpList_index64 rfl _ _ rfl V I (.int .u32 x) rfl rfl HV.out.1 HV.out.2.1 ?_))
 go_ret
 exact ⟨rfl, rfl⟩
end
end Go.Proofs.YtigafnbofmiknaaGreatDoor
