/- CdI, EpP, OuB, OuL, OuM -/
import Derived.Test.YtigafnbofmiknaaGreatDoorW20A
import Derived.Test.YtigafnbofmiknaaGreatDoorW20x
import Derived.Test.YtigafnbofmiknaaGreatDoorW20y
namespace Go.Proofs.YtigafnbofmiknaaGreatDoor
set_option maxRecDepth 100000
set_option maxHeartbeats 10000000
open Go.RowKit
section
theorem sz_Bk : (Tryz.prog.info? 32).map (·.size) = some 39 := by kernel_rfl
theorem Bk.val_size {w : World} {b : Bk} (h : b.At w) : b.val.size = 39 := by simp [Bk.val, Qc.val, h.1.1, h.2.1.1.1]
theorem parts1' {w : World} {q : Nat} {A : Option Addr} {n1 c1 : Nat} {x : List Int} (h : Blk w q 81 #[.slice A n1 c1]) (h1 : x.length = n1) (l1 : n1 <= c1) (b1 : BytesI w A x) : PartsI w (some ⟨q, 0, none⟩) [x] := fun j hj => by
 obtain rfl : j = 0 := by simpa using hj
 exact ⟨_, A, n1, c1, rfl, by rw [yj, h.cell]; rfl, h1, l1, b1⟩
section
variable {E : Nat -> Addr}
theorem cwrite_is (w : World) (he : ErrAt w w.heap.size 0 (E 0)) (b : Bk) (hb : b.At w) (cs : Array Value) (hcs : cs = b.val) :
    Calls Tryz.prog 68 #[.agg cs, .func (.func 69) #[] #[]] w fun e w' => WOut w w' E (bkS b) e := by
 have hzz := wr_zero
 have hbb := wr_build
 obtain ⟨W1, hW1⟩ : ∃ W1, w.alloc (.cells cs 32) = W1 := ⟨_, rfl⟩
 have g1 : w.grownBy W1 none := by rw [<- hW1]; exact gQ
 have bx : Blk W1 w.heap.size 32 cs := by rw [<- hW1]; exact Blk.new w _ _
 have z1 : W1.heap.size = w.heap.size + 1 := by rw [<- hW1]; simp
 have hsz : cs.size = 39 := by rw [hcs]; exact b.val_size hb
 have he1 : ErrAt W1 W1.heap.size 0 (E 0) := ⟨g1.cell he.1 (by simp), by have := he.2; omega⟩
 have hb1 := hb.grown g1
 have HX := hQ_ (aQ he1 (aQ hb1 (aQ hsz (aQ bx (aQ g1 (aQ z1 hcs))))))
 have HW := hQ_ hW1
 clear he hb hW1 g1 bx z1 hsz he1 hb1 hcs
 go_enter Tryz.func68, Tryz.ntmps68
 go_upto_region 1 with (fail)
 rw [HW.out]
 go_wp2_with fail
 refine (new_st W1 E).mono ?_
 rintro e W2 ⟨rfl, hi2⟩
 have HI2 := hQ_ hi2
 clear hi2
 go_upto_region 2 with (fail)
 obtain ⟨W3, hW3⟩ : ∃ W3, W2.alloc (.cells #[.pointer (some ⟨W1.heap.size, 0, none⟩)] 156) = W3 := ⟨_, rfl⟩
 have g3 : W2.grownBy W3 none := by
  rw [<- hW3]; exact gQ
 have bw : Blk W3 W2.heap.size 156 #[.pointer (some ⟨W1.heap.size, 0, none⟩)] := by
  rw [<- hW3]; exact Blk.new _ _ _
 have hi3 := HI2.out.opened g3
 have bx3 : Blk W3 w.heap.size 32 cs := (HX.out.2.2.2.1.kept HI2.out.kept (fun h => by have := HX.out.2.2.2.2.2.1; simp only [newF] at h; omega)).grown g3 (by simp)
 have c0 : W3.cell? ⟨W2.heap.size, 0, none⟩ = some (.pointer (some ⟨W1.heap.size, 0, none⟩)) := by simpa using bw.cell 0
 have HB := hQ_ (zd bx3)
 have HR := hQ_ (block_st HX.out.1 W3 _ _ hi3 (by simp) b HX.out.2.1 cs HX.out.2.2.2.2.2.2)
 have HC := hQ_ (fun (w2 : World) (s2 : WSt) (P : WP W1 E W1.heap.size (fun k => newF W1 k /\ k < W2.heap.size) s2 W3 w2) => aQ (P.fine.cell c0 (fun h => absurd h.2 (by simp))) (WP.closed (F := newF W1) HI2.out g3 P))
 have HG := hQ_ hW3
 clear hi3 bx3 bw g3 hW3
 rw [HG.out]
 go_wp2_with (refine wpList_load_mid rfl 32 _ rfl w.heap.size 0 rfl cs.toList _ HB.out Tryz.underlying32 rfl (by rw [Array.length_toList, HX.out.2.2.1]; exact sz_Bk) ?_; rw [Array.toArray_toList])
 refine HR.out.mono ?_
 rintro e W4 ⟨rfl, h4⟩
 obtain ⟨c4, P4⟩ := HC.out _ _ h4
 have HD := hQ_ (done_st P4.wi (by have := HX.out.2.1.adds (0, []); exact Nat.le_trans this (by simp)))
 clear c0 h4 P4
 go_wp2_with fail
 refine HD.out.mono ?_
 rintro e W5 ⟨g5, hcase⟩
 have hg : w.grownBy W5 none := za HX.out.2.2.2.2.1 g5
 rcases hcase with ⟨h0, A, c, rfl, hown⟩ | ⟨h0, rfl⟩
 · have HO := hQ_ (aQ hg (aQ h0 (hown.mono (base' := w.heap.size) (by have := HX.out.2.2.2.2.2.1; omega))))
   clear hg h0 hown g5
   go_wp2_with fail
   go_ret2
   exact ⟨HO.out.1, .inl ⟨HO.out.2.1, A, c, rfl, HO.out.2.2⟩⟩
 · have HO := hQ_ (aQ hg h0)
   clear hg h0 g5
   go_wp2_with fail
   go_ret2
   exact ⟨HO.out.1, .inr ⟨HO.out.2, rfl⟩⟩
theorem cbytes_is (w : World) (he : ErrAt w w.heap.size 0 (E 0)) (b : Bk) (hb : b.At w) (cs : Array Value) (hcs : cs = b.val) :
    Calls Tryz.prog 51 #[.agg cs] w fun e w' => WOut w w' E (bkS b) e := by
 obtain ⟨W1, hW1⟩ : ∃ W1, w.alloc (.cells cs 32) = W1 := ⟨_, rfl⟩
 have g1 : w.grownBy W1 none := by rw [<- hW1]; exact gQ
 have bx : Blk W1 w.heap.size 32 cs := by rw [<- hW1]; exact Blk.new w _ _
 have hsz : cs.size = 39 := by rw [hcs]; exact b.val_size hb
 have z1 := g1.size
 have HR := hQ_ (cwrite_is W1 (E := E) ⟨g1.cell he.1 (by simp), by have := he.2; omega⟩ b (hb.grown g1) cs hcs)
 have HX := hQ_ (aQ hsz (aQ (zd bx) (aQ g1 z1)))
 have HW := hQ_ hW1
 clear he hb hW1 g1 bx hsz hcs z1
 go_enter Tryz.func51, Tryz.ntmps51
 go_upto_region 1 with (fail)
 rw [HW.out]
 go_wp2_with (refine wpList_load_mid rfl 32 _ rfl w.heap.size 0 rfl cs.toList _ HX.out.2.1 Tryz.underlying32 rfl (by rw [Array.length_toList, HX.out.1]; exact sz_Bk) ?_; rw [Array.toArray_toList])
 refine HR.out.mono ?_
 rintro e W5 ⟨g5, hcase⟩
 have hg : w.grownBy W5 none := za HX.out.2.2.1 g5
 rcases hcase with ⟨h0, A, c, rfl, hown⟩ | ⟨h0, rfl⟩
 · have HO := hQ_ (aQ hg (aQ h0 (hown.mono (base' := w.heap.size) HX.out.2.2.2)))
   clear hg h0 hown g5
   go_wp2_with fail
   go_ret2
   exact ⟨HO.out.1, .inl ⟨HO.out.2.1, A, c, rfl, HO.out.2.2⟩⟩
 · have HO := hQ_ (aQ hg h0)
   clear hg h0 g5
   go_wp2_with fail
   go_ret2
   exact ⟨HO.out.1, .inr ⟨HO.out.2, rfl⟩⟩
def idD (b : Bk) : List Int := if (bkS b).1 = 0 then ofS 6 [intsB (bkS b).2] else List.replicate 16 0
theorem idD_ok {b : Bk} (h : (bkS b).1 = 0) : idD b = ofS 6 [intsB (bkS b).2] := if_pos h
theorem idD_no {b : Bk} (h : (bkS b).1 ≠ 0) : idD b = List.replicate 16 0 := if_neg h
theorem z7 (b : Bk) : (idD b).length = 16 := by
 by_cases h : (bkS b).1 = 0
 · rw [idD_ok h]; exact zag 6 _
 · rw [idD_no h]; rfl
theorem own_bytesI {w : World} {base : Nat} {A : Option Addr} {n c : Nat} {l : List UInt8} (h : w.ownsRow base 5 1 (.slice A n c) n (Lib.byteCells l)) : BytesI w A (intsB l) := BytesI.of (zba h)
theorem own_cap {w : World} {base : Nat} {e : TypeId} {A : Option Addr} {n c : Nat} {xs : List Value} (h : w.ownsRow base e 1 (.slice A n c) n xs) : n <= c := by
 rcases h.2 with ⟨hv, h0⟩ | ⟨g, cap, cur, hv, _, _, hnc, _⟩
 · cases hv; omega
 · cases hv; exact hnc
theorem id_is (w : World) (hR : Rounds w) (he : ErrAt w w.heap.size 0 (E 0)) (b : Bk) (hb : b.At w) (cs : Array Value) (hcs : cs = b.val) (dv : Array Value) (hdv : dv = arrV .u8 (idD b)) :
    Calls Tryz.prog 36 #[.agg cs] w fun e w' => e = .returned (.tuple #[.agg dv, evOf E (bkS b).1]) /\ w.grownBy w' none := by
 obtain ⟨Z, hZ⟩ : ∃ Z, Z = arrV .u8 (List.replicate 16 0) := ⟨_, rfl⟩
 have hz : ∀ w, Sem.run Tryz.prog (zeroValue 24) w = .ok (.agg Z) w := fun w => by rw [hZ]; exact z16run w
 have hbz : ∀ w, Sem.run Tryz.prog (Instr.build 24 #[]) w = .ok (.agg Z) w := fun w => by rw [hZ]; refine run_build w _ _ _ ?_; kernel_rfl
 have hZ16 : Z.size = 16 := by rw [hZ]; rfl
 have hZ1 : (Z.all fun v => v.oneCell') = true := by rw [hZ]; exact zu _ _
 have hd16 : dv.size = 16 := by rw [hdv, zf, z7]
 have hd1 : (dv.all fun v => v.oneCell') = true := by rw [hdv]; exact zu _ _
 obtain ⟨W1, hW1⟩ : ∃ W1, (w.alloc (.cells cs 32)).alloc (.cells Z 24) = W1 := ⟨_, rfl⟩
 have g1 : w.grownBy W1 none := by rw [<- hW1]; exact za (gQ) (gQ)
 have bx : Blk W1 w.heap.size 32 cs := by rw [<- hW1]; exact (Blk.new w _ _).alloc _
 have bd : Blk W1 (w.heap.size + 1) 24 Z := by
  have := Blk.new (w.alloc (.cells cs 32)) 24 Z
  rw [<- hW1]; simpa using this
 have hsz : cs.size = 39 := by rw [hcs]; exact b.val_size hb
 have z1 := g1.size
 have hlen : (bkS b).2.length <= 8486 := by have := hb.adds (0, []); simpa [bkS] using this
 have HR := hQ_ (cbytes_is W1 (E := E) ⟨g1.cell he.1 (by simp), by have := he.2; omega⟩ b (hb.grown g1) cs hcs)
 have HX := hQ_ (aQ hsz (aQ (zd bx) (aQ g1 (aQ z1 (aQ bd (aQ (hR.grown g1 (by simp)) hlen))))))
 have HZ := hQ_ (aQ hZ (aQ hZ16 hZ1))
 have HD := hQ_ (aQ hdv (aQ hd16 hd1))
 have HW := hQ_ hW1
 clear he hb hW1 g1 bx hsz hcs z1 bd hR hlen hZ hZ16 hZ1 hdv hd16 hd1
 go_enter Tryz.func36, Tryz.ntmps36
 go_upto_region 1 with (fail)
 rw [HW.out]
 go_wp2_with (refine wpList_load_mid rfl 32 _ rfl w.heap.size 0 rfl cs.toList _ HX.out.2.1 Tryz.underlying32 rfl (by rw [Array.length_toList, HX.out.1]; exact sz_Bk) ?_; rw [Array.toArray_toList])
 refine HR.out.mono ?_
 rintro e W5 ⟨g5, hcase⟩
 have hg : w.grownBy W5 none := za HX.out.2.2.1 g5
 have hbd : Blk W5 (w.heap.size + 1) 24 Z := HX.out.2.2.2.2.1.grown g5 (by simp)
 rcases hcase with ⟨h0, A, c, rfl, hown⟩ | ⟨h0, rfl⟩
 · have hR5 := HX.out.2.2.2.2.2.1.grown g5 (row := none) (by simp)
   obtain ⟨N, hN⟩ : ∃ N, N = (bkS b).2.length := ⟨_, rfl⟩
   rw [<- hN] at hown ⊢
   obtain ⟨W6, hW6⟩ : ∃ W6, W5.alloc (.cells #[.slice A N c] 81) = W6 := ⟨_, rfl⟩
   have g6 : W5.grownBy W6 none := by rw [<- hW6]; exact gQ
   have b6 : Blk W6 W5.heap.size 81 #[.slice A N c] := by rw [<- hW6]; exact Blk.new _ _ _
   have hO := of_is W6 (hR5.grown g6 (by simp)) 6 (some ⟨W5.heap.size, 0, none⟩) 1 1 [intsB (bkS b).2] rfl (parts1' b6 (by simp [intsB, hN]) (own_cap hown) ((own_bytesI hown).grown g6)) (by omega) (fun p hp => by obtain rfl := List.mem_singleton.1 hp; have := HX.out.2.2.2.2.2.2; simp only [intsB, List.length_map]; omega)
   have HO := hQ_ (show Calls Tryz.prog 52 #[.int .i64 6, .slice (some ⟨W5.heap.size, 0, none⟩) 1 1] W6 fun e w' => e = .returned (.agg dv) /\ W6.grownBy w' none by
    rw [HD.out.1, idD_ok h0]; exact hO)
   have HG := hQ_ (aQ (za hg g6) (aQ (hbd.grown g6 (by simp)) h0))
   have HW6 := hQ_ hW6
   clear hg hbd h0 hown g5 hR5 hN g6 b6 hO hW6
   go_wp2_with fail
   rw [HW6.out]
   refine HO.out.mono ?_
   rintro e W7 ⟨rfl, g7⟩
   have HG7 := hQ_ (aQ (za HG.out.1 g7) (HG.out.2.1.grown g7 (by simp)))
   clear g7
   go_wp2_with (refine wpList_store_row rfl 24 _ _ rfl (w.heap.size + 1) dv rfl rfl 24 _ HG7.out.2 (by rw [HD.out.2.1]; exact sz_Dg) (by rw [HD.out.2.1, HZ.out.2.1]) HD.out.2.2 ?_)
   refine bodyPost_ret (zr rfl _ _ _ ⟨w.heap.size + 1, 0, none⟩ (.agg dv) rfl (run_loadVar_row _ (w.heap.size + 1) 24 24 _ (0, 0) _ (HG7.out.2.row _) Tryz.underlying24 rfl (by rw [HD.out.2.1]; exact sz_Dg))) rfl ?_
   refine ⟨?_, zc HG7.out.1 (.inl (by omega)) _⟩
   rw [HG.out.2.2]; rfl
 · obtain ⟨a, ha⟩ : ∃ a, evOf E (bkS b).1 = errV a := by
     cases hk : (bkS b).1 with
     | zero => exact absurd hk h0
     | succ k => exact ⟨E k, rfl⟩
   have hdz : dv = Z := by rw [HD.out.1, HZ.out.1, idD_no h0]
   subst hdz
   rw [ha]
   have HA := hQ_ ha
   have HG := hQ_ (aQ hg hbd)
   clear hg hbd h0 g5 ha
   go_wp2_with (refine wpList_store_row rfl 24 _ _ rfl (w.heap.size + 1) dv rfl rfl 24 _ HG.out.2 (by rw [HD.out.2.1]; exact sz_Dg) rfl HD.out.2.2 ?_)
   refine bodyPost_ret (zr rfl _ _ _ ⟨w.heap.size + 1, 0, none⟩ (.agg dv) rfl (run_loadVar_row _ (w.heap.size + 1) 24 24 _ (0, 0) _ (HG.out.2.row _) Tryz.underlying24 rfl (by rw [HD.out.2.1]; exact sz_Dg))) rfl ?_
   exact ⟨by rw [HA.out]; rfl, zc HG.out.1 (.inl (by omega)) _⟩
end
end
section
def genB (e : Int) (p : List Int) : Bk := ⟨e, 0, p, ⟨0, 0, List.replicate 16 0, none, 0, []⟩, none, 0, [], none, 0, []⟩
theorem genB_at (w : World) (e : Int) {p : List Int} (hp : isDig p) : (genB e p).At w :=
 ⟨hp, ⟨zcc, fun h => absurd rfl h, fun _ hs => absurd hs List.not_mem_nil⟩, ⟨fun h => absurd rfl h, fun _ hs => absurd hs List.not_mem_nil⟩, fun h => absurd rfl h, fun _ hs => absurd hs List.not_mem_nil⟩
theorem zdk {most : Int} (hm : 0 <= most) (f : WSt -> WSt) (s : WSt) : sPut 0 most f s = f (sNum 0 1 s) := by
 unfold sPut
 rw [if_neg (by omega)]
 rfl
def Good (s : WSt) (n : Nat) : Prop := s.1 = 0 /\ s.2.length = n
theorem zek {s : WSt} {n m : Nat} (h : Good s n) (x : List UInt8) (hm : x.length = m) : Good (sFix x s) (n + m) := by
 obtain ⟨e, l⟩ := s
 obtain ⟨rfl, rfl⟩ := h
 subst hm
 exact ⟨rfl, List.length_append⟩
theorem zbe {s : WSt} {n : Nat} (h : Good s n) {e z : Int} {k : Nat} (hz : z = (k : Int)) (h1 : 1 <= k) (h8 : k <= 8) (h0 : 0 <= e) (he : e.toNat < 256 ^ k) : Good (sNum e z s) (n + k) := by
 subst hz
 obtain ⟨m, rfl⟩ := Int.eq_ofNat_of_zero_le h0
 have hb : badNum (m : Int) (k : Int) = false := by
  rw [bad_false_ou h1 h8, Nat.div_eq_of_lt (by simpa using he)]
  rfl
 unfold sNum
 rw [if_neg (by rw [hb]; simp)]
 exact zek h _ (by rw [zau]; simp)
def genS (e : Int) (p : List Int) (s : WSt) : WSt := sNum 0 1 (sNum 0 1 (sNum 0 1 (sDig (List.replicate 16 0) (sNum 0 6 (sNum 0 4 (sDig p (sNum 0 6 (sNum e 4 s))))))))
theorem genS_is (e : Int) (p : List Int) (s : WSt) : sBk (genB e p) s = genS e p s := by
 show sPut 0 7 (sAll sVd []) (sPut 0 4 (sAll sTx []) (sPut 0 7 (sAll sSg []) (sDig (List.replicate 16 0) (sTurn 0 0 (sDig p (sTurn e 0 s)))))) = _
 rw [zdk (by omega), zdk (by omega), zdk (by omega), zd7, zd7, zd7]
 unfold genS sTurn
 rfl
theorem gen_ok {e : Int} {p : List Int} (hp : p.length = 16) (h0 : 0 <= e) (h : e < 4294967296) : (bkS (genB e p)).1 = 0 /\ (bkS (genB e p)).2.length = 55 := by
 unfold bkS
 rw [genS_is]
 unfold genS sDig
 have h0' : Good ((0, []) : WSt) 0 := ⟨rfl, rfl⟩
 have h1 := zbe h0' (e := e) (z := 4) (k := 4) rfl (by omega) (by omega) h0 (by omega)
 have h2 := zbe h1 (e := 0) (z := 6) (k := 6) rfl (by omega) (by omega) (by omega) (by decide)
 have h3 := zek h2 (dgB p) (by rw [zah, hp])
 have h4 := zbe h3 (e := 0) (z := 4) (k := 4) rfl (by omega) (by omega) (by omega) (by decide)
 have h5 := zbe h4 (e := 0) (z := 6) (k := 6) rfl (by omega) (by omega) (by omega) (by decide)
 have h6 := zek h5 (dgB (List.replicate 16 0)) (m := 16) (by rw [zah]; rfl)
 have h7 := zbe h6 (e := 0) (z := 1) (k := 1) rfl (by omega) (by omega) (by omega) (by decide)
 have h8 := zbe h7 (e := 0) (z := 1) (k := 1) rfl (by omega) (by omega) (by omega) (by decide)
 exact zbe h8 (e := 0) (z := 1) (k := 1) rfl (by omega) (by omega) (by omega) (by decide)
def genV (e : Int) (D : Array Value) : Array Value := #[.int .i64 e, .int .i64 0] ++ (D ++ (#[.int .i64 0, .int .i64 0] ++ (arrV .u8 (List.replicate 16 0) ++ #[.slice none 0 0]) ++ #[.slice none 0 0, .slice none 0 0]))
theorem genV_is (e : Int) (p : List Int) : (genB e p).val = genV e (arrV .u8 p) := rfl
end
section
theorem sz_QCo : (Tryz.prog.info? 29).map (·.size) = some 19 := by kernel_rfl
section
variable {w0 w w' w'' : World} {g : Nat} {F : Nat -> Prop} {s s' : WSt}
theorem zaa {zn zm : Int} {n most : Nat} (hz : zn = (n : Int)) (hm : zm = (most : Int)) (h : OI w0 g F s w) (hs : s.2.length <= 70368744177664) (hn : n <= 1000000) (hmo : most <= 255) :
    Calls Tryz.prog 65 #[.pointer (some ⟨g, 0, none⟩), .int .i64 zn, .int .i64 zm] w fun e w' => e = .returned (.tuple #[]) /\ OP w0 g F (sMany n zm s) w w' := by
 subst hz hm
 exact omany_st h hs n hn most hmo
theorem vo {z : Int} {k : Nat} (hz : z = (k : Int)) (n : Int) (s : WSt) : (sNum n z s).2.length <= s.2.length + k := by
 subst hz
 exact yl n k s
theorem zac (n : Nat) (most : Int) (s : WSt) : (sMany n most s).2.length <= s.2.length + 1 := by
 unfold sMany
 split
 · have := zco 1 0 s
   omega
 · exact yl (n : Int) 1 s
theorem oqc0_st (w : World) (F : Nat -> Prop) (s : WSt) (h : OI w0 g F s w) (hs : s.2.length <= 900000) (a b : Int) (ha : a <= 9223372036854775807) (hb : b <= 9223372036854775807) (d : List Int) (hd : isDig d) (A : Option Addr) (c : Nat) (cs : Array Value) (hcs : cs = #[.int .i64 a, .int .i64 b] ++ (arrV .u8 d ++ #[.slice A 0 c])) :
    Calls Tryz.prog 64 #[.pointer (some ⟨g, 0, none⟩), .agg cs] w fun e w' => e = .returned (.tuple #[]) /\ OP w0 g F ((fun s => sMany 0 7 (sDig d (sNum b 6 (sNum a 4 s)))) s) w w' := by
 obtain ⟨kd, hkd⟩ : ∃ kd, kd = arrV .u8 d := ⟨_, rfl⟩
 have hks : kd.size = 16 := by rw [hkd, zf, hd.1]
 have hcl : cs.toList = [.int .i64 a, .int .i64 b] ++ (kd.toList ++ [.slice A 0 c]) := by rw [hcs, hkd]; simp
 have H3 := hQ_ (aQ hks (aQ hkd hd))
 have HI := hQ_ (aQ ha hb)
 obtain ⟨W1, hW1⟩ : ∃ W1, w.alloc (.cells cs 29) = W1 := ⟨_, rfl⟩
 have g1 : w.grownBy W1 none := by rw [<- hW1]; exact gQ
 have bx : Blk W1 w.heap.size 29 cs := by rw [<- hW1]; exact Blk.new w _ _
 have hi := h.opened g1
 have HCl := hQ_ (fun (w2 : World) (s2 : WSt) (P : OP w0 g (fun k => F k /\ k < w.heap.size) s2 W1 w2) => OP.closed (F := F) h g1 P)
 have HB := hQ_ (fun (V : World) (s' : WSt) (P : OP w0 g (fun k => F k /\ k < w.heap.size) s' W1 V) => (show V.cell? ⟨w.heap.size, 0, none⟩ = some (.int .i64 a) /\ V.cell? ⟨w.heap.size, 1, none⟩ = some (.int .i64 b) /\ V.rangeAt w.heap.size 2 kd.toList /\ V.cell? ⟨w.heap.size, 18, none⟩ = some (.slice A 0 c) from
  by
   have bx : Blk V w.heap.size 29 cs := bx.kept P.fine (fun h => absurd h.2 (by omega))
   have r := zd bx
   exact ⟨by have := r 0 (.int .i64 a) (by rw [hcl]; rfl); simpa using this, by have := r 1 (.int .i64 b) (by rw [hcl]; rfl); simpa using this, by rw [hcl] at r; have := zx r; simpa using this, by have := r 18 (.slice A 0 c) (by rw [hcl, List.getElem?_append_right (by simp), List.getElem?_append_right (by simp [hks])]; simp [hks]); simpa using this⟩))
 have HP0 := hQ_ hi.same
 have HS0 := hQ_ hs
 have HW := hQ_ hW1
 clear h hi bx g1 hW1 hs hcs hks hkd hcl hd ha hb
 go_enter Tryz.func64, Tryz.ntmps64
 go_upto_region 1 with (fail)
 rw [HW.out]
 obtain ⟨k0, k1, k2, k3⟩ := HB.out _ _ HP0.out
 clear k1 k2 k3
 go_wp2_with fail
 refine (yz (z := 4) (k := 4) rfl HP0.out.wi (Nat.le_trans HS0.out (by omega)) (n := a) HI.out.1 (by omega) (by omega)).mono ?_
 rintro e V1 ⟨rfl, q0⟩
 have HP1 := hQ_ (HP0.out.trans q0)
 clear q0 k0
 have HS1 := hQ_ (show (sNum a 4 (s)).2.length <= 901000 from by have h1 := vo (z := 4) (k := 4) rfl (a) (s); have h2 := HS0.out; omega)
 obtain ⟨k0, k1, k2, k3⟩ := HB.out _ _ HP1.out
 clear k0 k2 k3
 go_wp2_with fail
 refine (yz (z := 6) (k := 6) rfl HP1.out.wi (Nat.le_trans HS1.out (by omega)) (n := b) HI.out.2 (by omega) (by omega)).mono ?_
 rintro e V2 ⟨rfl, q1⟩
 have HP2 := hQ_ (HP1.out.trans q1)
 clear q1 k1
 have HS2 := hQ_ (show (sNum b 6 (sNum a 4 (s))).2.length <= 902000 from by have h1 := vo (z := 6) (k := 6) rfl (b) (sNum a 4 (s)); have h2 := HS1.out; omega)
 obtain ⟨k0, k1, k2, k3⟩ := HB.out _ _ HP2.out
 clear k0 k1 k3
 have HR := hQ_ k2
 clear k2
 go_wp2_with (refine wpList_load_mid rfl 24 _ rfl w.heap.size 2 rfl (kd.toList) _ HR.out Tryz.underlying24 rfl (by rw [Array.length_toList, H3.out.1]; exact sz_Dg) ?_; rw [Array.toArray_toList])
 refine (zb5 HP2.out.wi (Nat.le_trans HS2.out (by omega)) d H3.out.2.2 kd H3.out.2.1).mono ?_
 rintro e V3 ⟨rfl, q2⟩
 have HP3 := hQ_ (HP2.out.trans q2)
 clear q2
 have HS3 := hQ_ (show (sDig d (sNum b 6 (sNum a 4 (s)))).2.length <= 903000 from by have h1 := ym H3.out.2.2.1 (sNum b 6 (sNum a 4 (s))); have h2 := HS2.out; omega)
 obtain ⟨k0, k1, k2, k3⟩ := HB.out _ _ HP3.out
 clear k0 k1 k2
 go_wp2_with fail
 refine (zaa (zn := 0) (n := 0) rfl (zm := 7) (most := 7) rfl HP3.out.wi (Nat.le_trans HS3.out (by omega)) (by omega) (by omega)).mono ?_
 rintro e V4 ⟨rfl, q3⟩
 have HP4 := hQ_ (HP3.out.trans q3)
 clear q3 k3
 obtain ⟨k0, k1, k2, k3⟩ := HB.out _ _ HP4.out
 clear k0 k1 k2
 go_wp2_with fail
 go_loopw [26] (fun i wr => i = .int .i64 0 /\ wr = V4) (fun _ _ => 0)
 case atStart => exact ⟨rfl, rfl⟩
 case round =>
  obtain ⟨rfl, rfl⟩ := hrel
  go_wp2_with fail
  go_end0
  exact ⟨rfl, HCl.out _ _ HP4.out⟩
theorem oblk0_st (w : World) (F : Nat -> Prop) (s : WSt) (h : OI w0 g F s w) (hs : s.2.length <= 800000) (a : Int) (ha : a <= 9223372036854775807) (p : List Int) (hp : isDig p) (cs : Array Value) (hcs : cs = genV a (arrV .u8 p)) :
    Calls Tryz.prog 45 #[.pointer (some ⟨g, 0, none⟩), .agg cs] w fun e w' => e = .returned (.tuple #[]) /\ OP w0 g F ((fun s => sMany 0 7 (sMany 0 4 (sMany 0 7 (sDig (List.replicate 16 0) (sNum 0 6 (sNum 0 4 (sDig p (sNum 0 6 (sNum a 4 s))))))))) s) w w' := by
 obtain ⟨kd, hkd⟩ : ∃ kd, kd = arrV .u8 p := ⟨_, rfl⟩
 obtain ⟨qv, hqv⟩ : ∃ qv, qv = (#[.int .i64 0, .int .i64 0] : Array Value) ++ (arrV .u8 (List.replicate 16 0) ++ #[.slice none 0 0]) := ⟨_, rfl⟩
 have hks : kd.size = 16 := by rw [hkd, zf, hp.1]
 have hqs : qv.size = 19 := by rw [hqv]; simp [zf]
 have hcl : cs.toList = [.int .i64 a, .int .i64 0] ++ (kd.toList ++ (qv.toList ++ [.slice none 0 0, .slice none 0 0])) := by rw [hcs, hkd, hqv]; simp [genV]
 have hcl2 : cs.toList = ([.int .i64 a, .int .i64 0] ++ kd.toList) ++ (qv.toList ++ [.slice none 0 0, .slice none 0 0]) := by rw [hcl]; simp
 have hl18 : ([Value.int .i64 a, Value.int .i64 0] ++ kd.toList).length = 18 := by simp [hks]
 have H3 := hQ_ (aQ hks (aQ hkd (aQ hqs (aQ hqv (aQ hp ha)))))
 obtain ⟨W1, hW1⟩ : ∃ W1, w.alloc (.cells cs 32) = W1 := ⟨_, rfl⟩
 have g1 : w.grownBy W1 none := by rw [<- hW1]; exact gQ
 have bx : Blk W1 w.heap.size 32 cs := by rw [<- hW1]; exact Blk.new w _ _
 have hi := h.opened g1
 have HCl := hQ_ (fun (w2 : World) (s2 : WSt) (P : OP w0 g (fun k => F k /\ k < w.heap.size) s2 W1 w2) => OP.closed (F := F) h g1 P)
 have HB := hQ_ (fun (V : World) (s' : WSt) (P : OP w0 g (fun k => F k /\ k < w.heap.size) s' W1 V) => (show V.cell? ⟨w.heap.size, 0, none⟩ = some (.int .i64 a) /\ V.cell? ⟨w.heap.size, 1, none⟩ = some (.int .i64 0) /\ V.rangeAt w.heap.size 2 kd.toList /\ V.rangeAt w.heap.size 18 qv.toList /\ V.cell? ⟨w.heap.size, 37, none⟩ = some (.slice none 0 0) /\ V.cell? ⟨w.heap.size, 38, none⟩ = some (.slice none 0 0) from
  by
   have bx : Blk V w.heap.size 32 cs := bx.kept P.fine (fun h => absurd h.2 (by omega))
   have r := zd bx
   exact ⟨by have := r 0 (.int .i64 a) (by rw [hcl]; rfl); simpa using this, by have := r 1 (.int .i64 0) (by rw [hcl]; rfl); simpa using this, by rw [hcl] at r; have := zx r; simpa using this, by rw [hcl2] at r; have := zx r; rw [hl18] at this; simpa using this, by have := r 37 (.slice none 0 0) (by rw [hcl2, List.getElem?_append_right (by rw [hl18]; omega), hl18, List.getElem?_append_right (by simp [hqs])]; simp [hqs]); simpa using this, by have := r 38 (.slice none 0 0) (by rw [hcl2, List.getElem?_append_right (by rw [hl18]; omega), hl18, List.getElem?_append_right (by simp [hqs])]; simp [hqs]); simpa using this⟩))
 have HP0 := hQ_ hi.same
 have HS0 := hQ_ hs
 have HW := hQ_ hW1
 clear h hi bx g1 hW1 hs hcs hks hkd hcl hcl2 hl18 hp ha hqs hqv
 go_enter Tryz.func45, Tryz.ntmps45
 go_upto_region 1 with (fail)
 rw [HW.out]
 obtain ⟨k0, k1, k2, k3, k4, k5⟩ := HB.out _ _ HP0.out
 clear k1 k2 k3 k4 k5
 go_wp2_with fail
 refine (yz (z := 4) (k := 4) rfl HP0.out.wi (Nat.le_trans HS0.out (by omega)) (n := a) H3.out.2.2.2.2.2 (by omega) (by omega)).mono ?_
 rintro e V1 ⟨rfl, q0⟩
 have HP1 := hQ_ (HP0.out.trans q0)
 clear q0 k0
 have HS1 := hQ_ (show (sNum a 4 (s)).2.length <= 801000 from by have h1 := vo (z := 4) (k := 4) rfl (a) (s); have h2 := HS0.out; omega)
 obtain ⟨k0, k1, k2, k3, k4, k5⟩ := HB.out _ _ HP1.out
 clear k0 k2 k3 k4 k5
 go_wp2_with fail
 refine (yz (z := 6) (k := 6) rfl HP1.out.wi (Nat.le_trans HS1.out (by omega)) (n := 0) (by omega) (by omega) (by omega)).mono ?_
 rintro e V2 ⟨rfl, q1⟩
 have HP2 := hQ_ (HP1.out.trans q1)
 clear q1 k1
 have HS2 := hQ_ (show (sNum 0 6 (sNum a 4 (s))).2.length <= 802000 from by have h1 := vo (z := 6) (k := 6) rfl (0) (sNum a 4 (s)); have h2 := HS1.out; omega)
 obtain ⟨k0, k1, k2, k3, k4, k5⟩ := HB.out _ _ HP2.out
 clear k0 k1 k3 k4 k5
 have HR := hQ_ k2
 clear k2
 go_wp2_with (refine wpList_load_mid rfl 24 _ rfl w.heap.size 2 rfl (kd.toList) _ HR.out Tryz.underlying24 rfl (by rw [Array.length_toList, H3.out.1]; exact sz_Dg) ?_; rw [Array.toArray_toList])
 refine (zb5 HP2.out.wi (Nat.le_trans HS2.out (by omega)) p H3.out.2.2.2.2.1 kd H3.out.2.1).mono ?_
 rintro e V3 ⟨rfl, q2⟩
 have HP3 := hQ_ (HP2.out.trans q2)
 clear q2
 have HS3 := hQ_ (show (sDig p (sNum 0 6 (sNum a 4 (s)))).2.length <= 803000 from by have h1 := ym H3.out.2.2.2.2.1.1 (sNum 0 6 (sNum a 4 (s))); have h2 := HS2.out; omega)
 obtain ⟨k0, k1, k2, k3, k4, k5⟩ := HB.out _ _ HP3.out
 clear k0 k1 k2 k4 k5
 have HR := hQ_ k3
 clear k3
 go_wp2_with (refine wpList_load_mid rfl 29 _ rfl w.heap.size 18 rfl (qv.toList) _ HR.out Tryz.underlying29 rfl (by rw [Array.length_toList, H3.out.2.2.1]; exact sz_QCo) ?_; rw [Array.toArray_toList])
 refine (oqc0_st _ _ _ HP3.out.wi (Nat.le_trans HS3.out (by omega)) 0 0 (by omega) (by omega) _ zcc none 0 qv H3.out.2.2.2.1).mono ?_
 rintro e V4 ⟨rfl, q3⟩
 have HP4 := hQ_ (HP3.out.trans q3)
 clear q3
 have HS4 := hQ_ (show ((sMany 0 7 (sDig (List.replicate 16 0) (sNum 0 6 (sNum 0 4 (sDig p (sNum 0 6 (sNum a 4 (s))))))))).2.length <= 804000 from by have h1 := zac 0 7 (sDig (List.replicate 16 0) (sNum 0 6 (sNum 0 4 (sDig p (sNum 0 6 (sNum a 4 (s))))))); have h2 := ym (d := List.replicate 16 0) rfl (sNum 0 6 (sNum 0 4 (sDig p (sNum 0 6 (sNum a 4 (s)))))); have h3 := vo (z := 6) (k := 6) rfl 0 (sNum 0 4 (sDig p (sNum 0 6 (sNum a 4 (s))))); have h4 := vo (z := 4) (k := 4) rfl 0 (sDig p (sNum 0 6 (sNum a 4 (s)))); have h5 := HS3.out; omega)
 obtain ⟨k0, k1, k2, k3, k4, k5⟩ := HB.out _ _ HP4.out
 clear k0 k1 k2 k3 k5
 go_wp2_with fail
 refine (zaa (zn := 0) (n := 0) rfl (zm := 4) (most := 4) rfl HP4.out.wi (Nat.le_trans HS4.out (by omega)) (by omega) (by omega)).mono ?_
 rintro e V5 ⟨rfl, q4⟩
 have HP5 := hQ_ (HP4.out.trans q4)
 clear q4 k4
 have HS5 := hQ_ (show (sMany 0 4 (sMany 0 7 (sDig (List.replicate 16 0) (sNum 0 6 (sNum 0 4 (sDig p (sNum 0 6 (sNum a 4 (s))))))))).2.length <= 805000 from by have h1 := zac 0 4 (sMany 0 7 (sDig (List.replicate 16 0) (sNum 0 6 (sNum 0 4 (sDig p (sNum 0 6 (sNum a 4 (s)))))))); have h2 := HS4.out; omega)
 obtain ⟨k0, k1, k2, k3, k4, k5⟩ := HB.out _ _ HP5.out
 clear k0 k1 k2 k3 k5
 go_wp2_with fail
 go_loopw [32] (fun i wr => i = .int .i64 0 /\ wr = V5) (fun _ _ => 0)
 case atStart => exact ⟨rfl, rfl⟩
 case round =>
  obtain ⟨rfl, rfl⟩ := hrel
  clear k4
  obtain ⟨k0, k1, k2, k3, k4, k5⟩ := HB.out _ _ HP5.out
  clear k0 k1 k2 k3 k4
  go_wp2_with fail
  refine (zaa (zn := 0) (n := 0) rfl (zm := 7) (most := 7) rfl HP5.out.wi (Nat.le_trans HS5.out (by omega)) (by omega) (by omega)).mono ?_
  rintro e V6 ⟨rfl, q5⟩
  have HP6 := hQ_ (HP5.out.trans q5)
  clear q5 k5
  obtain ⟨k0, k1, k2, k3, k4, k5⟩ := HB.out _ _ HP6.out
  clear k0 k1 k2 k3 k4
  go_wp2_with fail
  go_loopw [76] (fun i wr => i = .int .i64 0 /\ wr = V6) (fun _ _ => 0)
  case atStart => exact ⟨rfl, rfl⟩
  case round =>
   obtain ⟨rfl, rfl⟩ := hrel
   go_wp2_with fail
   go_end0
   exact ⟨rfl, HCl.out _ _ HP6.out⟩
end
end
section
attribute [local go_sem] Oper.semAt_some
theorem zap {w0 w : World} {b o : Nat} {cs : List Value} (h : w0.rangeAt b o cs) (k : Kept (fun k => w0.heap.size <= k) w0 w) : w.rangeAt b o cs := fun j u hu => by
 have hc := h j u hu
 have hb := World.block_lt_of_cell? w0 _ hc
 exact k.cell hc (fun hle => absurd hb (Nat.not_lt.2 hle))
theorem zao {α : Type} {f : α -> WSt -> WSt} (hf : ∀ x k l, f x (k + 1, l) = (k + 1, l)) (L : List α) (k : Nat) (l : List UInt8) : sAll f L (k + 1, l) = (k + 1, l) := by
 induction L with
 | nil => rfl
 | cons x L ih => rw [sAll, List.foldl_cons, hf]; exact ih
theorem za2 {α : Type} {f : α -> WSt -> WSt} (hf : ∀ x k l, f x (k + 1, l) = (k + 1, l)) (L : List α) (m : Nat) (hm : m <= 255) (s : WSt) : sAll f L (sMany L.length (m : Int) s) = sPut L.length (m : Int) (sAll f L) s := by
 unfold sMany sPut
 by_cases h : (m : Int) < (L.length : Int)
 · rw [if_pos h, if_pos (.inl h)]
   obtain ⟨e, l⟩ := s
   cases e with
   | zero => exact zao hf L 0 l
   | succ k => exact zao hf L k l
 · rw [if_neg h, if_neg (by omega)]
theorem zan (d : List Int) (k : Nat) (l : List UInt8) : sDig d (k + 1, l) = (k + 1, l) := zc8 _ k l
theorem zdy {ds : List (List Int)} (h : ∀ d ∈ ds, d.length = 16) (s : WSt) : (sAll sDig ds s).2.length <= s.2.length + ds.length * 16 := zcp h s
theorem sz_SIo : (Tryz.prog.info? 87).map (·.size) = some 3 := by kernel_rfl
theorem z16O : ∃ Z : Array Value, Z.size = 16 /\ ∀ w : World, Sem.run Tryz.prog (zeroValue 24) w = .ok (.agg Z) w := ⟨arrV .u8 (List.replicate 16 0), by rw [zf]; rfl, z16run⟩
section
variable {w0 w w' w'' : World} {g : Nat} {F : Nat -> Prop} {s s' : WSt}
theorem osig_st (w : World) (F : Nat -> Prop) (s : WSt) (h : OI w0 g F s w) (hs : s.2.length <= 70000000) (lf : Int) (hlf : lf <= 9223372036854775807) (A1 A2 : Option Addr) (n1 c1 n2 c2 : Nat) (cs ps : List (List Int)) (h1 : DigRow w0 A1 n1 cs) (h2 : DigRow w0 A2 n2 ps) (hn1 : n1 <= 100000) (hn2 : n2 <= 100000) (sv : Array Value) (hsv : sv = sigV lf (.slice A1 n1 c1) (.slice A2 n2 c2)) :
    Calls Tryz.prog 104 #[.pointer (some ⟨g, 0, none⟩), .agg sv] w fun e w' => e = .returned (.tuple #[]) /\ OP w0 g F (sSig lf cs ps s) w w' := by
 obtain ⟨Z, hZs, hz⟩ := z16O
 obtain ⟨W1, hW1⟩ : ∃ W1, w.alloc (.cells sv 87) = W1 := ⟨_, rfl⟩
 have g1 : w.grownBy W1 none := by rw [<- hW1]; exact gQ
 have bx : Blk W1 w.heap.size 87 sv := by rw [<- hW1]; exact Blk.new w _ _
 have hi := h.opened g1
 have HCl := hQ_ (fun (w2 : World) (s2 : WSt) (P : OP w0 g (fun k => F k /\ k < w.heap.size) s2 W1 w2) => OP.closed (F := F) h g1 P)
 have HB := hQ_ (fun (V : World) (s' : WSt) (P : OP w0 g (fun k => F k /\ k < w.heap.size) s' W1 V) => (show V.cell? ⟨w.heap.size, 0, none⟩ = some (.int .i64 lf) /\ V.cell? ⟨w.heap.size, 1, none⟩ = some (.slice A1 n1 c1) /\ V.cell? ⟨w.heap.size, 2, none⟩ = some (.slice A2 n2 c2) from by
  have bx : Blk V w.heap.size 87 sv := bx.kept P.fine (fun h => absurd h.2 (by omega))
  have k0 := bx.cell 0
  have k1 := bx.cell 1
  have k2 := bx.cell 2
  rw [hsv] at k0 k1 k2
  exact ⟨k0, k1, k2⟩))
 have HR1 := hQ_ (fun (V : World) (hV : Kept (fun k => w0.heap.size <= k) w0 V) (k : Nat) (hk : k < n1) => (show ∃ b off, A1 = some ⟨b, off, none⟩ /\ V.rangeAt b (off + k * 16) (arrV .u8 (cs.getD k zeroC)).toList from by
  rcases h1.2.2 with h0 | ⟨b, off, e, hD⟩
  · omega
  · exact ⟨b, off, e, zap (hD k (by rw [h1.1]; exact hk)) hV⟩))
 have HR2 := hQ_ (fun (V : World) (hV : Kept (fun k => w0.heap.size <= k) w0 V) (k : Nat) (hk : k < n2) => (show ∃ b off, A2 = some ⟨b, off, none⟩ /\ V.rangeAt b (off + k * 16) (arrV .u8 (ps.getD k zeroC)).toList from by
  rcases h2.2.2 with h0 | ⟨b, off, e, hD⟩
  · omega
  · exact ⟨b, off, e, zap (hD k (by rw [h2.1]; exact hk)) hV⟩))
 have HC := hQ_ (aQ h1.1 (aQ h1.2.1 (aQ h2.1 (aQ h2.2.1 (aQ hlf (aQ hn1 hn2))))))
 have HE := hQ_ (show sAll sDig ps (sMany n2 5 (sAll sDig cs (sMany n1 68 (sNum lf 1 s)))) = sSig lf cs ps s from by
  have e : sSig lf cs ps s = sPut ps.length ((5 : Nat) : Int) (sAll sDig ps) (sPut cs.length ((68 : Nat) : Int) (sAll sDig cs) (sNum lf 1 s)) := rfl
  rw [e, <- za2 zan ps 5 (by omega), <- za2 zan cs 68 (by omega), h1.1, h2.1]
  rfl)
 have HP0 := hQ_ hi.same
 have HS0 := hQ_ hs
 have HW := hQ_ hW1
 have HZ := hQ_ hZs
 clear h hi bx g1 hW1 hs hsv h1 h2 hn1 hn2 hlf hZs
 go_enter Tryz.func104, Tryz.ntmps104
 go_upto_region 1 with (fail)
 rw [HW.out]
 obtain ⟨k0, k1, k2⟩ := HB.out _ _ HP0.out
 clear k1 k2
 go_wp2_with fail
 refine (yz (z := 1) (k := 1) rfl HP0.out.wi (Nat.le_trans HS0.out (by omega)) (n := lf) HC.out.2.2.2.2.1 (by omega) (by omega)).mono ?_
 rintro e V1 ⟨rfl, q0⟩
 have HP1 := hQ_ (HP0.out.trans q0)
 clear q0 k0
 have HS1 := hQ_ (show (sNum lf 1 s).2.length <= 70000001 from by have h1 := vo (z := 1) (k := 1) rfl lf s; have h2 := HS0.out; omega)
 obtain ⟨k0, k1, k2⟩ := HB.out _ _ HP1.out
 clear k0 k2
 go_wp2_with fail
 refine (zaa (zn := n1) (n := n1) rfl (zm := 68) (most := 68) rfl HP1.out.wi (Nat.le_trans HS1.out (by omega)) (by have := HC.out.2.2.2.2.2.1; omega) (by omega)).mono ?_
 rintro e V2 ⟨rfl, q1⟩
 have HP2 := hQ_ (HP1.out.trans q1)
 clear q1 k1
 have HS2 := hQ_ (show (sMany n1 68 (sNum lf 1 s)).2.length <= 70000002 from by have h1 := zac n1 68 (sNum lf 1 s); have h2 := HS1.out; omega)
 obtain ⟨s2, hs2⟩ : ∃ s2, sMany n1 68 (sNum lf 1 s) = s2 := ⟨_, rfl⟩
 rw [hs2] at HP2 HS2 HE
 clear hs2 HP1 HS1
 obtain ⟨k0, k1, k2⟩ := HB.out _ _ HP2.out
 clear k0 k2
 go_wp2_with fail
 clear k1
 go_loopw [20] (fun i wr => ∃ k : Nat, k <= n1 /\ i = .int .i64 (k : Int) /\ Hid (OP w0 g (fun k => F k /\ k < w.heap.size) (sAll sDig (cs.take k) s2) W1 wr)) (fun i _ => n1 - (intOf i).toNat)
 case atStart => exact ⟨0, Nat.zero_le _, rfl, HP2⟩
 case round =>
  obtain ⟨k, hk, hi, HH⟩ := hrel
  obtain ⟨I, hI⟩ : ∃ I : Int, I = (k : Int) := ⟨_, rfl⟩
  rw [<- hI] at hi
  subst hi
  by_cases hlt : k < n1
  · have d1 : decide (I < (n1 : Int)) = true := by simp; omega
    have hIV : I < (n1 : Int) := by omega
    have hI0 : 0 <= I /\ I < 1000000 := by have := HC.out.2.2.2.2.2.1; omega
    have hkI : I.toNat = k := by omega
    obtain ⟨b, off, hA, hr⟩ := HR1.out wr HH.out.wi.kept k hlt
    subst hA
    obtain ⟨d, hd⟩ : ∃ d, cs.getD k zeroC = d := ⟨_, rfl⟩
    have hkl : k < cs.length := by rw [HC.out.1]; exact hlt
    have hget : cs[k] = d := by rw [<- hd, List.getD_eq_getElem?_getD, List.getElem?_eq_getElem hkl]; rfl
    have hdd : isDig d := by rw [<- hget]; exact HC.out.2.1 _ (List.getElem_mem hkl)
    have htk : cs.take (k + 1) = cs.take k ++ [d] := by rw [<- List.take_append_getElem hkl, hget]
    have hsl : (sAll sDig (cs.take k) s2).2.length <= 80000000 := by
     have h1 := zdy (ds := cs.take k) (fun x hx => (HC.out.2.1 x (List.mem_of_mem_take hx)).1) s2
     have h2 := HS2.out
     have h3 : (cs.take k).length <= k := List.length_take_le _ _
     have h4 := HC.out.2.2.2.2.2.1
     omega
    rw [hd, <- hkI] at hr
    obtain ⟨dv, hdv⟩ : ∃ dv, arrV .u8 d = dv := ⟨_, rfl⟩
    replace hr : wr.rangeAt b (off + I.toNat * 16) dv.toList := by rw [<- hdv]; exact hr
    have hds : dv.size = 16 := by rw [<- hdv, zf, hdd.1]
    have HA := hQ_ (aQ hr (aQ (show (Tryz.prog.info? 24).map (·.size) = some dv.size by rw [hds]; exact sz_Dg) (aQ (show Z.size = dv.size by rw [hds, HZ.out]) (aQ (show (dv.all fun v => v.oneCell') = true by rw [<- hdv]; exact zu _ _) (aQ hdv (aQ hdd (aQ htk (aQ hsl (aQ hI hlt)))))))))
    clear hr hds hd hkl hget hdd htk hsl hdv hI hkI hlt
    go_upto_region 5 with (fail)
    obtain ⟨q9, hq9⟩ : ∃ q, wr.heap.size = q := ⟨_, rfl⟩
    obtain ⟨W9, hW9⟩ : ∃ W, (wr.alloc (.cells Z 24)).setRow q9 dv = W := ⟨_, rfl⟩
    have bn9 : Blk (wr.alloc (.cells Z 24)) q9 24 Z := by rw [<- hq9]; exact Blk.new wr 24 Z
    have b9 : Blk W9 q9 24 dv := by rw [<- hW9]; exact bn9.row _
    have g9 : wr.grownBy W9 none := by rw [<- hW9]; exact zc (gQ) (.inl (by rw [hq9]; exact Nat.le_refl _)) _
    have H9 := hQ_ (aQ bn9 (aQ hW9 (aQ b9 g9)))
    clear bn9 hW9 b9 g9
    go_upto_region 6 with (first
     | (refine wpList_load_mid rfl 24 _ rfl b (off + I.toNat * 16) rfl dv.toList _ HA.out.1 Tryz.underlying24 rfl (by rw [Array.length_toList]; exact HA.out.2.1) ?_; rw [Array.toArray_toList])
     | (refine wpList_store_row rfl 24 _ _ rfl q9 dv rfl rfl 24 _ H9.out.1 HA.out.2.1 HA.out.2.2.1 HA.out.2.2.2.1 ?_))
    rw [H9.out.2.1]
    clear hq9
    go_wp2_with (refine wpList_load_mid rfl 24 _ rfl q9 0 rfl dv.toList _ (zd H9.out.2.2.1) Tryz.underlying24 rfl (by rw [Array.length_toList]; exact HA.out.2.1) ?_; rw [Array.toArray_toList])
    refine (zb5 (HH.out.wi.opened H9.out.2.2.2) (Nat.le_trans HA.out.2.2.2.2.2.2.2.1 (by omega)) d HA.out.2.2.2.2.2.1 dv HA.out.2.2.2.2.1.symm).mono ?_
    rintro e V9 ⟨rfl, q10⟩
    have H10 := hQ_ (HH.out.trans (OP.closed HH.out.wi H9.out.2.2.2 q10))
    clear q10
    have hw1 := w64 (I + 1) ⟨by omega, by omega⟩
    go_wp2_with fail
    go_roundw
    case rel =>
     have h1 := HA.out.2.2.2.2.2.2.2.2
     have h3 : ((k + 1 : Nat) : Int) = I + 1 := by have := h1.1; omega
     exact ⟨k + 1, by omega, by rw [h3], hQ_ (by rw [HA.out.2.2.2.2.2.2.1, ut]; exact H10.out)⟩
    case measure =>
     have h1 := HA.out.2.2.2.2.2.2.2.2
     simp only [intOf]
     omega
  · have d1 : decide (I < (n1 : Int)) = false := by simp; omega
    have hkn : k = cs.length := by rw [HC.out.1]; omega
    have HPy := hQ_ (show OP w0 g (fun k => F k /\ k < w.heap.size) (sAll sDig cs s2) W1 wr from by
     have := HH.out
     rw [hkn, List.take_length] at this
     exact this)
    clear hlt hI hkn
    have HS3 := hQ_ (show (sAll sDig cs s2).2.length <= 72000000 from by
     have h1 := zdy (ds := cs) (fun x hx => (HC.out.2.1 x hx).1) s2
     have h2 := HS2.out
     have h3 := HC.out.2.2.2.2.2.1
     have h4 := HC.out.1
     omega)
    obtain ⟨s3, hs3⟩ : ∃ s3, sAll sDig cs s2 = s3 := ⟨_, rfl⟩
    rw [hs3] at HPy HS3 HE
    clear hs3
    obtain ⟨k0, k1, k2⟩ := HB.out _ _ HPy.out
    clear k0 k1
    go_wp2_with fail
    refine (zaa (zn := n2) (n := n2) rfl (zm := 5) (most := 5) rfl HPy.out.wi (Nat.le_trans HS3.out (by omega)) (by have := HC.out.2.2.2.2.2.2; omega) (by omega)).mono ?_
    rintro e V5 ⟨rfl, q1⟩
    have HP5 := hQ_ (HPy.out.trans q1)
    clear q1 k2
    have HS5 := hQ_ (show (sMany n2 5 s3).2.length <= 72000001 from by have h1 := zac n2 5 s3; have h2 := HS3.out; omega)
    obtain ⟨s5, hs5⟩ : ∃ s5, sMany n2 5 s3 = s5 := ⟨_, rfl⟩
    rw [hs5] at HP5 HS5 HE
    clear hs5
    obtain ⟨k0, k1, k2⟩ := HB.out _ _ HP5.out
    clear k0 k1
    go_wp2_with fail
    clear k2
    go_loopw [36] (fun i wr => ∃ k : Nat, k <= n2 /\ i = .int .i64 (k : Int) /\ Hid (OP w0 g (fun k => F k /\ k < w.heap.size) (sAll sDig (ps.take k) s5) W1 wr)) (fun i _ => n2 - (intOf i).toNat)
    case atStart => exact ⟨0, Nat.zero_le _, rfl, HP5⟩
    case round =>
     obtain ⟨k, hk, hi, HH⟩ := hrel
     obtain ⟨I, hI⟩ : ∃ I : Int, I = (k : Int) := ⟨_, rfl⟩
     rw [<- hI] at hi
     subst hi
     by_cases hlt : k < n2
     · have d1 : decide (I < (n2 : Int)) = true := by simp; omega
       have hIV : I < (n2 : Int) := by omega
       have hI0 : 0 <= I /\ I < 1000000 := by have := HC.out.2.2.2.2.2.2; omega
       have hkI : I.toNat = k := by omega
       obtain ⟨b, off, hA, hr⟩ := HR2.out wr HH.out.wi.kept k hlt
       subst hA
       obtain ⟨d, hd⟩ : ∃ d, ps.getD k zeroC = d := ⟨_, rfl⟩
       have hkl : k < ps.length := by rw [HC.out.2.2.1]; exact hlt
       have hget : ps[k] = d := by rw [<- hd, List.getD_eq_getElem?_getD, List.getElem?_eq_getElem hkl]; rfl
       have hdd : isDig d := by rw [<- hget]; exact HC.out.2.2.2.1 _ (List.getElem_mem hkl)
       have htk : ps.take (k + 1) = ps.take k ++ [d] := by rw [<- List.take_append_getElem hkl, hget]
       have hsl : (sAll sDig (ps.take k) s5).2.length <= 80000000 := by
        have h1 := zdy (ds := ps.take k) (fun x hx => (HC.out.2.2.2.1 x (List.mem_of_mem_take hx)).1) s5
        have h2 := HS5.out
        have h3 : (ps.take k).length <= k := List.length_take_le _ _
        have h4 := HC.out.2.2.2.2.2.2
        omega
       rw [hd, <- hkI] at hr
       obtain ⟨dv, hdv⟩ : ∃ dv, arrV .u8 d = dv := ⟨_, rfl⟩
       replace hr : wr.rangeAt b (off + I.toNat * 16) dv.toList := by rw [<- hdv]; exact hr
       have hds : dv.size = 16 := by rw [<- hdv, zf, hdd.1]
       have HA := hQ_ (aQ hr (aQ (show (Tryz.prog.info? 24).map (·.size) = some dv.size by rw [hds]; exact sz_Dg) (aQ (show Z.size = dv.size by rw [hds, HZ.out]) (aQ (show (dv.all fun v => v.oneCell') = true by rw [<- hdv]; exact zu _ _) (aQ hdv (aQ hdd (aQ htk (aQ hsl (aQ hI hlt)))))))))
       clear hr hds hd hkl hget hdd htk hsl hdv hI hkI hlt
       go_upto_region 11 with (fail)
       obtain ⟨q9, hq9⟩ : ∃ q, wr.heap.size = q := ⟨_, rfl⟩
       obtain ⟨W9, hW9⟩ : ∃ W, (wr.alloc (.cells Z 24)).setRow q9 dv = W := ⟨_, rfl⟩
       have bn9 : Blk (wr.alloc (.cells Z 24)) q9 24 Z := by rw [<- hq9]; exact Blk.new wr 24 Z
       have b9 : Blk W9 q9 24 dv := by rw [<- hW9]; exact bn9.row _
       have g9 : wr.grownBy W9 none := by rw [<- hW9]; exact zc (gQ) (.inl (by rw [hq9]; exact Nat.le_refl _)) _
       have H9 := hQ_ (aQ bn9 (aQ hW9 (aQ b9 g9)))
       clear bn9 hW9 b9 g9
       go_upto_region 12 with (first
        | (refine wpList_load_mid rfl 24 _ rfl b (off + I.toNat * 16) rfl dv.toList _ HA.out.1 Tryz.underlying24 rfl (by rw [Array.length_toList]; exact HA.out.2.1) ?_; rw [Array.toArray_toList])
        | (refine wpList_store_row rfl 24 _ _ rfl q9 dv rfl rfl 24 _ H9.out.1 HA.out.2.1 HA.out.2.2.1 HA.out.2.2.2.1 ?_))
       rw [H9.out.2.1]
       clear hq9
       go_wp2_with (refine wpList_load_mid rfl 24 _ rfl q9 0 rfl dv.toList _ (zd H9.out.2.2.1) Tryz.underlying24 rfl (by rw [Array.length_toList]; exact HA.out.2.1) ?_; rw [Array.toArray_toList])
       refine (zb5 (HH.out.wi.opened H9.out.2.2.2) (Nat.le_trans HA.out.2.2.2.2.2.2.2.1 (by omega)) d HA.out.2.2.2.2.2.1 dv HA.out.2.2.2.2.1.symm).mono ?_
       rintro e V9 ⟨rfl, q10⟩
       have H10 := hQ_ (HH.out.trans (OP.closed HH.out.wi H9.out.2.2.2 q10))
       clear q10
       have hw1 := w64 (I + 1) ⟨by omega, by omega⟩
       go_wp2_with fail
       go_roundw
       case rel =>
        have h1 := HA.out.2.2.2.2.2.2.2.2
        have h3 : ((k + 1 : Nat) : Int) = I + 1 := by have := h1.1; omega
        exact ⟨k + 1, by omega, by rw [h3], hQ_ (by rw [HA.out.2.2.2.2.2.2.1, ut]; exact H10.out)⟩
       case measure =>
        have h1 := HA.out.2.2.2.2.2.2.2.2
        simp only [intOf]
        omega
     · have d1 : decide (I < (n2 : Int)) = false := by simp; omega
       have hkn : k = ps.length := by rw [HC.out.2.2.1]; omega
       have HPz := hQ_ (show OP w0 g (fun k => F k /\ k < w.heap.size) (sAll sDig ps s5) W1 wr from by
        have := HH.out
        rw [hkn, List.take_length] at this
        exact this)
       clear hlt hI hkn
       go_wp2_with fail
       go_end0
       exact ⟨rfl, by have := HCl.out _ _ HPz.out; rw [HE.out] at this; exact this⟩
end
end
section
attribute [local go_sem] Oper.semAt_some
theorem sz_SGo : (Tryz.prog.info? 89).map (·.size) = some 4 := by kernel_rfl
theorem zSGo : ∃ Z : Array Value, Z.size = 4 /\ ∀ w : World, Sem.run Tryz.prog (zeroValue 89) w = .ok (.agg Z) w := ⟨#[.int .i64 0, .int .i64 0, .slice none 0 0, .slice none 0 0], rfl, fun w => vu w (by kernel_rfl)⟩
theorem sNum_errO (n m : Int) (k : Nat) (l : List UInt8) : sNum n m (k + 1, l) = (k + 1, l) := u4 n m k l
theorem zbl {n : Nat} {m : Int} {f : WSt -> WSt} (hf : ∀ k l, f (k + 1, l) = (k + 1, l)) (k : Nat) (l : List UInt8) : sPut n m f (k + 1, l) = (k + 1, l) := by
 unfold sPut
 split
 · exact zdl _ k l
 · rw [u4]; exact hf k l
theorem zd6 (x : Sg) (k : Nat) (l : List UInt8) : sSg x (k + 1, l) = (k + 1, l) := by
 unfold sSg sSig
 rw [u4, u4, zbl (fun k l => zao zan _ k l), zbl (fun k l => zao zan _ k l)]
def SgFit (w : World) (x : Sg) : Prop := (DigRow w x.A1 x.n1 x.cs /\ DigRow w x.A2 x.n2 x.ps) /\ (x.n1 <= 100000 /\ x.n2 <= 100000) /\ (x.who <= 9223372036854775807 /\ x.lf <= 9223372036854775807)
section
variable {w0 w w' w'' : World} {g : Nat} {F : Nat -> Prop} {s s' : WSt}
theorem osigned_st (w : World) (F : Nat -> Prop) (s : WSt) (h : OI w0 g F s w) (hs : s.2.length <= 60000000) (x : Sg) (hx : SgFit w0 x) (xv : Array Value) (hxv : xv = x.cells) :
    Calls Tryz.prog 84 #[.pointer (some ⟨g, 0, none⟩), .agg xv] w fun e w' => e = .returned (.tuple #[]) /\ OP w0 g F (sSg x s) w w' := by
 obtain ⟨W1, hW1⟩ : ∃ W1, w.alloc (.cells xv 89) = W1 := ⟨_, rfl⟩
 have g1 : w.grownBy W1 none := by rw [<- hW1]; exact gQ
 have bx : Blk W1 w.heap.size 89 xv := by rw [<- hW1]; exact Blk.new w _ _
 have hi := h.opened g1
 have HCl := hQ_ (fun (w2 : World) (s2 : WSt) (P : OP w0 g (fun k => F k /\ k < w.heap.size) s2 W1 w2) => OP.closed (F := F) h g1 P)
 obtain ⟨sv, hsv⟩ : ∃ sv, sv = sigV x.lf (.slice x.A1 x.n1 x.c1) (.slice x.A2 x.n2 x.c2) := ⟨_, rfl⟩
 have HB := hQ_ (fun (V : World) (s' : WSt) (P : OP w0 g (fun k => F k /\ k < w.heap.size) s' W1 V) => (show V.cell? ⟨w.heap.size, 0, none⟩ = some (.int .i64 x.who) /\ V.rangeAt w.heap.size 1 sv.toList from by
  have bx : Blk V w.heap.size 89 xv := bx.kept P.fine (fun h => absurd h.2 (by omega))
  have r := zd bx
  have e1 : xv.toList = [.int .i64 x.who] ++ (sv.toList ++ []) := by rw [hxv, hsv]; simp [Sg.cells, Sg.sig]
  rw [e1] at r
  exact ⟨by have := r 0 (.int .i64 x.who) rfl; simpa using this, by have := zx r; simpa using this⟩))
 have HP0 := hQ_ hi.same
 have HS0 := hQ_ hs
 have HW := hQ_ hW1
 have HZ := hQ_ (aQ (show (Tryz.prog.info? 87).map (·.size) = some sv.size by rw [hsv]; exact sz_SIo) (aQ hsv hx))
 clear h hi bx g1 hW1 hs hsv hx hxv
 go_enter Tryz.func84, Tryz.ntmps84
 go_upto_region 1 with (fail)
 rw [HW.out]
 obtain ⟨k0, _⟩ := HB.out _ _ HP0.out
 go_wp2_with fail
 refine (yz (z := 1) (k := 1) rfl HP0.out.wi (Nat.le_trans HS0.out (by omega)) (n := x.who) HZ.out.2.2.2.2.1 (by omega) (by omega)).mono ?_
 rintro e V1 ⟨rfl, q0⟩
 have HP1 := hQ_ (HP0.out.trans q0)
 clear q0 k0
 have HS1 := hQ_ (show (sNum x.who 1 s).2.length <= 60000001 from by have h1 := vo (z := 1) (k := 1) rfl x.who s; have h2 := HS0.out; omega)
 go_wp2_with (refine wpList_load_mid rfl 87 _ rfl w.heap.size 1 rfl sv.toList _ (HB.out _ _ HP1.out).2 Tryz.underlying87 rfl (by rw [Array.length_toList]; exact HZ.out.1) ?_; rw [Array.toArray_toList])
 refine (osig_st V1 _ _ HP1.out.wi (Nat.le_trans HS1.out (by omega)) x.lf HZ.out.2.2.2.2.2 x.A1 x.A2 x.n1 x.c1 x.n2 x.c2 x.cs x.ps HZ.out.2.2.1.1 HZ.out.2.2.1.2 HZ.out.2.2.2.1.1 HZ.out.2.2.2.1.2 sv HZ.out.2.1).mono ?_
 rintro e V2 ⟨rfl, q1⟩
 have HP2 := hQ_ (HP1.out.trans q1)
 clear q1
 go_wp2_with fail
 go_end0
 exact ⟨rfl, HCl.out _ _ HP2.out⟩
theorem sAll_one {α : Type} {f : α -> WSt -> WSt} (m : Nat) (hf : ∀ x s, (f x s).2.length <= s.2.length + m) (L : List α) (s : WSt) : (sAll f L s).2.length <= s.2.length + L.length * m := by
 induction L generalizing s with
 | nil => simp [sAll]
 | cons x L ih =>
  rw [sAll, List.foldl_cons]
  have h1 := ih (f x s)
  have h2 := hf x s
  rw [sAll] at h1
  rw [List.length_cons, Nat.add_mul]
  omega
theorem sg_addsO {w : World} {x : Sg} (h : SgFit w x) (s : WSt) : (sSg x s).2.length <= s.2.length + 1172 := zc2 ⟨fun d hd => (h.1.1.2.1 d hd).1, fun d hd => (h.1.2.2.1 d hd).1⟩ s
theorem sgs_addsO {w : World} (L : List Sg) (h : ∀ x ∈ L, SgFit w x) (s : WSt) : (sAll sSg L s).2.length <= s.2.length + L.length * 1172 := by
 induction L generalizing s with
 | nil => simp [sAll]
 | cons x L ih =>
  rw [sAll, List.foldl_cons]
  have h1 := ih (fun y hy => h y (List.mem_cons_of_mem x hy)) (sSg x s)
  have h2 := sg_addsO (h x List.mem_cons_self) s
  rw [sAll] at h1
  rw [List.length_cons, Nat.add_mul]
  omega
def QcFit (w : World) (q : Qc) : Prop := (q.e <= 9223372036854775807 /\ q.r <= 9223372036854775807) /\ isDig q.Bl /\ SgsAt w q.A q.L /\ (∀ x ∈ q.L, SgFit w x) /\ q.L.length <= 1000
theorem oqc_st (w : World) (F : Nat -> Prop) (s : WSt) (h : OI w0 g F s w) (hs : s.2.length <= 50000000) (q : Qc) (hq : QcFit w0 q) (qv : Array Value) (hqv : qv = q.val) :
    Calls Tryz.prog 64 #[.pointer (some ⟨g, 0, none⟩), .agg qv] w fun e w' => e = .returned (.tuple #[]) /\ OP w0 g F (sQc q s) w w' := by
 obtain ⟨Z, hZs, hz⟩ := zSGo
 obtain ⟨n, hn⟩ : ∃ n, q.L.length = n := ⟨_, rfl⟩
 obtain ⟨kd, hkd⟩ : ∃ kd, kd = arrV .u8 q.Bl := ⟨_, rfl⟩
 have hks : kd.size = 16 := by rw [hkd, zf, hq.2.1.1]
 obtain ⟨W1, hW1⟩ : ∃ W1, w.alloc (.cells qv 29) = W1 := ⟨_, rfl⟩
 have g1 : w.grownBy W1 none := by rw [<- hW1]; exact gQ
 have bx : Blk W1 w.heap.size 29 qv := by rw [<- hW1]; exact Blk.new w _ _
 have hi := h.opened g1
 have HCl := hQ_ (fun (w2 : World) (s2 : WSt) (P : OP w0 g (fun k => F k /\ k < w.heap.size) s2 W1 w2) => OP.closed (F := F) h g1 P)
 have HB := hQ_ (fun (V : World) (s' : WSt) (P : OP w0 g (fun k => F k /\ k < w.heap.size) s' W1 V) => (show V.cell? ⟨w.heap.size, 0, none⟩ = some (.int .i64 q.e) /\ V.cell? ⟨w.heap.size, 1, none⟩ = some (.int .i64 q.r) /\ V.rangeAt w.heap.size 2 kd.toList /\ V.cell? ⟨w.heap.size, 18, none⟩ = some (.slice q.A n q.c) from by
  have bx : Blk V w.heap.size 29 qv := bx.kept P.fine (fun h => absurd h.2 (by omega))
  have r := zd bx
  have hcl : qv.toList = [.int .i64 q.e, .int .i64 q.r] ++ (kd.toList ++ [.slice q.A n q.c]) := by rw [hqv, hkd]; simp [Qc.val, hn]
  rw [hcl] at r
  exact ⟨by have := r 0 (.int .i64 q.e) rfl; simpa using this, by have := r 1 (.int .i64 q.r) rfl; simpa using this, by have := zx r; simpa using this, by
   have := r 18 (.slice q.A n q.c) (by rw [List.getElem?_append_right (by simp), List.getElem?_append_right (by simp [hks])]; simp [hks])
   simpa using this⟩))
 have HR := hQ_ (fun (V : World) (hV : Kept (fun k => w0.heap.size <= k) w0 V) (k : Nat) (x : Sg) (hk : q.L[k]? = some x) => (show ∃ b off, q.A = some ⟨b, off, none⟩ /\ V.rangeAt b (off + k * 4) x.cells.toList from by
  obtain ⟨hlt, hx⟩ := List.getElem?_eq_some_iff.1 hk
  obtain ⟨b, off, e, hc⟩ := hq.2.2.1 (by rintro e; rw [e] at hlt; simp at hlt)
  have := hc k hlt
  rw [hx] at this
  exact ⟨b, off, e, zap this hV⟩))
 have HC := hQ_ (aQ hn (aQ hq (aQ hks hkd)))
 have HE := hQ_ (show sAll sSg q.L (sMany n 7 (sDig q.Bl (sNum q.r 6 (sNum q.e 4 s)))) = sQc q s from by
  have e : sQc q s = sPut q.L.length ((7 : Nat) : Int) (sAll sSg q.L) (sDig q.Bl (sNum q.r 6 (sNum q.e 4 s))) := rfl
  rw [e, <- za2 zd6 q.L 7 (by omega), hn]
  rfl)
 have HP0 := hQ_ hi.same
 have HS0 := hQ_ hs
 have HW := hQ_ hW1
 have HZ := hQ_ hZs
 clear h hi bx g1 hW1 hs hqv hZs hks hkd hn hq
 go_enter Tryz.func64, Tryz.ntmps64
 go_upto_region 1 with (fail)
 rw [HW.out]
 obtain ⟨k0, k1, k2, k3⟩ := HB.out _ _ HP0.out
 clear k1 k2 k3
 go_wp2_with fail
 refine (yz (z := 4) (k := 4) rfl HP0.out.wi (Nat.le_trans HS0.out (by omega)) (n := q.e) HC.out.2.1.1.1 (by omega) (by omega)).mono ?_
 rintro e V1 ⟨rfl, q0⟩
 have HP1 := hQ_ (HP0.out.trans q0)
 clear q0 k0
 have HS1 := hQ_ (show (sNum q.e 4 s).2.length <= 50000004 from by have h1 := vo (z := 4) (k := 4) rfl q.e s; have h2 := HS0.out; omega)
 obtain ⟨k0, k1, k2, k3⟩ := HB.out _ _ HP1.out
 clear k0 k2 k3
 go_wp2_with fail
 refine (yz (z := 6) (k := 6) rfl HP1.out.wi (Nat.le_trans HS1.out (by omega)) (n := q.r) HC.out.2.1.1.2 (by omega) (by omega)).mono ?_
 rintro e V2 ⟨rfl, q1⟩
 have HP2 := hQ_ (HP1.out.trans q1)
 clear q1 k1
 have HS2 := hQ_ (show (sNum q.r 6 (sNum q.e 4 s)).2.length <= 50000010 from by have h1 := vo (z := 6) (k := 6) rfl q.r (sNum q.e 4 s); have h2 := HS1.out; omega)
 obtain ⟨k0, k1, k2, k3⟩ := HB.out _ _ HP2.out
 clear k0 k1 k3
 have HR2 := hQ_ k2
 clear k2
 go_wp2_with (refine wpList_load_mid rfl 24 _ rfl w.heap.size 2 rfl (kd.toList) _ HR2.out Tryz.underlying24 rfl (by rw [Array.length_toList, HC.out.2.2.1]; exact sz_Dg) ?_; rw [Array.toArray_toList])
 refine (zb5 HP2.out.wi (Nat.le_trans HS2.out (by omega)) q.Bl HC.out.2.1.2.1 kd HC.out.2.2.2).mono ?_
 rintro e V3 ⟨rfl, q2⟩
 have HP3 := hQ_ (HP2.out.trans q2)
 clear q2
 have HS3 := hQ_ (show (sDig q.Bl (sNum q.r 6 (sNum q.e 4 s))).2.length <= 50000026 from by have h1 := ym HC.out.2.1.2.1.1 (sNum q.r 6 (sNum q.e 4 s)); have h2 := HS2.out; omega)
 obtain ⟨k0, k1, k2, k3⟩ := HB.out _ _ HP3.out
 clear k0 k1 k2
 go_wp2_with fail
 refine (zaa (zn := n) (n := n) rfl (zm := 7) (most := 7) rfl HP3.out.wi (Nat.le_trans HS3.out (by omega)) (by have := HC.out.1; have := HC.out.2.1.2.2.2.2; omega) (by omega)).mono ?_
 rintro e V4 ⟨rfl, q3⟩
 have HP4 := hQ_ (HP3.out.trans q3)
 clear q3 k3
 have HS4 := hQ_ (show (sMany n 7 (sDig q.Bl (sNum q.r 6 (sNum q.e 4 s)))).2.length <= 50000027 from by have h1 := zac n 7 (sDig q.Bl (sNum q.r 6 (sNum q.e 4 s))); have h2 := HS3.out; omega)
 obtain ⟨s4, hs4⟩ : ∃ s4, sMany n 7 (sDig q.Bl (sNum q.r 6 (sNum q.e 4 s))) = s4 := ⟨_, rfl⟩
 rw [hs4] at HP4 HS4 HE
 clear hs4
 obtain ⟨k0, k1, k2, k3⟩ := HB.out _ _ HP4.out
 clear k0 k1 k2
 go_wp2_with fail
 clear k3
 have hnn : n <= 1000 := by rw [<- HC.out.1]; exact HC.out.2.1.2.2.2.2
 go_loopw [26] (fun i wr => ∃ k : Nat, k <= n /\ i = .int .i64 (k : Int) /\ Hid (OP w0 g (fun k => F k /\ k < w.heap.size) (sAll sSg (q.L.take k) s4) W1 wr)) (fun i _ => n - (intOf i).toNat)
 case atStart => exact ⟨0, Nat.zero_le _, rfl, HP4⟩
 case round =>
  obtain ⟨k, hk, hi, HH⟩ := hrel
  obtain ⟨I, hI⟩ : ∃ I : Int, I = (k : Int) := ⟨_, rfl⟩
  rw [<- hI] at hi
  subst hi
  by_cases hlt : k < n
  · have d1 : decide (I < (n : Int)) = true := by simp; omega
    have hIV : I < (n : Int) := by omega
    have hI0 : 0 <= I /\ I < 1000000 := by omega
    have hkI : I.toNat = k := by omega
    have hkl : k < q.L.length := by rw [HC.out.1]; exact hlt
    obtain ⟨x, hx⟩ : ∃ x, q.L[k] = x := ⟨_, rfl⟩
    have hmem : x ∈ q.L := by rw [<- hx]; exact List.getElem_mem hkl
    obtain ⟨b, off, hA, hr⟩ := HR.out wr HH.out.wi.kept k x (by rw [List.getElem?_eq_getElem hkl, hx])
    have htk : q.L.take (k + 1) = q.L.take k ++ [x] := by rw [<- List.take_append_getElem hkl, hx]
    have hsl : (sAll sSg (q.L.take k) s4).2.length <= 60000000 := by
     have h1 := sgs_addsO (w := w0) (q.L.take k) (fun y hy => HC.out.2.1.2.2.2.1 y (List.mem_of_mem_take hy)) s4
     have h2 := HS4.out
     have h3 : (q.L.take k).length <= k := List.length_take_le _ _
     omega
    rw [<- hkI] at hr
    obtain ⟨xv, hxv⟩ : ∃ xv, xv = x.cells := ⟨_, rfl⟩
    rw [<- hxv] at hr
    have hxs : xv.size = 4 := by rw [hxv]; rfl
    have HA := hQ_ (aQ hr (aQ (show (Tryz.prog.info? 89).map (·.size) = some xv.size by rw [hxs]; exact sz_SGo) (aQ (show Z.size = xv.size by rw [hxs, HZ.out]) (aQ (show (xv.all fun v => v.oneCell') = true by rw [hxv]; exact sg_one x) (aQ hxv (aQ hmem (aQ htk (aQ hsl (aQ hI hlt)))))))))
    clear hr hxs hx hkl hmem htk hsl hxv hI hkI hlt
    rw [hA]
    go_upto_region 7 with (fail)
    obtain ⟨q9, hq9⟩ : ∃ q, wr.heap.size = q := ⟨_, rfl⟩
    obtain ⟨W9, hW9⟩ : ∃ W, (wr.alloc (.cells Z 89)).setRow q9 xv = W := ⟨_, rfl⟩
    have bn9 : Blk (wr.alloc (.cells Z 89)) q9 89 Z := by rw [<- hq9]; exact Blk.new wr 89 Z
    have b9 : Blk W9 q9 89 xv := by rw [<- hW9]; exact bn9.row _
    have g9 : wr.grownBy W9 none := by rw [<- hW9]; exact zc (gQ) (.inl (by rw [hq9]; exact Nat.le_refl _)) _
    have H9 := hQ_ (aQ bn9 (aQ hW9 (aQ b9 g9)))
    clear bn9 hW9 b9 g9
    go_upto_region 8 with (first
     | (refine wpList_load_mid rfl 89 _ rfl b (off + I.toNat * 4) rfl xv.toList _ HA.out.1 Tryz.underlying89 rfl (by rw [Array.length_toList]; exact HA.out.2.1) ?_; rw [Array.toArray_toList])
     | (refine wpList_store_row rfl 89 _ _ rfl q9 xv rfl rfl 89 _ H9.out.1 HA.out.2.1 HA.out.2.2.1 HA.out.2.2.2.1 ?_))
    rw [H9.out.2.1]
    clear hq9
    go_wp2_with (refine wpList_load_mid rfl 89 _ rfl q9 0 rfl xv.toList _ (zd H9.out.2.2.1) Tryz.underlying89 rfl (by rw [Array.length_toList]; exact HA.out.2.1) ?_; rw [Array.toArray_toList])
    refine (osigned_st W9 _ _ (HH.out.wi.opened H9.out.2.2.2) (Nat.le_trans HA.out.2.2.2.2.2.2.2.1 (by omega)) x (HC.out.2.1.2.2.2.1 x HA.out.2.2.2.2.2.1) xv HA.out.2.2.2.2.1).mono ?_
    rintro e V9 ⟨rfl, q10⟩
    have H10 := hQ_ (HH.out.trans (OP.closed HH.out.wi H9.out.2.2.2 q10))
    clear q10
    have hw1 := w64 (I + 1) ⟨by omega, by omega⟩
    go_wp2_with fail
    go_roundw
    case rel =>
     have h1 := HA.out.2.2.2.2.2.2.2.2
     have h3 : ((k + 1 : Nat) : Int) = I + 1 := by have := h1.1; omega
     exact ⟨k + 1, by omega, by rw [h3], hQ_ (by rw [HA.out.2.2.2.2.2.2.1, ut]; exact H10.out)⟩
    case measure =>
     have h1 := HA.out.2.2.2.2.2.2.2.2
     simp only [intOf]
     omega
  · have d1 : decide (I < (n : Int)) = false := by simp; omega
    have hkn : k = q.L.length := by rw [HC.out.1]; omega
    have HPz := hQ_ (show OP w0 g (fun k => F k /\ k < w.heap.size) (sAll sSg q.L s4) W1 wr from by
     have := HH.out
     rw [hkn, List.take_length] at this
     exact this)
    clear hlt hI hkn
    go_wp2_with fail
    go_end0
    exact ⟨rfl, by have := HCl.out _ _ HPz.out; rw [HE.out] at this; exact this⟩
end
end
end Go.Proofs.YtigafnbofmiknaaGreatDoor
