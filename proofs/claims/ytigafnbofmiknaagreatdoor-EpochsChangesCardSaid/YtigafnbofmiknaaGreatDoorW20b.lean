/- Sh2, Sh3, Sh4, Sh5, Sh6 -/
import Derived.Test.YtigafnbofmiknaaGreatDoorW20a
import Derived.BigRegion
import Derived.BigQuiet
import Derived.ChangeKeysEq
import Derived.Deep.RegionWith
import Derived.Laws.CopyOwn
import Derived.Laws.MakeOwn
namespace Go.Proofs.YtigafnbofmiknaaGreatDoor
set_option maxRecDepth 100000
set_option maxHeartbeats 10000000
open Go.RowKit
section
def BytesN (w : World) (bb bo : Nat) (b : List Int) : Prop := ∀ j, j < b.length -> w.cell? ⟨bb, bo + j, none⟩ = some (.int .u8 (b.getD j 0))
theorem BytesN.grown {w w' : World} {bb bo : Nat} {b : List Int} {row : Option Nat} (h : BytesN w bb bo b) (hg : w.grownBy w' row) (hr : some bb ≠ row) : BytesN w' bb bo b := fun j hj => hg.cell (h j hj) hr
theorem schedule_is (w : World) (bb bo cap : Nat) (b : List Int) (hl : b.length = 64) (hb : BytesN w bb bo b) (hcap : 64 <= cap) :
    Calls Tryz.prog 115 #[.slice (some ⟨bb, bo, none⟩) 64 cap] w fun e w' => e = .returned (.agg (arrV .u32 (schS b 64))) /\ w.grownBy w' none := by
 have Hb := hQ_ hb
 have HL := hQ_ hl
 clear hb hl
 go_enter Tryz.func115, Tryz.ntmps115
 go_wp2_with fail
 rw [<- z64]
 have B1 := Blk.new (w.alloc (.cells (arrV .u32 (List.replicate 64 0)) 148)) 148 (arrV .u32 (List.replicate 64 0))
 have B0 := (Blk.new w 148 (arrV .u32 (List.replicate 64 0))).alloc (.cells (arrV .u32 (List.replicate 64 0)) 148)
 have kk := za (World.grownBy_alloc w (.cells (arrV .u32 (List.replicate 64 0)) 148) none) (World.grownBy_alloc _ (.cells (arrV .u32 (List.replicate 64 0)) 148) none)
 rw [World.size_alloc] at B1
 generalize (w.alloc (.cells (arrV .u32 (List.replicate 64 0)) 148)).alloc (.cells (arrV .u32 (List.replicate 64 0)) 148) = w1 at *
 go_loopw [11] (fun i wr => ∃ k : Nat, k <= 16 /\ i = .int .i64 (k : Int) /\ Blk wr (w.heap.size + 1) 148 (arrV .u32 (schS b k ++ List.replicate (64 - k) 0)) /\ Blk wr w.heap.size 148 (arrV .u32 (List.replicate 64 0)) /\ w.grownBy wr none) (fun i _ => 16 - (intOf i).toNat)
 case atStart => exact ⟨0, Nat.zero_le _, rfl, B1, B0, kk⟩
 case round =>
  obtain ⟨k, hk, hi, hB, hB0, hK⟩ := hrel
  obtain ⟨I, hI⟩ : ∃ I : Int, I = (k : Int) := ⟨_, rfl⟩
  rw [<- hI] at hi
  subst hi
  have hW := y6 b k
  by_cases hlt : k < 16
  · have d1 : decide (I < 16) = true := by simp; omega
    have c0 := (hK.cell (Hb.out (4 * k) (by rw [HL.out]; omega)) (by simp))
    have c1 := (hK.cell (Hb.out (4 * k + 1) (by rw [HL.out]; omega)) (by simp))
    have c2 := (hK.cell (Hb.out (4 * k + 2) (by rw [HL.out]; omega)) (by simp))
    have c3 := (hK.cell (Hb.out (4 * k + 3) (by rw [HL.out]; omega)) (by simp))
    have hwd : wordS b (schS b k) k = wordF (b.getD (4 * k) 0) (b.getD (4 * k + 1) 0) (b.getD (4 * k + 2) 0) (b.getD (4 * k + 3) 0) := by rw [wordS, if_pos hlt]
    generalize b.getD (4 * k) 0 = x0 at *
    generalize b.getD (4 * k + 1) 0 = x1 at *
    generalize b.getD (4 * k + 2) 0 = x2 at *
    generalize b.getD (4 * k + 3) 0 = x3 at *
    have HWD := hQ_ hwd
    clear hwd
    obtain ⟨N, hN⟩ : ∃ N : Nat, N = 4 * k := ⟨_, rfl⟩
    have s1 : wrap64 (4 * I) = (N : Int) := by rw [w64 _ ⟨by omega, by omega⟩]; omega
    have s2 : wrap64 ((N : Int) + 4) = ((N + 4 : Nat) : Int) := by rw [w64 _ ⟨by omega, by omega⟩]; omega
    have hN4 : N + 4 <= 64 := by omega
    rw [<- hN] at c0 c1 c2 c3
    rw [<- Nat.add_assoc] at c1 c2 c3
    have HN := hQ_ hN
    clear hN
    have hx : 0 <= I /\ I < 64 := by omega
    have hkI : I.toNat = k := by omega
    have ck : wr.cell? ⟨w.heap.size + 1, I.toNat, none⟩ = some (.int .u32 0) := by
     rw [hkI, Blk.cell hB k]
     simp [arrV, hW, List.getElem?_append, List.getElem?_replicate]; omega
    have fk := Blk.frozen hB I.toNat
    have HB := hQ_ hB
    have HB0 := hQ_ hB0
    have HK := hQ_ hK
    have HI := hQ_ (aQ hI (aQ hlt hkI))
    have HX := hQ_ hx
    have HW := hQ_ hW
    clear hB hB0 hI hlt hkI hk hx hW hK
    go_wp2_with fail
    have hx := HX.out
    go_region
    go_wp2_with fail
    go_roundw
    case rel =>
     obtain ⟨hI, hlt, hkI⟩ := HI.out
     have e : ((I + 1 : Int)) = ((k + 1 : Nat) : Int) := by omega
     refine ⟨k + 1, by omega, by rw [<- e], ?_, (HB0.out.far (p := ⟨w.heap.size + 1, I.toNat, none⟩) (by dsimp only; omega) _).drew, zh (ye HK.out (p := ⟨w.heap.size + 1, I.toNat, none⟩) (.inl (by dsimp only; omega)) _)⟩
     have h1 := HB.out.set I.toNat (.int .u32 (wordF x0 x1 x2 x3))
     have h2 := arr_push (q := .u32) (W := schS b k) (n := 64) (wordF x0 x1 x2 x3) (by rw [HW.out]; omega)
     rw [HW.out] at h2
     rw [hkI, h2] at h1
     rw [hkI, show schS b (k + 1) = schS b k ++ [wordF x0 x1 x2 x3] by rw [schS, HWD.out]]
     exact h1.drew
    case measure => obtain ⟨hI, hlt, hkI⟩ := HI.out; simp [intOf]; omega
  · have d1 : decide (I < 16) = false := by simp; omega
    obtain rfl : k = 16 := by omega
    have HK := hQ_ hK
    have HB := hQ_ hB
    have HB0 := hQ_ hB0
    clear hlt hk hI hW hK hB hB0
    go_wp2_with fail
    obtain ⟨wo, hwo⟩ : ∃ wo : World, wo = wr := ⟨_, rfl⟩
    rw [<- hwo] at HK HB HB0 ⊢
    go_loopw [6] (fun i wr => ∃ k : Nat, 16 <= k /\ k <= 64 /\ i = .int .i64 (k : Int) /\ Blk wr (w.heap.size + 1) 148 (arrV .u32 (schS b k ++ List.replicate (64 - k) 0)) /\ Blk wr w.heap.size 148 (arrV .u32 (List.replicate 64 0)) /\ w.grownBy wr none) (fun i _ => 64 - (intOf i).toNat)
    case atStart => exact ⟨16, Nat.le_refl _, by omega, rfl, HB.out, HB0.out, HK.out⟩
    case round =>
     obtain ⟨k, hk16, hk, hi, hB, hB0, hK⟩ := hrel
     obtain ⟨J, hJ⟩ : ∃ J : Int, J = (k : Int) := ⟨_, rfl⟩
     rw [<- hJ] at hi
     subst hi
     have hW := y6 b k
     by_cases hlt : k < 64
     · have d2 : decide (J < 64) = true := by simp; omega
       have hx : 16 <= J /\ J < 64 := by omega
       have get : ∀ m : Nat, m < k -> wr.cell? ⟨w.heap.size + 1, m, none⟩ = some (.int .u32 ((schS b k).getD m 0)) := fun m hm => by
        rw [Blk.cell hB m]
        simp [arrV, hW, List.getElem?_append, hm]
       have g16 := get (J - 16).toNat (by omega)
       have g15 := get (J - 15).toNat (by omega)
       have g7 := get (J - 7).toNat (by omega)
       have g2 := get (J - 2).toNat (by omega)
       have ck : wr.cell? ⟨w.heap.size + 1, J.toNat, none⟩ = some (.int .u32 0) := by
        rw [show J.toNat = k by omega, Blk.cell hB k]
        simp [arrV, hW, List.getElem?_append, List.getElem?_replicate]; omega
       have fk := Blk.frozen hB J.toNat
       have hwd : wordS b (schS b k) k = nextS ((schS b k).getD (J - 16).toNat 0) ((schS b k).getD (J - 15).toNat 0) ((schS b k).getD (J - 7).toNat 0) ((schS b k).getD (J - 2).toNat 0) := by
        rw [wordS, if_neg (by omega), show (J - 16).toNat = k - 16 by omega, show (J - 15).toNat = k - 15 by omega, show (J - 7).toNat = k - 7 by omega, show (J - 2).toNat = k - 2 by omega]
       generalize (schS b k).getD (J - 16).toNat 0 = y16 at *
       generalize (schS b k).getD (J - 15).toNat 0 = y15 at *
       generalize (schS b k).getD (J - 7).toNat 0 = y7 at *
       generalize (schS b k).getD (J - 2).toNat 0 = y2 at *
       have HWD := hQ_ hwd
       have HB2 := hQ_ hB
       have HB02 := hQ_ hB0
       have HK2 := hQ_ hK
       have HJ := hQ_ (aQ hJ (aQ hlt hk16))
       have HW := hQ_ hW
       clear hwd get hB hB0 hJ hlt hk hW hK hk16
       go_wp2_with fail
       go_region
       go_wp2_with fail
       refine (rot7 _ _).mono ?_
       rintro e w9 ⟨rfl, rfl⟩
       go_wp2_with fail
       refine (rot18 _ _).mono ?_
       rintro e w9 ⟨rfl, rfl⟩
       go_wp2_with fail
       refine (rot17 _ _).mono ?_
       rintro e w9 ⟨rfl, rfl⟩
       go_wp2_with fail
       refine (rot19 _ _).mono ?_
       rintro e w9 ⟨rfl, rfl⟩
       go_wp2_with fail
       go_region
       go_wp2_with fail
       go_roundw
       case rel =>
        obtain ⟨hJ, hlt, hk16⟩ := HJ.out
        have hkJ : J.toNat = k := by omega
        have e : ((J + 1 : Int)) = ((k + 1 : Nat) : Int) := by omega
        refine ⟨k + 1, by omega, by omega, by rw [<- e], ?_, ((HB02.out.drew).far (p := ⟨w.heap.size + 1, J.toNat, none⟩) (by dsimp only; omega) _).drew, zh (ye (zh HK2.out) (p := ⟨w.heap.size + 1, J.toNat, none⟩) (.inl (by dsimp only; omega)) _)⟩
        have h1 := HB2.out.set J.toNat (.int .u32 (nextS y16 y15 y7 y2))
        have h2 := arr_push (q := .u32) (W := schS b k) (n := 64) (nextS y16 y15 y7 y2) (by rw [HW.out]; omega)
        rw [HW.out] at h2
        rw [hkJ, h2] at h1
        rw [hkJ, show schS b (k + 1) = schS b k ++ [nextS y16 y15 y7 y2] by rw [schS, HWD.out]]
        exact h1.drew.drew
       case measure => obtain ⟨hJ, hlt, hk16⟩ := HJ.out; simp [intOf]; omega
     · have d2 : decide (J < 64) = false := by simp; omega
       obtain rfl : k = 64 := by omega
       rw [show schS b 64 ++ List.replicate (64 - 64) 0 = schS b 64 by simp] at hB
       have HB2 := hQ_ hB
       have HB02 := hQ_ hB0
       have HK2 := hQ_ hK
       have hcs : (arrV .u32 (schS b 64)).size = 64 := by rw [zf, y6]
       obtain ⟨cs, hcs'⟩ : ∃ cs, cs = arrV .u32 (schS b 64) := ⟨_, rfl⟩
       rw [<- hcs'] at hcs HB2
       have HI64 : (Tryz.prog.info? 148).map (·.size) = some cs.size := by rw [hcs]; kernel_rfl
       have h1c : (cs.all fun x => x.oneCell') = true := by rw [hcs']; simp [Value.oneCell']
       have HC := hQ_ (aQ hcs (aQ HI64 h1c))
       have HCS := hQ_ hcs'
       clear hlt hk hk16 hJ hB hB0 hK hcs hW HI64 h1c hcs'
       have hld : ∀ {old : Array Value}, Blk wr w.heap.size 148 old -> (loadVar 148 ⟨w.heap.size, 0, none⟩).run Tryz.prog (wr.setRow w.heap.size cs) = .ok (.agg cs) (wr.setRow w.heap.size cs) := fun h =>
        run_loadVar_row (wr.setRow w.heap.size cs) w.heap.size 148 148 cs (0, 0) _ (h.row cs) Tryz.underlying148 rfl HC.out.2.1
       go_wp2_with (first
        | (refine wpList_load_row rfl 148 _ rfl (w.heap.size + 1) rfl 148 cs (0, 0) _ HB2.out Tryz.underlying148 rfl HC.out.2.1 ?_)
        | (refine wpList_store_row rfl 148 _ _ rfl w.heap.size cs rfl rfl 148 _ HB02.out HC.out.2.1 (by rw [HC.out.1]; simp) HC.out.2.2 ?_))
       refine bodyPost_ret (z5 rfl _ _ _ ⟨w.heap.size, 0, none⟩ (.agg cs) rfl (hld HB02.out)) rfl ?_
       exact ⟨by rw [HCS.out], zc HK2.out (.inl (Nat.le_refl _)) cs⟩
end
section
def kS : List Int := [1116352408, 1899447441, 3049323471, 3921009573, 961987163, 1508970993, 2453635748, 2870763221, 3624381080, 310598401, 607225278, 1426881987, 1925078388, 2162078206, 2614888103, 3248222580, 3835390401, 4022224774, 264347078, 604807628, 770255983, 1249150122, 1555081692, 1996064986, 2554220882, 2821834349, 2952996808, 3210313671, 3336571891, 3584528711, 113926993, 338241895, 666307205, 773529912, 1294757372, 1396182291, 1695183700, 1986661051, 2177026350, 2456956037, 2730485921, 2820302411, 3259730800, 3345764771, 3516065817, 3600352804, 4094571909, 275423344, 430227734, 506948616, 659060556, 883997877, 958139571, 1322822218, 1537002063, 1747873779, 1955562222, 2024104815, 2227730452, 2361852424, 2428436474, 2756734187, 3204031479, 3329325298]
theorem uw : kS.length = 64 := by kernel_rfl
theorem index64 (w : World) {I : Int} {cs : Array Value} {v : Value} (hb : 0 <= I /\ I < 64) (hv : cs[I.toNat]? = some v) : Sem.run Tryz.prog (Instr.index 148 (.agg cs) (.int .i64 I)) w = .ok v w :=
 uu (n := 64) Tryz.underlying148 (by kernel_rfl) (by kernel_rfl) hb hv
theorem index8 (w : World) {I : Int} {cs : Array Value} {v : Value} (hb : 0 <= I /\ I < 8) (hv : cs[I.toNat]? = some v) : Sem.run Tryz.prog (Instr.index 149 (.agg cs) (.int .i64 I)) w = .ok v w :=
 uu (n := 8) Tryz.underlying149 (by kernel_rfl) (by kernel_rfl) hb hv
structure V8 where
 a : Int
 b : Int
 c : Int
 d : Int
 e : Int
 f : Int
 g : Int
 h : Int
def V8.l (v : V8) : List Int := [v.a, v.b, v.c, v.d, v.e, v.f, v.g, v.h]
def V8.of (l : List Int) : V8 := ⟨l.getD 0 0, l.getD 1 0, l.getD 2 0, l.getD 3 0, l.getD 4 0, l.getD 5 0, l.getD 6 0, l.getD 7 0⟩
def b0S (x : Int) : Int := xr (xr (rr 1073741824 4 x) (rr 524288 8192 x)) (rr 1024 4194304 x)
def b1S (x : Int) : Int := xr (xr (rr 67108864 64 x) (rr 2097152 2048 x)) (rr 128 33554432 x)
def oneS (v : V8) (k x : Int) : Int := (v.h + b1S v.e + xr (an v.e v.f) (an (bits BinOp.xor IntKind.u32 IntKind.u32.max v.e) v.g) + k + x) % 4294967296
def twoS (v : V8) : Int := (b0S v.a + xr (xr (an v.a v.b) (an v.a v.c)) (an v.b v.c)) % 4294967296
def roundS (v : V8) (k x : Int) : V8 := ⟨(oneS v k x + twoS v) % 4294967296, v.a, v.b, v.c, (v.d + oneS v k x) % 4294967296, v.e, v.f, v.g⟩
def runS (W : List Int) (v : V8) : Nat -> V8
 | 0 => v
 | n + 1 => roundS (runS W v n) (kS.getD n 0) (W.getD n 0)
def addS (ws v : List Int) : Nat -> List Int
 | 0 => ws
 | n + 1 => (addS ws v n).set n (((addS ws v n).getD n 0 + v.getD n 0) % 4294967296)
theorem zbk (ws v : List Int) (n : Nat) : (addS ws v n).length = ws.length := by
 induction n with
 | zero => rfl
 | succ n ih => simp [addS, ih]
def mixS (ws b : List Int) : List Int := addS ws (runS (schS b 64) (V8.of ws) 64).l 8
def hashV (ws bs : List Int) (n : Int) : Array Value := (ws.map (Value.int .u32) ++ (bs.map (Value.int .u8) ++ [Value.int .i64 n])).toArray
theorem vp {ws bs : List Int} {n : Int} {i : Nat} (h : i < ws.length) : (hashV ws bs n)[i]? = some (.int .u32 (ws.getD i 0)) := by
 simp [hashV, List.getElem?_append, h]
theorem hashV_byte {ws bs : List Int} {n : Int} {i : Nat} (h : i < bs.length) : (hashV ws bs n)[ws.length + i]? = some (.int .u8 (bs.getD i 0)) := by
 simp [hashV, List.getElem?_append, h]
theorem zb8 {ws bs : List Int} {n : Int} : (hashV ws bs n)[ws.length + bs.length]? = some (.int .i64 n) := by
 simp [hashV]
theorem hashV_setWord {ws bs : List Int} {n : Int} {i : Nat} (h : i < ws.length) (x : Int) : (hashV ws bs n).setIfInBounds i (.int .u32 x) = hashV (ws.set i x) bs n := by
 simp [hashV, h, List.map_set]
theorem hashV_setCount {ws bs : List Int} {n : Int} (x : Int) : (hashV ws bs n).setIfInBounds (ws.length + bs.length) (.int .i64 x) = hashV ws bs x := by
 simp [hashV]
def HashAt (w : World) (g : Nat) (ws bs : List Int) (n : Int) : Prop := Blk w g 161 (hashV ws bs n) /\ ws.length = 8 /\ bs.length = 64
def Rounds (w : World) : Prop := ∃ t, Blk w 18 t (arrV .u32 kS)
theorem Rounds.grown {w w' : World} {row : Option Nat} (h : Rounds w) (hg : w.grownBy w' row) (hr : some 18 ≠ row) : Rounds w' := ⟨h.choose, Blk.grown h.choose_spec hg hr⟩
theorem Rounds.lt {w : World} (h : Rounds w) : 18 < w.heap.size := Blk.lt h.choose_spec
theorem mix_is (w : World) (g : Nat) (ws bs : List Int) (n : Int) (hH : HashAt w g ws bs n) (hg : g ≠ 18) (hR : Rounds w) (bb bo cap : Nat) (b : List Int) (hl : b.length = 64) (hb : BytesN w bb bo b) (hcap : 64 <= cap) :
    Calls Tryz.prog 94 #[.pointer (some ⟨g, 0, none⟩), .slice (some ⟨bb, bo, none⟩) 64 cap] w fun e w' => e = .returned (.tuple #[]) /\ HashAt w' g (mixS ws b) bs n /\ w.grownBy w' (some g) := by
 obtain ⟨hB, hw8, hb64⟩ := hH
 obtain ⟨tR, hR⟩ := hR
 obtain ⟨a0, a1, a2, a3, a4, a5, a6, a7, rfl⟩ : ∃ a0 a1 a2 a3 a4 a5 a6 a7, ws = [a0, a1, a2, a3, a4, a5, a6, a7] := by
  match ws, hw8 with
  | [a0, a1, a2, a3, a4, a5, a6, a7], _ => exact ⟨a0, a1, a2, a3, a4, a5, a6, a7, rfl⟩
 have HM : mixS [a0, a1, a2, a3, a4, a5, a6, a7] b = addS [a0, a1, a2, a3, a4, a5, a6, a7] (runS (schS b 64) ⟨a0, a1, a2, a3, a4, a5, a6, a7⟩ 64).l 8 := rfl
 have HM := hQ_ HM
 have HB := hQ_ hB
 have HR := hQ_ hR
 have HG := hQ_ (aQ hg hb64)
 clear hB hR hg hb64 hw8
 go_enter Tryz.func94, Tryz.ntmps94
 go_wp2_with fail
 refine (schedule_is w bb bo cap b hl hb hcap).mono ?_
 rintro e w1 ⟨rfl, hk1⟩
 obtain ⟨W, hW⟩ : ∃ W, W = schS b 64 := ⟨_, rfl⟩
 have hWl : W.length = 64 := by rw [hW]; exact y6 b 64
 rw [<- hW] at HM ⊢
 have HW := hQ_ (aQ hWl hW)
 obtain ⟨cs, hcs⟩ : ∃ cs, cs = arrV .u32 W := ⟨_, rfl⟩
 rw [<- hcs]
 have hsz : cs.size = 64 := by rw [hcs, zf, hWl]
 have HI64 : (Tryz.prog.info? 148).map (·.size) = some cs.size := by rw [hsz]; kernel_rfl
 have HC := hQ_ (aQ hsz (aQ HI64 (aQ (show (cs.all fun x => x.oneCell') = true by rw [hcs]; simp [Value.oneCell']) hcs)))
 have HB1 := hQ_ (Blk.grown HB.out hk1 (by simp))
 have HR1 := hQ_ (Blk.grown HR.out hk1 (by simp))
 clear hW hWl hsz HI64 hcs hb hl hcap HB HR
 have HK := hQ_ hk1
 clear hk1
 go_wp2_with (refine wpList_store_row rfl 148 _ _ rfl w1.heap.size cs rfl rfl 148 _ (heap_alloc_new w1 _) HC.out.2.1 (by rw [HC.out.1]; simp) HC.out.2.2.1 ?_)
 rw [<- z64]
 have HA := hQ_ (Blk.row (Blk.new w1 148 (arrV .u32 (List.replicate 64 0))) cs)
 have HB2 := hQ_ (Blk.farRow (HB1.out.alloc (.cells (arrV .u32 (List.replicate 64 0)) 148)) (Nat.ne_of_lt HB1.out.lt) cs)
 have HR2 := hQ_ (Blk.farRow (HR1.out.alloc (.cells (arrV .u32 (List.replicate 64 0)) 148)) (Nat.ne_of_lt HR1.out.lt) cs)
 have HK2 := hQ_ (zc (za HK.out (World.grownBy_alloc w1 (.cells (arrV .u32 (List.replicate 64 0)) 148) none)) (g := w1.heap.size) (.inl (HK.out.size)) cs)
 have HL := hQ_ HB1.out.lt
 generalize (w1.alloc (.cells (arrV .u32 (List.replicate 64 0)) 148)).setRow w1.heap.size cs = w2 at *
 clear HB1 HR1 HK
 have c0 := (HB2.out.cell 0).trans (vp (i := 0) (by simp))
 have c1 := (HB2.out.cell 1).trans (vp (i := 1) (by simp))
 have c2 := (HB2.out.cell 2).trans (vp (i := 2) (by simp))
 have c3 := (HB2.out.cell 3).trans (vp (i := 3) (by simp))
 have c4 := (HB2.out.cell 4).trans (vp (i := 4) (by simp))
 have c5 := (HB2.out.cell 5).trans (vp (i := 5) (by simp))
 have c6 := (HB2.out.cell 6).trans (vp (i := 6) (by simp))
 have c7 := (HB2.out.cell 7).trans (vp (i := 7) (by simp))
 simp only [List.getD_cons_zero, List.getD_cons_succ] at c0 c1 c2 c3 c4 c5 c6 c7
 go_quiet (fail)
 generalize nq = m1
 go_wp2_with fail
 go_quiet (fail)
 obtain ⟨ks, hks⟩ : ∃ ks, ks = arrV .u32 kS := ⟨_, rfl⟩
 have hksz : ks.size = 64 := by rw [hks, zf, uw]
 have HKS := hQ_ (aQ hks (aQ (show (Tryz.prog.info? 148).map (·.size) = some ks.size by rw [hksz]; kernel_rfl) hksz))
 rw [<- hks] at HR2
 clear hks hksz
 go_wp2_with (refine wpList_load_row rfl 148 _ rfl 18 rfl tR ks (0, 0) _ HR2.out Tryz.underlying148 rfl HKS.out.2.1 ?_)
 have HA3 := hQ_ (show Blk (w2.drewN (m1 + nq)) w1.heap.size 148 cs from HA.out)
 have HB3 := hQ_ (show Blk (w2.drewN (m1 + nq)) g 161 _ from HB2.out)
 have HK3 := hQ_ (show w.grownBy (w2.drewN (m1 + nq)) none from ⟨HK2.out.os, HK2.out.tape, HK2.out.output, HK2.out.size, HK2.out.block⟩)
 generalize w2.drewN (m1 + nq) = w3 at *
 clear HA HB2 HK2 HR2 c0 c1 c2 c3 c4 c5 c6 c7
 go_loop [64, 5, 6, 7, 8, 9, 10, 11, 12] (fun i xa xb xc xd xe xf xg xh => ∃ (k : Nat) (v : V8), k <= 64 /\ i = .int .i64 (k : Int) /\ v = runS W ⟨a0, a1, a2, a3, a4, a5, a6, a7⟩ k /\ xa = .int .u32 v.a /\ xb = .int .u32 v.b /\ xc = .int .u32 v.c /\ xd = .int .u32 v.d /\ xe = .int .u32 v.e /\ xf = .int .u32 v.f /\ xg = .int .u32 v.g /\ xh = .int .u32 v.h) (fun i _ _ _ _ _ _ _ _ => 64 - (intOf i).toNat)
 case atStart => exact ⟨0, _, by omega, rfl, rfl, rfl, rfl, rfl, rfl, rfl, rfl, rfl, rfl⟩
 case round =>
  obtain ⟨k, v, hk, hi, hv, rfl, rfl, rfl, rfl, rfl, rfl, rfl, rfl⟩ := hrel
  obtain ⟨va, vb, vc, vd, ve, vf, vg, vh⟩ := v
  dsimp only
  obtain ⟨I, hI⟩ : ∃ I : Int, I = (k : Int) := ⟨_, rfl⟩
  rw [<- hI] at hi
  subst hi
  by_cases hlt : k < 64
  · have d1 : decide (I < 64) = true := by simp; omega
    have hkI : I.toNat = k := by omega
    have hx : 0 <= I /\ I < 64 := by omega
    obtain ⟨hks, _, hksz⟩ := HKS.out
    obtain ⟨kv, hkv⟩ : ∃ kv, kv = kS.getD k 0 := ⟨_, rfl⟩
    obtain ⟨wv, hwv⟩ : ∃ wv, wv = W.getD k 0 := ⟨_, rfl⟩
    have kk : ks[I.toNat]? = some (.int .u32 kv) := by rw [hkv, hkI, hks]; exact yr (by rw [uw]; exact hlt)
    have kw : w3.cell? ⟨w1.heap.size, I.toNat, none⟩ = some (.int .u32 wv) := by rw [hwv, HA3.out.cell, hkI, HC.out.2.2.2]; exact yr (by rw [HW.out.1]; exact hlt)
    have HI := hQ_ (aQ hI (aQ hlt hkI))
    have HV := hQ_ (aQ hv (aQ hkv hwv))
    have HX := hQ_ hx
    have kx := index64 w3 hx kk
    clear hI hlt hkI hv hks hx kk hkv hwv
    go_wp2_with fail
    refine (rot6 _ _).mono ?_
    rintro e9 w9 ⟨rfl, rfl⟩
    go_wp2_with fail
    refine (rot11 _ _).mono ?_
    rintro e9 w9 ⟨rfl, rfl⟩
    go_wp2_with fail
    refine (rot25 _ _).mono ?_
    rintro e9 w9 ⟨rfl, rfl⟩
    have hx := HX.out
    go_wp2_with fail
    clear hx
    refine (rot2 _ _).mono ?_
    rintro e9 w9 ⟨rfl, rfl⟩
    go_wp2_with fail
    refine (rot13 _ _).mono ?_
    rintro e9 w9 ⟨rfl, rfl⟩
    go_wp2_with fail
    refine (rot22 _ _).mono ?_
    rintro e9 w9 ⟨rfl, rfl⟩
    have hx := HX.out
    go_wp2_with fail
    go_round
    case rel =>
     obtain ⟨hI, hlt, hkI⟩ := HI.out
     obtain ⟨hv, hkv, hwv⟩ := HV.out
     exact ⟨k + 1, roundS ⟨va, vb, vc, vd, ve, vf, vg, vh⟩ kv wv, by omega, by rw [hI]; rfl, by rw [runS, <- hv, hkv, hwv], rfl, rfl, rfl, rfl, rfl, rfl, rfl, rfl⟩
    case measure => obtain ⟨hI, hlt, hkI⟩ := HI.out; simp [intOf]; omega
  · have d1 : decide (I < 64) = false := by simp; omega
    obtain rfl : k = 64 := by omega
    have HV := hQ_ (aQ hv hI)
    clear hv hI hlt hk
    go_wp2_with fail
    obtain ⟨c8, hc8⟩ : ∃ c8 : Array Value, c8 = #[.int .u32 va, .int .u32 vb, .int .u32 vc, .int .u32 vd, .int .u32 ve, .int .u32 vf, .int .u32 vg, .int .u32 vh] := ⟨_, rfl⟩
    rw [<- hc8]
    have H8 := hQ_ (show c8 = arrV .u32 [va, vb, vc, vd, ve, vf, vg, vh] from hc8)
    clear hc8
    obtain ⟨ws, hws⟩ : ∃ ws, ws = [a0, a1, a2, a3, a4, a5, a6, a7] := ⟨_, rfl⟩
    obtain ⟨vl, hvl⟩ : ∃ vl, vl = [va, vb, vc, vd, ve, vf, vg, vh] := ⟨_, rfl⟩
    have hwl : ws.length = 8 := by rw [hws]; rfl
    have hvn : vl.length = 8 := by rw [hvl]; rfl
    have HM2 : mixS [a0, a1, a2, a3, a4, a5, a6, a7] b = addS ws vl 8 := by rw [HM.out, <- HV.out.1, hws, hvl]; rfl
    rw [<- hws] at HB3
    rw [<- hvl] at H8
    have HS := hQ_ (aQ hwl (aQ hvn HM2))
    clear hws hvl HM2 hwl hvn HV HM
    go_loopw [137] (fun i wr => ∃ k : Nat, k <= 8 /\ i = .int .i64 (k : Int) /\ Blk wr g 161 (hashV (addS ws vl k) bs n) /\ w.grownBy wr (some g)) (fun i _ => 8 - (intOf i).toNat)
    case atStart => exact ⟨0, by omega, rfl, HB3.out, vq HK3.out _⟩
    case round =>
     obtain ⟨k, hk, hi, hB, hK⟩ := hrel
     obtain ⟨J, hJ⟩ : ∃ J : Int, J = (k : Int) := ⟨_, rfl⟩
     rw [<- hJ] at hi
     subst hi
     by_cases hlt : k < 8
     · have d2 : decide (J < 8) = true := by simp; omega
       have hkJ : J.toNat = k := by omega
       have hx : 0 <= J /\ J < 8 := by omega
       have hln : (addS ws vl k).length = 8 := by rw [zbk]; exact HS.out.1
       obtain ⟨x, hx1⟩ : ∃ x, x = (addS ws vl k).getD k 0 := ⟨_, rfl⟩
       obtain ⟨y, hy1⟩ : ∃ y, y = vl.getD k 0 := ⟨_, rfl⟩
       have kc : wr.cell? ⟨g, J.toNat, none⟩ = some (.int .u32 x) := by rw [hB.cell, hkJ, hx1]; exact vp (by rw [hln]; exact hlt)
       have kf := hB.frozen J.toNat
       have kk : c8[J.toNat]? = some (.int .u32 y) := by rw [H8.out, hkJ, hy1]; exact yr (by rw [HS.out.2.1]; exact hlt)
       have kx := index8 wr hx kk
       have HJ := hQ_ (aQ hJ (aQ hlt (aQ hkJ (aQ hx1 (aQ hy1 hln)))))
       have HX := hQ_ hx
       have HBk := hQ_ hB
       have HKk := hQ_ hK
       clear hJ hlt hkJ hx1 hy1 hln hx hB hK kk hk
       go_wp2_with fail
       have hx := HX.out
       go_region
       go_wp2_with fail
       go_roundw
       case rel =>
        obtain ⟨hJ, hlt, hkJ, hx1, hy1, hln⟩ := HJ.out
        refine ⟨k + 1, by omega, by rw [hJ]; rfl, ?_, ye (zh HKk.out) (.inr rfl) _⟩
        have := HBk.out.drew.set J.toNat (.int .u32 ((x + y) % 4294967296))
        rw [hashV_setWord (by rw [hkJ, hln]; exact hlt), hkJ] at this
        rw [addS, <- hx1, <- hy1, hkJ]
        exact this
       case measure => obtain ⟨hJ, hlt, hkJ, _⟩ := HJ.out; simp [intOf]; omega
     · have d2 : decide (J < 8) = false := by simp; omega
       obtain rfl : k = 8 := by omega
       have HBk := hQ_ hB
       have HKk := hQ_ hK
       clear hlt hJ hB hK hk
       go_wp2_with fail
       go_end0
       exact ⟨rfl, ⟨by rw [HS.out.2.2]; exact HBk.out, by rw [HS.out.2.2, zbk]; exact HS.out.1, HG.out.2⟩, HKk.out⟩
end
section
section
variable {P : Program}
theorem zcu {w : World} {b o q n : Nat} {t e : TypeId} (hu : P.underlying t = some (.array n e)) (hs : (P.info? e).map (·.size) = some 1) (hq : q < n) :
    Sem.run P (Instr.sliceAt t (.pointer (some ⟨b, o, none⟩)) (some (.int .i64 (q : Int))) none none) w = .ok (.slice (some ⟨b, o + q, none⟩) (n - q) (n - q)) w := by
 cases hi : P.info? e with
 | none => simp [hi] at hs
 | some ei =>
  have h1 : ei.size = 1 := by simpa [hi] using hs
  have h2 : (q : Int) <= n := by omega
  have h3 : ¬ n = q := by omega
  have h4 := run_sliceAt_array_l (P := P) (w := w) t ⟨b, o, none⟩ (by unfold Program.arrayLen Program.elem; simp [hu]) .i64 (q : Int) (by omega) (by unfold Program.arrayLen; simp [hu]; omega)
  rw [h4]
  simp [Program.arrayLen, Program.elem, hu, slicedAt, sizeOf, typeInfo, hi, h1, h3, Addr.add]
theorem zce {w : World} {b o n : Nat} {t e : TypeId} (hu : P.underlying t = some (.array n e)) (hs : (P.info? e).map (·.size) = some 1) :
    Sem.run P (Instr.sliceAt t (.pointer (some ⟨b, o, none⟩)) none none none) w = .ok (.slice (some ⟨b, o, none⟩) n n) w := by
 cases hi : P.info? e with
 | none => simp [hi] at hs
 | some ei =>
  have h1 : ei.size = 1 := by simpa [hi] using hs
  have h4 := run_sliceAt_array_all (P := P) (w := w) t ⟨b, o, none⟩ (by unfold Program.arrayLen Program.elem; simp [hu])
  rw [h4]
  simp [Program.arrayLen, Program.elem, hu, slicedAt, sizeOf, typeInfo, hi, Addr.add]
theorem slice_to {w : World} {b o q n : Nat} {t e : TypeId} (hu : P.underlying t = some (.array n e)) (hs : (P.info? e).map (·.size) = some 1) (hq : q <= n) :
    Sem.run P (Instr.sliceAt t (.pointer (some ⟨b, o, none⟩)) none (some (.int .i64 (q : Int))) none) w = .ok (.slice (some ⟨b, o, none⟩) q n) w := by
 cases hi : P.info? e with
 | none => simp [hi] at hs
 | some ei =>
  have h4 := run_sliceAt_array_h (P := P) (w := w) t ⟨b, o, none⟩ (by unfold Program.arrayLen Program.elem; simp [hu]) .i64 (q : Int) (by omega) (by unfold Program.arrayLen; simp [hu]; omega)
  rw [h4]
  simp [Program.arrayLen, Program.elem, hu, slicedAt, sizeOf, typeInfo, hi, Addr.add]
end
theorem copy_run {P : Program} (w : World) (dT sT ty elem : TypeId) (hu : P.underlying dT = some (.slice elem)) (hsz : (P.info? elem).map (·.size) = some 1)
    (g off dLen dCap : Nat) (ad : Addr) (sLen sCap : Nat) (cur new : Array Value) (t : TypeId) (hg : Blk w g t cur) (cs : List Value) (N : Nat) (hN : cs.length = N) (hn : N = Nat.min sLen dLen)
    (hsrc : ∀ j v, cs[j]? = some v -> w.cell? (ad.add j) = some v) (hfit : off + N <= cur.size) (h1 : ∀ v ∈ cs, v.oneCell' = true)
    (hnew : cur.toList.take off ++ cs ++ cur.toList.drop (off + N) = new.toList) :
    ∃ w1, Sem.run P (Builtin.copy_ #[dT, sT] ty #[.slice (some ⟨g, off, none⟩) dLen dCap, .slice (some ad) sLen sCap]) w = .ok (.int .i64 (N : Int)) w1 /\ Blk w1 g t new /\ w.grownBy w1 (some g) := by
 subst hN
 refine ⟨_, run_copy_row P w dT sT ty elem g off dLen dCap ad sLen sCap cur t cs hu hsz hg hn hsrc hfit h1, ?_, zc (World.grownBy.refl w _) (.inr rfl) _⟩
 rw [hnew, Array.toArray_toList]
 exact setRow_heap w g cur new t (0, 0) hg
theorem be64_true (q N : Nat) (h : q + N = 64) : ((q : Int) + (N : Int) == 64) = true := by
 have : (q : Int) + (N : Int) = 64 := by omega
 rw [this]; rfl
theorem be64_false (q N : Nat) (h : ¬ q + N = 64) : ((q : Int) + (N : Int) == 64) = false := by
 have : ¬ (q : Int) + (N : Int) = 64 := by omega
 exact beq_eq_false_iff_ne.2 this
theorem addr_add_add (a : Addr) (i j : Nat) : (a.add i).add j = a.add (i + j) := by
 unfold Addr.add
 split <;> split <;> simp_all <;> omega
def BytesI (w : World) (A : Option Addr) (x : List Int) : Prop := x ≠ [] -> ∃ ad, A = some ad /\ ∀ j, j < x.length -> w.cell? (ad.add j) = some (.int .u8 (x.getD j 0))
structure HS where
 ws : List Int
 bs : List Int
 n : Nat
def pushS (s : HS) (x : Int) : HS :=
 if s.n % 64 + 1 = 64 then ⟨mixS s.ws (s.bs.set (s.n % 64) x), s.bs.set (s.n % 64) x, s.n + 1⟩ else ⟨s.ws, s.bs.set (s.n % 64) x, s.n + 1⟩
def writeS (s : HS) (x : List Int) : HS := x.foldl pushS s
theorem yu (s : HS) (x y : List Int) : writeS s (x ++ y) = writeS (writeS s x) y := List.foldl_append
theorem zec (s : HS) (x : Int) : (pushS s x).n = s.n + 1 := by unfold pushS; split <;> rfl
theorem uj : ∀ (x : List Int) (s : HS), (writeS s x).n = s.n + x.length
 | [], _ => rfl
 | x :: y, s => by
  show (writeS (pushS s x) y).n = _
  rw [uj y, zec, List.length_cons]; omega
def HashIs (w : World) (g : Nat) (s : HS) : Prop := HashAt w g s.ws s.bs (s.n : Int)
def over (bs : List Int) : Nat -> List Int -> List Int
 | _, [] => bs
 | a, x :: y => over (bs.set a x) (a + 1) y
theorem vy : ∀ (y bs : List Int) (a : Nat), (over bs a y).length = bs.length
 | [], _, _ => rfl
 | x :: y, bs, a => by rw [over, vy y, List.length_set]
theorem hashV_setByte {ws bs : List Int} {n : Int} {i : Nat} (x : Int) (h : i < bs.length) : (hashV ws bs n).toList.set (ws.length + i) (.int .u8 x) = (hashV ws (bs.set i x) n).toList := by
 simp [hashV, List.map_set, h]
theorem hashV_over (ws : List Int) (n : Int) : ∀ (y bs : List Int) (a : Nat), a + y.length <= bs.length ->
    (hashV ws bs n).toList.take (ws.length + a) ++ y.map (Value.int .u8) ++ (hashV ws bs n).toList.drop (ws.length + a + y.length) = (hashV ws (over bs a y) n).toList
 | [], bs, a, _ => by simp [over]
 | x :: y, bs, a, h => by
  simp only [List.length_cons] at h
  have h1 := list_seg_step (hashV ws bs n).toList (ws.length + a) (.int .u8 x) (y.map (Value.int .u8)) (by simp [hashV]; omega)
  have h2 := hashV_over ws n y (bs.set a x) (a + 1) (by rw [List.length_set]; omega)
  rw [hashV_setByte x (by omega)] at h1
  simp only [List.length_map] at h1
  rw [over, <- h2, List.map_cons, List.length_cons, <- h1]
  rfl
theorem zbz : ∀ (y : List Int) (s : HS), s.n % 64 + y.length <= 64 -> y ≠ [] ->
    writeS s y = if s.n % 64 + y.length = 64 then ⟨mixS s.ws (over s.bs (s.n % 64) y), over s.bs (s.n % 64) y, s.n + y.length⟩ else ⟨s.ws, over s.bs (s.n % 64) y, s.n + y.length⟩
 | [], _, _, h => absurd rfl h
 | [x], s, _, _ => rfl
 | x :: z :: y, s, h, _ => by
  simp only [List.length_cons] at h
  have hp : pushS s x = ⟨s.ws, s.bs.set (s.n % 64) x, s.n + 1⟩ := by rw [pushS, if_neg (by omega)]
  have hm : (s.n + 1) % 64 = s.n % 64 + 1 := by omega
  have ih := zbz (z :: y) (pushS s x) (by rw [hp]; dsimp only; rw [hm]; simp only [List.length_cons]; omega) (by simp)
  rw [show writeS s (x :: z :: y) = writeS (pushS s x) (z :: y) from rfl, ih, hp]
  dsimp only
  rw [hm]
  simp only [List.length_cons, over]
  have e2 : s.n + 1 + (y.length + 1) = s.n + (y.length + 1 + 1) := by omega
  by_cases e : s.n % 64 + (y.length + 1 + 1) = 64
  · rw [if_pos (by omega), if_pos e, e2]
  · rw [if_neg (by omega), if_neg e, e2]
theorem zaf (w : World) (g : Nat) (s : HS) (hH : HashIs w g s) (hg : g ≠ 18) (hR : Rounds w) (A : Option Addr) (m c : Nat) (x : List Int) (hm : x.length = m) (hx : BytesI w A x) (hne : ∀ ad, A = some ad -> x ≠ [] -> ad.block ≠ g) (hc : m <= c) (hn : s.n + m <= 1152921504606846976) :
    Calls Tryz.prog 71 #[.pointer (some ⟨g, 0, none⟩), .slice A m c] w fun e w' => e = .returned (.tuple #[]) /\ HashIs w' g (writeS s x) /\ w.grownBy w' (some g) := by
 have HH := hQ_ hH
 have HR := hQ_ hR
 have HX := hQ_ hx
 have HN := hQ_ (aQ hne (aQ hm (aQ hc (aQ hn hg))))
 clear hH hR hx hne hm hc hn hg
 go_enter Tryz.func71, Tryz.ntmps71
 go_wp2_with fail
 go_loopw [1] (fun v wr => ∃ (k : Nat) (A1 : Option Addr) (M c1 : Nat), k <= m /\ M = m - k /\ v = .slice A1 M c1 /\ M <= c1 /\ BytesI w A1 (x.drop k) /\ (∀ ad, A1 = some ad -> x.drop k ≠ [] -> ad.block ≠ g) /\ HashIs wr g (writeS s (x.take k)) /\ w.grownBy wr (some g)) (fun v _ => match v with | .slice _ n _ => n | _ => 0)
 case atStart => exact ⟨0, A, m, c, by omega, by omega, rfl, HN.out.2.2.1, HX.out, HN.out.1, HH.out, World.grownBy.refl w _⟩
 case round =>
  obtain ⟨k, A1, M, c1, hk, hM, rfl, hMc, hb, hne, hH, hK⟩ := hrel
  by_cases h0 : M = 0
  · subst h0
    have HH2 := hQ_ hH
    have HK2 := hQ_ hK
    have HM := hQ_ (aQ hM hk)
    clear hb hne hH hK hM hk hMc
    go_wp2_with fail
    go_end0
    refine ⟨rfl, ?_, HK2.out⟩
    obtain rfl : k = m := by have := HM.out; omega
    have := HH2.out
    rw [List.take_of_length_le (by rw [HN.out.2.1]; exact Nat.le_refl _)] at this
    exact this
  · have hpos : 0 < M := by omega
    obtain ⟨s1, hs1⟩ : ∃ s1, s1 = writeS s (x.take k) := ⟨_, rfl⟩
    rw [<- hs1] at hH
    obtain ⟨y0, hy0⟩ : ∃ y0, y0 = x.drop k := ⟨_, rfl⟩
    rw [<- hy0] at hb hne
    have hyl : y0.length = M := by rw [hy0, List.length_drop, HN.out.2.1, hM]
    have hyn : y0 ≠ [] := fun e => h0 (by rw [<- hyl, e]; rfl)
    obtain ⟨ad, rfl, hcell⟩ := hb hyn
    have hadg := hne ad rfl hyn
    obtain ⟨hB, hw8, hb64⟩ := hH
    obtain ⟨ws, bs, n⟩ := s1
    dsimp only at hB hw8 hb64
    have hnb : n + M <= 1152921504606846976 := by
     have h1 := congrArg HS.n hs1
     rw [uj, List.length_take] at h1
     dsimp only at h1
     have h2 := HN.out
     omega
    obtain ⟨q, hq⟩ : ∃ q : Nat, q = n % 64 := ⟨_, rfl⟩
    have hq64 : q < 64 := by omega
    have kn : wr.cell? ⟨g, 72, none⟩ = some (.int .i64 (n : Int)) := by have := (hB.cell 72); rw [this, show 72 = ws.length + bs.length by omega]; exact zb8
    have HB := hQ_ hB
    have HK := hQ_ hK
    have HC := hQ_ hcell
    have HM := hQ_ (aQ hk (aQ hM (aQ hs1 (aQ hy0 (aQ hyl hnb)))))
    have HQ := hQ_ (aQ hq (aQ hq64 (aQ hMc (aQ hw8 hb64))))
    have HA := hQ_ (aQ hadg h0)
    clear hB hK hcell hk hM hs1 hy0 hyl hyn hnb hq hq64 hMc hw8 hb64 hadg h0 hne hb
    have hqi : (n : Int) % 64 = (q : Int) := by have := HQ.out.1; omega
    have hsl : Sem.run Tryz.prog (Instr.sliceAt 159 (.pointer (some ⟨g, 8, none⟩)) (some (.int .i64 ((n : Int) % 64))) none none) wr = .ok (.slice (some ⟨g, 8 + q, none⟩) (64 - q) (64 - q)) wr := by
     rw [hqi]; exact zcu (P := Tryz.prog) (w := wr) (b := g) (o := 8) (t := 159) Tryz.underlying159 (by kernel_rfl) HQ.out.2.1
    have HQI := hQ_ hqi
    clear hqi
    obtain ⟨N, hN⟩ : ∃ N, N = Nat.min M (64 - q) := ⟨_, rfl⟩
    have hNs : N <= M /\ q + N <= 64 /\ 0 < N /\ (q + N = 64 \/ N = M) := by
     have := HQ.out.2.1
     rw [hN]
     simp only [Nat.min_def]
     split <;> omega
    obtain ⟨y, hy⟩ : ∃ y, y = y0.take N := ⟨_, rfl⟩
    have hyl : y.length = N := by rw [hy, List.length_take, HM.out.2.2.2.2.1]; omega
    have hcsrc : ∀ j v, (y.map (Value.int .u8))[j]? = some v -> wr.cell? (ad.add j) = some v := by
     intro j v hv
     rw [hy] at hv
     simp only [List.getElem?_map, List.getElem?_take] at hv
     by_cases hj : j < N
     · rw [if_pos hj] at hv
       by_cases hj2 : j < y0.length
       · rw [HK.out.cell (HC.out j hj2) (by rw [yk]; intro e; exact HA.out.1 (Option.some.inj e))]
         simpa [List.getElem?_eq_getElem hj2] using hv
       · simp [List.getElem?_eq_none (Nat.le_of_not_lt hj2)] at hv
     · simp [if_neg hj] at hv
    obtain ⟨Y, hY⟩ : ∃ Y, Y = y.map (Value.int .u8) := ⟨_, rfl⟩
    have hYl : Y.length = N := by rw [hY, List.length_map, hyl]
    have h1Y : ∀ v ∈ Y, v.oneCell' = true := by rw [hY]; intro v hv; simp at hv; obtain ⟨z, _, rfl⟩ := hv; rfl
    rw [<- hY] at hcsrc
    obtain ⟨bs2, hbs2⟩ : ∃ bs2, bs2 = over bs q y := ⟨_, rfl⟩
    have hb2l : bs2.length = 64 := by rw [hbs2, vy]; exact HQ.out.2.2.2.2
    have hnew : (hashV ws bs n).toList.take (8 + q) ++ Y ++ (hashV ws bs n).toList.drop (8 + q + N) = (hashV ws bs2 n).toList := by
     have := hashV_over ws n y bs q (by rw [HQ.out.2.2.2.2, hyl]; exact hNs.2.1)
     rw [HQ.out.2.2.2.1, hyl, <- hY, <- hbs2] at this
     exact this
    have hfit : 8 + q + N <= (hashV ws bs n).size := by simp [hashV, HQ.out.2.2.2.1, HQ.out.2.2.2.2]; omega
    have HY := hQ_ (aQ hY (aQ hy (aQ hyl (aQ hYl (aQ hcsrc h1Y)))))
    have HNs := hQ_ (aQ hNs (aQ hN (aQ hnew (aQ hfit (aQ hb2l hbs2)))))
    have hNM : N <= M := hNs.1
    have hMc : M <= c1 := HQ.out.2.2.1
    have s1 : wrap64 ((n : Int) + (N : Int)) = ((n + N : Nat) : Int) := by have := HM.out.2.2.2.2.2; rw [w64 _ ⟨by omega, by omega⟩]; omega
    have s2 : wrap64 ((n : Int) % 64 + (N : Int)) = ((q + N : Nat) : Int) := by rw [HQI.out, w64 _ ⟨by omega, by omega⟩]; omega
    obtain ⟨w1, hcopy, hB1, hG1⟩ := copy_run (P := Tryz.prog) wr 81 81 3 5 Tryz.underlying81 (by kernel_rfl) g (8 + q) (64 - q) (64 - q) ad M c1 (hashV ws bs n) (hashV ws bs2 n) 161 HB.out Y N HY.out.2.2.2.1 HNs.out.2.1 HY.out.2.2.2.2.1 HNs.out.2.2.2.1 HY.out.2.2.2.2.2 HNs.out.2.2.1
    have kn1 : w1.cell? ⟨g, 72, none⟩ = some (.int .i64 (n : Int)) := by have := (hB1.cell 72); rw [this, show 72 = ws.length + bs2.length by rw [HQ.out.2.2.2.1, hb2l]]; exact zb8
    have kf1 := hB1.frozen 72
    have HB1 := hQ_ hB1
    have HG1 := hQ_ hG1
    clear hB1 hG1
    have hw2 : Blk (w1.setCell ⟨g, 72, none⟩ (.int .i64 ((n : Int) + (N : Int)))) g 161 (hashV ws bs2 ((n : Int) + (N : Int))) := by
     have h1 := HB1.out.set 72 (.int .i64 ((n : Int) + (N : Int)))
     have h2 := hashV_setCount (ws := ws) (bs := bs2) (n := (n : Int)) ((n : Int) + (N : Int))
     rw [show ws.length + bs2.length = 72 by rw [HQ.out.2.2.2.1, hb2l]] at h2
     rw [h2] at h1
     exact h1
    have hg2 : w.grownBy (w1.setCell ⟨g, 72, none⟩ (.int .i64 ((n : Int) + (N : Int)))) (some g) := ye (za HK.out HG1.out) (.inr rfl) _
    have hst : writeS s (x.take (k + N)) = writeS ⟨ws, bs, n⟩ y := by
     rw [HM.out.2.2.1, <- yu, List.take_add, hy, HM.out.2.2.2.1]
    have hdrop : x.drop (k + N) = y0.drop N := by rw [HM.out.2.2.2.1, List.drop_drop]
    have hdl : (x.drop (k + N)).length = M - N := by rw [hdrop, List.length_drop, HM.out.2.2.2.2.1]
    have hA1 : x.drop (k + N) ≠ [] -> (if c1 = N then some ad else some (ad.add N)) = some (ad.add N) := fun e => by
     have : x.drop (k + N) ≠ [] -> 0 < (x.drop (k + N)).length := fun e => List.length_pos_iff.2 e
     have := this e
     rw [if_neg (by omega)]
    have hby : BytesI w (if c1 = N then some ad else some (ad.add N)) (x.drop (k + N)) := fun e => by
     refine ⟨_, hA1 e, fun j hj => ?_⟩
     rw [hdl] at hj
     have := HC.out (N + j) (by rw [HM.out.2.2.2.2.1]; omega)
     rw [addr_add_add, this, hdrop]
     simp [List.getD]
    have hbl : ∀ ad1, (if c1 = N then some ad else some (ad.add N)) = some ad1 -> x.drop (k + N) ≠ [] -> ad1.block ≠ g := fun ad1 e1 e2 => by
     rw [hA1 e2] at e1
     obtain rfl := Option.some.inj e1
     rw [yk]
     exact HA.out.1
    have hkm : k + N <= m /\ M - N = m - (k + N) /\ M - N <= c1 - N /\ M - N < M := by have := HM.out; omega
    have HF := hQ_ (aQ hw2 (aQ hg2 (aQ hst (aQ hby (aQ hbl hkm)))))
    have hch := zbz y ⟨ws, bs, n⟩ (by dsimp only; rw [<- HQ.out.1, hyl]; exact hNs.2.1) (by intro e; rw [e] at hyl; simp at hyl; omega)
    dsimp only at hch
    rw [<- HQ.out.1, hyl, <- hbs2] at hch
    have HCH := hQ_ hch
    have HZ := hQ_ (aQ hb2l hNs)
    clear hw2 hg2 hst hdrop hdl hA1 hby hbl hkm hch
    by_cases hfull : q + N = 64
    · have hbe : ((n : Int) % 64 + (N : Int) == 64) = true := by rw [HQI.out]; exact be64_true q N hfull
      clear hY hy hyl hYl hcsrc h1Y hN hNs hnew hfit hb2l hbs2
      by_cases hcN : c1 = N
      · subst c1
        go_wp2_with fail
        generalize w1.setCell ⟨g, 72, none⟩ (.int .i64 ((n : Int) + (N : Int))) = w2 at HF ⊢
        have HB2 := hQ_ (show HashAt w2.drew g ws bs2 ((n : Int) + (N : Int)) from ⟨HF.out.1, HQ.out.2.2.2.1, HZ.out.1⟩)
        have HR2 := hQ_ (show Rounds w2.drew from HR.out.grown (zh HF.out.2.1) (by intro e; exact HN.out.2.2.2.2 (Option.some.inj e).symm))
        have HBy := hQ_ (show BytesN w2.drew g 8 bs2 from fun j hj => by
         have h1 := HF.out.1.cell (8 + j)
         rw [show 8 + j = ws.length + j by rw [HQ.out.2.2.2.1]] at h1
         rw [show 8 + j = ws.length + j by rw [HQ.out.2.2.2.1]]
         exact h1.trans (hashV_byte hj))
        have hsa := zce (P := Tryz.prog) (w := w2.drew) (b := g) (o := 8) (t := 159) Tryz.underlying159 (by kernel_rfl)
        clear kn1 kf1 hcopy hsl kn s1 s2
        go_region_with (go_at_call 94; refine (mix_is _ g ws bs2 _ HB2.out HN.out.2.2.2.2 HR2.out g 8 64 bs2 HZ.out.1 HBy.out (Nat.le_refl _)).mono ?_; rintro e w3 ⟨rfl, hH3, hk3⟩)
        have HH3 := hQ_ hH3
        have HK3 := hQ_ hk3
        clear hH3 hk3
        go_wp2_with fail
        go_roundw
        case rel =>
         obtain ⟨hw2, hg2, hst, hby, hbl, h1, h2, h3, h4⟩ := HF.out
         rw [if_pos trivial] at hby hbl
         refine ⟨k + N, _, 0, 0, h1, by omega, rfl, Nat.le_refl _, hby, hbl, ?_, za (zh hg2) HK3.out⟩
         rw [hst, HCH.out, if_pos hfull]
         exact HH3.out
        case measure => exact Nat.lt_of_le_of_lt (Nat.zero_le _) HF.out.2.2.2.2.2.2.2.2
      · go_wp2_with fail
        generalize w1.setCell ⟨g, 72, none⟩ (.int .i64 ((n : Int) + (N : Int))) = w2 at HF ⊢
        have HB2 := hQ_ (show HashAt w2.drew g ws bs2 ((n : Int) + (N : Int)) from ⟨HF.out.1, HQ.out.2.2.2.1, HZ.out.1⟩)
        have HR2 := hQ_ (show Rounds w2.drew from HR.out.grown (zh HF.out.2.1) (by intro e; exact HN.out.2.2.2.2 (Option.some.inj e).symm))
        have HBy := hQ_ (show BytesN w2.drew g 8 bs2 from fun j hj => by
         have h1 := HF.out.1.cell (8 + j)
         rw [show 8 + j = ws.length + j by rw [HQ.out.2.2.2.1]] at h1
         rw [show 8 + j = ws.length + j by rw [HQ.out.2.2.2.1]]
         exact h1.trans (hashV_byte hj))
        have hsa := zce (P := Tryz.prog) (w := w2.drew) (b := g) (o := 8) (t := 159) Tryz.underlying159 (by kernel_rfl)
        clear kn1 kf1 hcopy hsl kn s1 s2
        go_region_with (go_at_call 94; refine (mix_is _ g ws bs2 _ HB2.out HN.out.2.2.2.2 HR2.out g 8 64 bs2 HZ.out.1 HBy.out (Nat.le_refl _)).mono ?_; rintro e w3 ⟨rfl, hH3, hk3⟩)
        have HH3 := hQ_ hH3
        have HK3 := hQ_ hk3
        clear hH3 hk3
        go_wp2_with fail
        go_roundw
        case rel =>
         obtain ⟨hw2, hg2, hst, hby, hbl, h1, h2, h3, h4⟩ := HF.out
         rw [if_neg hcN] at hby hbl
         refine ⟨k + N, _, _, _, h1, h2, rfl, by omega, hby, hbl, ?_, za (zh hg2) HK3.out⟩
         rw [hst, HCH.out, if_pos hfull]
         exact HH3.out
        case measure => exact HF.out.2.2.2.2.2.2.2.2
    · have hbe : ((n : Int) % 64 + (N : Int) == 64) = false := by rw [HQI.out]; exact be64_false q N hfull
      clear hY hy hyl hYl hcsrc h1Y hN hNs hnew hfit hb2l hbs2
      go_wp2_with fail
      go_roundw
      case rel =>
       obtain ⟨hw2, hg2, hst, hby, hbl, h1, h2, h3, h4⟩ := HF.out
       refine ⟨k + N, _, _, _, h1, h2, rfl, h3, hby, hbl, ?_, hg2⟩
       rw [hst, HCH.out, if_neg hfull]
       exact ⟨by rw [show (((n + N : Nat)) : Int) = (n : Int) + (N : Int) by omega]; exact hw2, HQ.out.2.2.2.1, HZ.out.1⟩
      case measure => exact HF.out.2.2.2.2.2.2.2.2
end
section
def wordB (x : Int) : List Int := [x / 16777216 % 256, x / 65536 % 256, x / 256 % 256, x % 256]
def startS : HS := ⟨[1779033703, 3144134277, 1013904242, 2773480762, 1359893119, 2600822924, 528734635, 1541459225], List.replicate 64 0, 0⟩
theorem arr_set4 {l : List Int} {o : Nat} (a b c d : Int) : ((((arrV .u8 l).setIfInBounds o (.int .u8 a)).setIfInBounds (o + 1) (.int .u8 b)).setIfInBounds (o + 2) (.int .u8 c)).setIfInBounds (o + 3) (.int .u8 d) = arrV .u8 (over l o [a, b, c, d]) := by
 simp only [zcb, over]
theorem put_is (w : World) (g o n c : Nat) (t : TypeId) (l : List Int) (x : Int) (hB : Blk w g t (arrV .u8 l)) (ho : o + 4 <= l.length) (hn : 4 <= n) :
    Calls Tryz.prog 72 #[.slice (some ⟨g, o, none⟩) n c, .int .u32 x] w fun e w' => e = .returned (.tuple #[]) /\ Blk w' g t (arrV .u8 (over l o (wordB x))) /\ w.grownBy w' (some g) := by
 have hb1 : ∀ i, i < 4 -> ∃ v, w.cell? ⟨g, o + i, none⟩ = some v := fun i hi => by
  rw [hB.cell, yr (by omega)]; exact ⟨_, rfl⟩
 obtain ⟨v0, c0⟩ := hb1 0 (by omega)
 obtain ⟨v1, c1⟩ := hb1 1 (by omega)
 obtain ⟨v2, c2⟩ := hb1 2 (by omega)
 obtain ⟨v3, c3⟩ := hb1 3 (by omega)
 have f0 := hB.frozen o
 have f1 := hB.frozen (o + 1)
 have f2 := hB.frozen (o + 2)
 have f3 := hB.frozen (o + 3)
 rw [Nat.add_zero] at c0
 have HB := hQ_ hB
 have n0 : (0 : Int) < (n : Int) := by omega
 have n1 : (1 : Int) < (n : Int) := by omega
 have n2 : (2 : Int) < (n : Int) := by omega
 have n3 : (3 : Int) < (n : Int) := by omega
 clear hB hb1
 go_enter Tryz.func72, Tryz.ntmps72
 go_wp2_with fail
 go_end0
 refine ⟨rfl, ?_, ?_⟩
 · have h := (((HB.out.set o (.int .u8 (x / 16777216 % 256))).set (o + 1) (.int .u8 (x / 65536 % 256))).set (o + 2) (.int .u8 (x / 256 % 256))).set (o + 3) (.int .u8 (x % 256))
   rw [arr_set4] at h
   exact h
 · have e1 := ye (World.grownBy.refl w (some g)) (p := ⟨g, o, none⟩) (.inr rfl) (.int .u8 (x / 16777216 % 256))
   have e2 := ye e1 (p := ⟨g, o + 1, none⟩) (.inr rfl) (.int .u8 (x / 65536 % 256))
   have e3 := ye e2 (p := ⟨g, o + 2, none⟩) (.inr rfl) (.int .u8 (x / 256 % 256))
   exact ye e3 (p := ⟨g, o + 3, none⟩) (.inr rfl) (.int .u8 (x % 256))
theorem zero_runK20 {P : Program} {t : TypeId} {v : Value} (w : World) (h : (P.info? t).bind (·.zero) = some v) : Sem.run P (zeroValue t) w = .ok v w := by
 cases hq : P.info? t with
 | none => simp [hq] at h
 | some i =>
  have h1 : i.zero = some v := by simpa [hq] using h
  simp [zeroValue, typeInfo, hq, h1]
def hash0 : Array Value := hashV (List.replicate 8 0) (List.replicate 64 0) 0
theorem zd0 (w : World) : Sem.run Tryz.prog (zeroValue 161) w = .ok (.agg hash0) w :=
 zero_runK20 w (by kernel_rfl)
theorem zdr (ws bs : List Int) (n : Int) (h8 : ws.length = 8) (h64 : bs.length = 64) : (hashV ws bs n).size = 73 := by simp [hashV, h8, h64]
theorem zei (ws bs : List Int) (n : Int) : ((hashV ws bs n).all fun x => x.oneCell') = true := by simp [hashV, Value.oneCell']
theorem zds : (Tryz.prog.info? 161).map (·.size) = some 73 := by kernel_rfl
theorem start_is (w : World) : Calls Tryz.prog 70 #[] w fun e w' => e = .returned (.agg (hashV startS.ws startS.bs 0)) /\ w.grownBy w' none := by
 obtain ⟨C0, hC0⟩ : ∃ C0, C0 = hash0 := ⟨_, rfl⟩
 have hz : ∀ w, Sem.run Tryz.prog (zeroValue 161) w = .ok (.agg C0) w := fun w => by rw [hC0]; exact zd0 w
 have hsz : C0.size = 73 := by rw [hC0]; rfl
 have HC := hQ_ hC0
 clear hC0
 obtain ⟨C1, hC1⟩ : ∃ C1, C1 = (((((((C0.setIfInBounds 0 (.int .u32 1779033703)).setIfInBounds 1 (.int .u32 3144134277)).setIfInBounds 2 (.int .u32 1013904242)).setIfInBounds 3 (.int .u32 2773480762)).setIfInBounds 4 (.int .u32 1359893119)).setIfInBounds 5 (.int .u32 2600822924)).setIfInBounds 6 (.int .u32 528734635)).setIfInBounds 7 (.int .u32 1541459225) := ⟨_, rfl⟩
 have H1 : C1 = hashV startS.ws startS.bs 0 := by rw [hC1, HC.out]; kernel_rfl
 have HS1 := hQ_ (show C1.size = 73 by rw [H1]; exact zdr _ _ _ rfl rfl)
 have HO1 := hQ_ (show (C1.all fun x => x.oneCell') = true by rw [H1]; exact zei _ _ _)
 have HI1 := hQ_ (show (Tryz.prog.info? 161).map (·.size) = some C1.size by rw [HS1.out]; exact zds)
 have H1' := hQ_ H1
 clear H1
 have HC1 := hQ_ hC1
 clear hC1
 go_enter Tryz.func70, Tryz.ntmps70
 go_wp2_with (rw [<- HC1.out]; refine wpList_store_row rfl 161 _ _ rfl w.heap.size C1 rfl rfl 161 _ (heap_alloc_new w _) HI1.out (by rw [HS1.out]; exact hsz) HO1.out ?_)
 have hB1 := Blk.row (Blk.new w 161 C0) C1
 refine bodyPost_ret (z5 rfl _ _ _ ⟨w.heap.size, 0, none⟩ (.agg C1) rfl (run_loadVar_row _ w.heap.size 161 161 C1 (0, 0) _ hB1 Tryz.underlying161 rfl HI1.out)) rfl ?_
 exact ⟨by rw [H1'.out], zc (World.grownBy_alloc w _ none) (.inl (Nat.le_refl _)) C1⟩
end
section
def padS (s : HS) : HS := if 56 < (pushS s 128).n % 64 then writeS (pushS s 128) (List.replicate (64 - (pushS s 128).n % 64) 0) else pushS s 128
def finS (s : HS) : HS := writeS (writeS (padS s) (List.replicate (56 - (padS s).n % 64) 0)) (wordB (((s.n * 8 : Nat) : Int) / 4294967296 % 4294967296) ++ wordB (((s.n * 8 : Nat) : Int) % 4294967296))
theorem padS_n (s : HS) : (padS s).n % 64 <= 56 /\ s.n <= (padS s).n /\ (padS s).n <= s.n + 64 := by
 have := zec s 128
 unfold padS
 split
 · rw [uj, List.length_replicate]; omega
 · omega
theorem rep0 (n j : Nat) : (List.replicate n (0 : Int)).getD j 0 = 0 := by
 simp only [List.getD, List.getElem?_replicate]
 split <;> rfl
theorem BytesI.blk {w : World} {g o : Nat} {t : TypeId} {l x : List Int} (h : Blk w g t (arrV .u8 l)) (hx : ∀ j, j < x.length -> o + j < l.length /\ x.getD j 0 = l.getD (o + j) 0) : BytesI w (some ⟨g, o, none⟩) x := fun _ => ⟨_, rfl, fun j hj => by
 obtain ⟨h1, h2⟩ := hx j hj
 rw [show (⟨g, o, none⟩ : Addr).add j = ⟨g, o + j, none⟩ by simp [Addr.add], h.cell, yr h1, h2]⟩
theorem HashIs.count {w : World} {g : Nat} {s : HS} (h : HashIs w g s) : w.cell? ⟨g, 72, none⟩ = some (.int .i64 (s.n : Int)) := by
 rw [h.1.cell, show 72 = s.ws.length + s.bs.length by rw [h.2.1, h.2.2]]; exact zb8
theorem HashIs.grown {w w' : World} {g : Nat} {s : HS} {row : Option Nat} (h : HashIs w g s) (hg : w.grownBy w' row) (hr : some g ≠ row) : HashIs w' g s := ⟨h.1.grown hg hr, h.2⟩
theorem made_zero (n : Nat) : madeCells (Value.int .u8 0).cells (n * 1) = arrV .u8 (List.replicate n 0) := by
 apply Array.ext
 · simp [size_madeCells, arrV]
 · intro i h1 h2
   simp [madeCells, arrV, Value.cells, Nat.mod_one]
theorem make_bytes (w : World) (n : Nat) (h : n <= 64) : Sem.run Tryz.prog (Instr.makeSlice 81 (.int .i64 (n : Int)) (.int .i64 (n : Int))) w = .ok (.slice (some ⟨w.heap.size, 0, none⟩) n n) (w.alloc (.cells (arrV .u8 (List.replicate n 0)) 5)) := by
 obtain ⟨i, hi, h2, h3, h4⟩ := info_parts (show (Tryz.prog.info? 5).map (fun i => (i.zero, i.size, i.bytes)) = some (some (.int .u8 0), 1, 1) by kernel_rfl)
 have hr := run_make (P := Tryz.prog) w 81 5 i (.int .u8 0) Tryz.underlying81 hi h2 .i64 .i64 (n : Int) (n : Int) (by omega) (Int.le_refl _) (by rw [h4]; omega) (by omega)
 rw [hr, h3]
 simp only [Int.toNat_natCast, made_zero]
theorem zcf (w : World) (b q : Nat) (h : q < 64) : Sem.run Tryz.prog (Instr.sliceAt 159 (.pointer (some ⟨b, 0, none⟩)) (some (.int .i64 (q : Int))) none none) w = .ok (.slice (some ⟨b, q, none⟩) (64 - q) (64 - q)) w := by
 have := zcu (P := Tryz.prog) (w := w) (b := b) (o := 0) (t := 159) Tryz.underlying159 (by kernel_rfl) h
 rwa [Nat.zero_add] at this
theorem zd4 (w : World) (b q : Nat) (h : q <= 64) : Sem.run Tryz.prog (Instr.sliceAt 159 (.pointer (some ⟨b, 0, none⟩)) none (some (.int .i64 (q : Int))) none) w = .ok (.slice (some ⟨b, 0, none⟩) q 64) w :=
 slice_to (P := Tryz.prog) (w := w) (b := b) (o := 0) (t := 159) Tryz.underlying159 (by kernel_rfl) h
def endB (N : Nat) : List Int := wordB ((N : Int) / 4294967296 % 4294967296) ++ wordB ((N : Int) % 4294967296)
theorem endB_get (l : List Int) (N : Nat) (hl : l.length = 64) : ∀ j, j < (endB N).length -> 0 + j < (over (over l 0 (wordB ((N : Int) / 4294967296 % 4294967296))) 4 (wordB ((N : Int) % 4294967296))).length /\ (endB N).getD j 0 = (over (over l 0 (wordB ((N : Int) / 4294967296 % 4294967296))) 4 (wordB ((N : Int) % 4294967296))).getD (0 + j) 0 := by
 intro j hj
 have h8 : (endB N).length = 8 := rfl
 rw [h8] at hj
 refine ⟨by rw [vy, vy, hl]; omega, ?_⟩
 obtain ⟨a0, a1, a2, a3, a4, a5, a6, a7, r, rfl⟩ : ∃ a0 a1 a2 a3 a4 a5 a6 a7 r, l = a0 :: a1 :: a2 :: a3 :: a4 :: a5 :: a6 :: a7 :: r := by
  match l, hl with
  | a0 :: a1 :: a2 :: a3 :: a4 :: a5 :: a6 :: a7 :: r, _ => exact ⟨a0, a1, a2, a3, a4, a5, a6, a7, r, rfl⟩
 have : j = 0 \/ j = 1 \/ j = 2 \/ j = 3 \/ j = 4 \/ j = 5 \/ j = 6 \/ j = 7 := by omega
 rcases this with rfl | rfl | rfl | rfl | rfl | rfl | rfl | rfl <;> rfl
theorem finish_is (w : World) (g : Nat) (s : HS) (hH : HashIs w g s) (hg : g ≠ 18) (hR : Rounds w) (hn : s.n <= 1073741824) :
    Calls Tryz.prog 95 #[.pointer (some ⟨g, 0, none⟩)] w fun e w' => e = .returned (.tuple #[]) /\ HashIs w' g (finS s) /\ w.grownBy w' (some g) := by
 have c1 := hH.count
 have hlt := hH.1.lt
 have HH := hQ_ hH
 have HR := hQ_ hR
 have HN := hQ_ (aQ hn (aQ hg hlt))
 have e1 : IntKind.u64.wrap (s.n : Int) = (s.n : Int) := by rw [IntKind.wrap_u64]; omega
 have e2 : IntKind.u64.wrap ((s.n : Int) * 8) = (s.n : Int) * 8 := by rw [IntKind.wrap_u64]; omega
 have HE := hQ_ (aQ e1 e2)
 clear hH hR hn hg hlt
 go_enter Tryz.func95, Tryz.ntmps95
 go_wp2_with fail
 have hA0 := Blk.new w 5 (arrV .u8 [128])
 have HA := hQ_ hA0
 have hgA := World.grownBy_alloc w (.cells (arrV .u8 [128]) 5) none
 have HGA := hQ_ hgA
 clear hA0 hgA e1 e2
 generalize hwa : w.alloc (.cells #[.int .u8 128] 5) = wa
 rw [show w.alloc (.cells (arrV .u8 [128]) 5) = wa from hwa] at HA HGA
 clear hwa
 refine (zaf wa g s (HH.out.grown HGA.out (by simp)) HN.out.2.1 (HR.out.grown HGA.out (by simp)) (some ⟨w.heap.size, 0, none⟩) 1 1 [128] rfl (BytesI.blk HA.out (fun j hj => by simp at hj; subst hj; simp)) (fun ad e _ => by obtain rfl := Option.some.inj e; exact fun h => by have := HN.out.2.2; simp at h; omega) (Nat.le_refl _) (by have := HN.out.1; omega)).mono ?_
 rintro e w1 ⟨rfl, hH1, hk1⟩
 obtain ⟨s1, hs1⟩ : ∃ s1, s1 = pushS s 128 := ⟨_, rfl⟩
 have hn1 : s1.n = s.n + 1 := by rw [hs1, zec]
 have hH1 : HashIs w1 g s1 := by rw [hs1]; exact hH1
 have hgr : w.grownBy w1 (some g) := za (vq HGA.out _) hk1
 have hpad : padS s = if 56 < s1.n % 64 then writeS s1 (List.replicate (64 - s1.n % 64) 0) else s1 := by rw [hs1]; rfl
 have c1 := hH1.count
 have HS := hQ_ (aQ hs1 (aQ hn1 hpad))
 have HH1 := hQ_ hH1
 have HG1 := hQ_ hgr
 have hnn : s1.n <= 1073741825 := by have := HN.out.1; omega
 have hmodi : ((s1.n : Int)) % 64 = ((s1.n % 64 : Nat) : Int) := by omega
 obtain ⟨q, hq⟩ : ∃ q, q = s1.n % 64 := ⟨_, rfl⟩
 rw [<- hq] at hmodi hpad
 have hq64 : q < 64 := by omega
 have hmk : ∀ w, Sem.run Tryz.prog (Instr.makeSlice 81 (.int .i64 (64 - (s1.n : Int) % 64)) (.int .i64 (64 - (s1.n : Int) % 64))) w = .ok (.slice (some ⟨w.heap.size, 0, none⟩) (64 - q) (64 - q)) (w.alloc (.cells (arrV .u8 (List.replicate (64 - q) 0)) 5)) := fun w => by
  have := make_bytes w (64 - q) (by omega)
  rw [show ((64 - q : Nat) : Int) = 64 - (s1.n : Int) % 64 by rw [hmodi]; omega] at this
  exact this
 have hal : ∀ o, (w1.alloc o).cell? ⟨g, 72, none⟩ = some (.int .i64 (s1.n : Int)) := fun o => by
  rw [HashIs.count (HH1.out.grown (World.grownBy_alloc w1 o none) (by simp))]
 have HQ := hQ_ (aQ hq (aQ hq64 (aQ hmodi (aQ hnn hpad))))
 clear hH1 hk1 hgr hs1 hn1 hnn hq hpad hmodi HA HGA HH
 by_cases hov : 56 < q
 · have hd : decide (56 < (s1.n : Int) % 64) = true := by rw [HQ.out.2.2.1]; simp; omega
   clear hq64 hal
   go_wp2_with fail
   have hgA := World.grownBy_alloc w1 (.cells (arrV .u8 (List.replicate (64 - q) 0)) 5) none
   have hA := Blk.new w1 5 (arrV .u8 (List.replicate (64 - q) 0))
   have hlt1 : g < w1.heap.size := HH1.out.1.lt
   generalize w1.alloc (.cells (arrV .u8 (List.replicate (64 - q) 0)) 5) = wa1 at *
   refine (zaf wa1 g s1 (HH1.out.grown hgA (by simp)) HN.out.2.1 ((HR.out.grown HG1.out (by intro e; exact HN.out.2.1 (Option.some.inj e).symm)).grown hgA (by simp)) (some ⟨w1.heap.size, 0, none⟩) (64 - q) (64 - q) (List.replicate (64 - q) 0) (by simp) (BytesI.blk hA (fun j hj => by simp at hj; simp [hj])) (fun ad e _ => by obtain rfl := Option.some.inj e; exact fun h => by simp at h; omega) (Nat.le_refl _) (by have := HQ.out; omega)).mono ?_
   rintro e w2 ⟨rfl, hH2, hk2⟩
   have hG2 : w.grownBy w2 (some g) := za HG1.out (za (vq hgA _) hk2)
   have hp2 : padS s = writeS s1 (List.replicate (64 - q) 0) := by rw [HQ.out.2.2.2.2, if_pos hov]
   obtain ⟨s2, hs2⟩ : ∃ s2, s2 = padS s := ⟨_, rfl⟩
   rw [<- hp2, <- hs2] at hH2
   clear hgA hA hlt1 hk2 hp2 hov hd hmk
   obtain ⟨q2, hq2⟩ : ∃ q2, q2 = s2.n % 64 := ⟨_, rfl⟩
   have hpn := padS_n s
   rw [<- hs2, <- hq2] at hpn
   have hsl2 : ∀ w b, Sem.run Tryz.prog (Instr.sliceAt 159 (.pointer (some ⟨b, 0, none⟩)) none (some (.int .i64 (56 - (s2.n : Int) % 64))) none) w = .ok (.slice (some ⟨b, 0, none⟩) (56 - q2) 64) w := fun w b => by
    have := zd4 w b (56 - q2) (by omega)
    rw [show ((56 - q2 : Nat) : Int) = 56 - (s2.n : Int) % 64 by omega] at this
    exact this
   have HP := hQ_ (aQ hs2 (aQ hq2 hpn))
   have HH2 := hQ_ hH2
   have HG2 := hQ_ hG2
   have hal : ∀ o, (w2.alloc o).cell? ⟨g, 72, none⟩ = some (.int .i64 (s2.n : Int)) := fun o => by
    rw [HashIs.count (HH2.out.grown (World.grownBy_alloc w2 o none) (by simp))]
   have hc2 := hH2.count
   clear hs2 hq2 hpn hH2 hG2
   go_wp2_with fail
   clear hal hsl2 hc2
   rw [<- z64b]
   have HA := hQ_ (Blk.new w2 159 (arrV .u8 (List.replicate 64 0)))
   have HGA := hQ_ (World.grownBy_alloc w2 (.cells (arrV .u8 (List.replicate 64 0)) 159) none)
   have HLT := hQ_ (aQ HH2.out.1.lt HG2.out.size)
   generalize w2.alloc (.cells (arrV .u8 (List.replicate 64 0)) 159) = wa2 at *
   refine (zaf wa2 g s2 (HH2.out.grown HGA.out (by simp)) HN.out.2.1 ((HR.out.grown HG2.out (by intro e; exact HN.out.2.1 (Option.some.inj e).symm)).grown HGA.out (by simp)) (some ⟨w2.heap.size, 0, none⟩) (56 - q2) 64 (List.replicate (56 - q2) 0) (by simp) (BytesI.blk HA.out (fun j hj => by rw [List.length_replicate] at hj; exact ⟨by rw [List.length_replicate]; omega, by rw [rep0, rep0]⟩)) (fun ad e _ => by obtain rfl := Option.some.inj e; exact fun h => by have := HLT.out.1; simp at h; omega) (by omega) (by have := HP.out; have := HN.out.1; omega)).mono ?_
   rintro e w3 ⟨rfl, hH3, hk3⟩
   have HH3 := hQ_ hH3
   have HB3 := hQ_ (HA.out.grown hk3 (by intro e; have := Option.some.inj e; have := HLT.out.1; omega))
   have HG3 := hQ_ (za HG2.out (za (vq HGA.out _) hk3))
   clear hH3 hk3 HA HGA HH2 HG2
   have hs0 : ∀ w b, Sem.run Tryz.prog (Instr.sliceAt 159 (.pointer (some ⟨b, 0, none⟩)) (some (.int .i64 0)) none none) w = .ok (.slice (some ⟨b, 0, none⟩) 64 64) w := fun w b => zcf w b 0 (by omega)
   have hs4 : ∀ w b, Sem.run Tryz.prog (Instr.sliceAt 159 (.pointer (some ⟨b, 0, none⟩)) (some (.int .i64 4)) none none) w = .ok (.slice (some ⟨b, 4, none⟩) 60 60) w := fun w b => zcf w b 4 (by omega)
   have hs8 : ∀ w b, Sem.run Tryz.prog (Instr.sliceAt 159 (.pointer (some ⟨b, 0, none⟩)) none (some (.int .i64 8)) none) w = .ok (.slice (some ⟨b, 0, none⟩) 8 64) w := fun w b => zd4 w b 8 (by omega)
   go_wp2_with fail
   refine (put_is w3 w2.heap.size 0 64 64 159 (List.replicate 64 0) _ HB3.out (by simp) (by omega)).mono ?_
   rintro e w4 ⟨rfl, hB4, hk4⟩
   have HB4 := hQ_ hB4
   have HH4 := hQ_ (HH3.out.grown hk4 (by intro e; have := Option.some.inj e; have := HLT.out.1; omega))
   have HG4 := hQ_ (z8 HG3.out hk4 HLT.out.2)
   clear hB4 hk4 HB3 HH3 HG3
   go_wp2_with fail
   refine (put_is w4 w2.heap.size 4 60 60 159 _ _ HB4.out (by rw [vy]; simp) (by omega)).mono ?_
   rintro e w5 ⟨rfl, hB5, hk5⟩
   have HB5 := hQ_ hB5
   have HH5 := hQ_ (HH4.out.grown hk5 (by intro e; have := Option.some.inj e; have := HLT.out.1; omega))
   have HG5 := hQ_ (z8 HG4.out hk5 HLT.out.2)
   clear hB5 hk5 HB4 HH4 HG4
   go_wp2_with fail
   refine (zaf w5 g _ HH5.out HN.out.2.1 (HR.out.grown HG5.out (by intro e; exact HN.out.2.1 (Option.some.inj e).symm)) (some ⟨w2.heap.size, 0, none⟩) 8 64 (endB (s.n * 8)) rfl (BytesI.blk HB5.out (endB_get _ _ (by simp))) (fun ad e _ => by obtain rfl := Option.some.inj e; exact fun h => by have := HLT.out.1; simp at h; omega) (by omega) (by rw [uj]; have := HP.out; have := HN.out.1; simp; omega)).mono ?_
   rintro e w6 ⟨rfl, hH6, hk6⟩
   go_wp2_with fail
   go_end0
   refine ⟨rfl, ?_, za HG5.out hk6⟩
   have e1 : finS s = writeS (writeS s2 (List.replicate (56 - q2) 0)) (endB (s.n * 8)) := by rw [finS, HP.out.2.1, HP.out.1]; rfl
   rw [e1]
   exact hH6
 · have hd : decide (56 < (s1.n : Int) % 64) = false := by rw [HQ.out.2.2.1]; simp; omega
   have hs2 : s1 = padS s := by rw [HQ.out.2.2.2.2, if_neg hov]
   have hG2 := HG1.out
   have hH2 := HH1.out
   clear hq64 hov hmk hal c1 HS HQ HG1 HH1 hH1
   generalize s1 = s2 at *
   generalize w1 = w2 at *
   obtain ⟨q2, hq2⟩ : ∃ q2, q2 = s2.n % 64 := ⟨_, rfl⟩
   have hpn := padS_n s
   rw [<- hs2, <- hq2] at hpn
   have hsl2 : ∀ w b, Sem.run Tryz.prog (Instr.sliceAt 159 (.pointer (some ⟨b, 0, none⟩)) none (some (.int .i64 (56 - (s2.n : Int) % 64))) none) w = .ok (.slice (some ⟨b, 0, none⟩) (56 - q2) 64) w := fun w b => by
    have := zd4 w b (56 - q2) (by omega)
    rw [show ((56 - q2 : Nat) : Int) = 56 - (s2.n : Int) % 64 by omega] at this
    exact this
   have HP := hQ_ (aQ hs2 (aQ hq2 hpn))
   have HH2 := hQ_ hH2
   have HG2 := hQ_ hG2
   have hal : ∀ o, (w2.alloc o).cell? ⟨g, 72, none⟩ = some (.int .i64 (s2.n : Int)) := fun o => by
    rw [HashIs.count (HH2.out.grown (World.grownBy_alloc w2 o none) (by simp))]
   have hc2 := hH2.count
   clear hs2 hq2 hpn hH2 hG2
   go_wp2_with fail
   clear hal hsl2 hc2
   rw [<- z64b]
   have HA := hQ_ (Blk.new w2 159 (arrV .u8 (List.replicate 64 0)))
   have HGA := hQ_ (World.grownBy_alloc w2 (.cells (arrV .u8 (List.replicate 64 0)) 159) none)
   have HLT := hQ_ (aQ HH2.out.1.lt HG2.out.size)
   generalize w2.alloc (.cells (arrV .u8 (List.replicate 64 0)) 159) = wa2 at *
   refine (zaf wa2 g s2 (HH2.out.grown HGA.out (by simp)) HN.out.2.1 ((HR.out.grown HG2.out (by intro e; exact HN.out.2.1 (Option.some.inj e).symm)).grown HGA.out (by simp)) (some ⟨w2.heap.size, 0, none⟩) (56 - q2) 64 (List.replicate (56 - q2) 0) (by simp) (BytesI.blk HA.out (fun j hj => by rw [List.length_replicate] at hj; exact ⟨by rw [List.length_replicate]; omega, by rw [rep0, rep0]⟩)) (fun ad e _ => by obtain rfl := Option.some.inj e; exact fun h => by have := HLT.out.1; simp at h; omega) (by omega) (by have := HP.out; have := HN.out.1; omega)).mono ?_
   rintro e w3 ⟨rfl, hH3, hk3⟩
   have HH3 := hQ_ hH3
   have HB3 := hQ_ (HA.out.grown hk3 (by intro e; have := Option.some.inj e; have := HLT.out.1; omega))
   have HG3 := hQ_ (za HG2.out (za (vq HGA.out _) hk3))
   clear hH3 hk3 HA HGA HH2 HG2
   have hs0 : ∀ w b, Sem.run Tryz.prog (Instr.sliceAt 159 (.pointer (some ⟨b, 0, none⟩)) (some (.int .i64 0)) none none) w = .ok (.slice (some ⟨b, 0, none⟩) 64 64) w := fun w b => zcf w b 0 (by omega)
   have hs4 : ∀ w b, Sem.run Tryz.prog (Instr.sliceAt 159 (.pointer (some ⟨b, 0, none⟩)) (some (.int .i64 4)) none none) w = .ok (.slice (some ⟨b, 4, none⟩) 60 60) w := fun w b => zcf w b 4 (by omega)
   have hs8 : ∀ w b, Sem.run Tryz.prog (Instr.sliceAt 159 (.pointer (some ⟨b, 0, none⟩)) none (some (.int .i64 8)) none) w = .ok (.slice (some ⟨b, 0, none⟩) 8 64) w := fun w b => zd4 w b 8 (by omega)
   go_wp2_with fail
   refine (put_is w3 w2.heap.size 0 64 64 159 (List.replicate 64 0) _ HB3.out (by simp) (by omega)).mono ?_
   rintro e w4 ⟨rfl, hB4, hk4⟩
   have HB4 := hQ_ hB4
   have HH4 := hQ_ (HH3.out.grown hk4 (by intro e; have := Option.some.inj e; have := HLT.out.1; omega))
   have HG4 := hQ_ (z8 HG3.out hk4 HLT.out.2)
   clear hB4 hk4 HB3 HH3 HG3
   go_wp2_with fail
   refine (put_is w4 w2.heap.size 4 60 60 159 _ _ HB4.out (by rw [vy]; simp) (by omega)).mono ?_
   rintro e w5 ⟨rfl, hB5, hk5⟩
   have HB5 := hQ_ hB5
   have HH5 := hQ_ (HH4.out.grown hk5 (by intro e; have := Option.some.inj e; have := HLT.out.1; omega))
   have HG5 := hQ_ (z8 HG4.out hk5 HLT.out.2)
   clear hB5 hk5 HB4 HH4 HG4
   go_wp2_with fail
   refine (zaf w5 g _ HH5.out HN.out.2.1 (HR.out.grown HG5.out (by intro e; exact HN.out.2.1 (Option.some.inj e).symm)) (some ⟨w2.heap.size, 0, none⟩) 8 64 (endB (s.n * 8)) rfl (BytesI.blk HB5.out (endB_get _ _ (by simp))) (fun ad e _ => by obtain rfl := Option.some.inj e; exact fun h => by have := HLT.out.1; simp at h; omega) (by omega) (by rw [uj]; have := HP.out; have := HN.out.1; simp; omega)).mono ?_
   rintro e w6 ⟨rfl, hH6, hk6⟩
   go_wp2_with fail
   go_end0
   refine ⟨rfl, ?_, za HG5.out hk6⟩
   have e1 : finS s = writeS (writeS s2 (List.replicate (56 - q2) 0)) (endB (s.n * 8)) := by rw [finS, HP.out.2.1, HP.out.1]; rfl
   rw [e1]
   exact hH6
end
end Go.Proofs.YtigafnbofmiknaaGreatDoor
