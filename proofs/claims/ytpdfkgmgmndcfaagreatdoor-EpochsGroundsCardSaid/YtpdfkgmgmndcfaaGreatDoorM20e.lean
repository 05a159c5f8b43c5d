/-
  Several texts in one: Sh2, Sh3.
-/
import Derived.Test.YtpdfkgmgmndcfaaGreatDoorM20d
import Derived.BigRegion
import Derived.BigQuiet
import Derived.ChangeKeysEq
/-
  SHA-256: the schedule of a block.
-/
namespace Go.Proofs.YtpdfkgmgmndcfaaGreatDoor
open Go.RowKit

/-- The 64 numbers of a slice's bytes lie at ⟨bb, bo⟩. -/
def BytesN (w : World) (bb bo : Nat) (b : List Int) : Prop := ∀ j, j < b.length → w.cell? ⟨bb, bo + j, none⟩ = some (.int .u8 (b.getD j 0))
theorem BytesN.grown {w w' : World} {bb bo : Nat} {b : List Int} {row : Option Nat} (h : BytesN w bb bo b) (hg : w.grownBy w' row) (hr : some bb ≠ row) : BytesN w' bb bo b := fun j hj => hg.cell (h j hj) hr

set_option maxRecDepth 100000 in
set_option maxHeartbeats 1000000 in
theorem schedule_is (w : World) (bb bo cap : Nat) (b : List Int) (hl : b.length = 64) (hb : BytesN w bb bo b) (hcap : 64 ≤ cap) :
    Calls Tryz.prog 78 #[.slice (some ⟨bb, bo, none⟩) 64 cap] w fun e w' => e = .returned (.agg (arrV .u32 (schS b 64))) ∧ w.grownBy w' none := by
  have Hb := Lib.hid hb
  have HL := Lib.hid hl
  clear hb hl
  go_enter Tryz.func78, Tryz.ntmps78
  go_wp2_with fail
  rw [← z64]
  have B1 := Blk.new (w.alloc (.cells (arrV .u32 (List.replicate 64 0)) 109)) 109 (arrV .u32 (List.replicate 64 0))
  have B0 := (Blk.new w 109 (arrV .u32 (List.replicate 64 0))).alloc (.cells (arrV .u32 (List.replicate 64 0)) 109)
  have kk := grown_trans (World.grownBy_alloc w (.cells (arrV .u32 (List.replicate 64 0)) 109) none) (World.grownBy_alloc _ (.cells (arrV .u32 (List.replicate 64 0)) 109) none)
  rw [World.size_alloc] at B1
  generalize (w.alloc (.cells (arrV .u32 (List.replicate 64 0)) 109)).alloc (.cells (arrV .u32 (List.replicate 64 0)) 109) = w1 at *
  go_loopw [11] (fun i wr => ∃ k : Nat, k ≤ 16 ∧ i = .int .i64 (k : Int) ∧ Blk wr (w.heap.size + 1) 109 (arrV .u32 (schS b k ++ List.replicate (64 - k) 0)) ∧ Blk wr w.heap.size 109 (arrV .u32 (List.replicate 64 0)) ∧ w.grownBy wr none) (fun i _ => 16 - (intOf i).toNat)
  case atStart => exact ⟨0, Nat.zero_le _, rfl, B1, B0, kk⟩
  case round =>
    obtain ⟨k, hk, hi, hB, hB0, hK⟩ := hrel
    obtain ⟨I, hI⟩ : ∃ I : Int, I = (k : Int) := ⟨_, rfl⟩
    rw [← hI] at hi
    subst hi
    have hW := schS_length b k
    by_cases hlt : k < 16
    · have d1 : decide (I < 16) = true := by simp; omega
      have c0 := (hK.cell (Hb.out (4 * k) (by rw [HL.out]; omega)) (by simp))
      have c1 := (hK.cell (Hb.out (4 * k + 1) (by rw [HL.out]; omega)) (by simp))
      have c2 := (hK.cell (Hb.out (4 * k + 2) (by rw [HL.out]; omega)) (by simp))
      have c3 := (hK.cell (Hb.out (4 * k + 3) (by rw [HL.out]; omega)) (by simp))
      have hwd : wordS b (schS b k) k = wordF (b.getD (4 * k) 0) (b.getD (4 * k + 1) 0) (b.getD (4 * k + 2) 0) (b.getD (4 * k + 3) 0) := by rw [wordS, if_pos hlt]
      generalize b.getD (4 * k) 0 = x0 at *
      generalize b.getD (4 * k + 1) 0 = x1 at *
      generalize b.getD (4 * k + 2) 0 = x2 at *
      generalize b.getD (4 * k + 3) 0 = x3 at *
      have HWD := Lib.hid hwd
      clear hwd
      obtain ⟨N, hN⟩ : ∃ N : Nat, N = 4 * k := ⟨_, rfl⟩
      have s1 : wrap64 (4 * I) = (N : Int) := by rw [w64 _ ⟨by omega, by omega⟩]; omega
      have s2 : wrap64 ((N : Int) + 4) = ((N + 4 : Nat) : Int) := by rw [w64 _ ⟨by omega, by omega⟩]; omega
      have hN4 : N + 4 ≤ 64 := by omega
      rw [← hN] at c0 c1 c2 c3
      rw [← Nat.add_assoc] at c1 c2 c3
      have HN := Lib.hid hN
      clear hN
      have hx : 0 ≤ I ∧ I < 64 := by omega
      have hkI : I.toNat = k := by omega
      have ck : wr.cell? ⟨w.heap.size + 1, I.toNat, none⟩ = some (.int .u32 0) := by
        rw [hkI, Blk.cell hB k]
        simp [arrV, hW, List.getElem?_append, List.getElem?_replicate]; omega
      have fk := Blk.frozen hB I.toNat
      have HB := Lib.hid hB
      have HB0 := Lib.hid hB0
      have HK := Lib.hid hK
      have HI := Lib.hid (And.intro hI (And.intro hlt hkI))
      have HX := Lib.hid hx
      have HW := Lib.hid hW
      clear hB hB0 hI hlt hkI hk hx hW hK
      go_wp2_with fail
      have hx := HX.out
      go_region
      go_wp2_with fail
      go_roundw
      case rel =>
        obtain ⟨hI, hlt, hkI⟩ := HI.out
        have e : ((I + 1 : Int)) = ((k + 1 : Nat) : Int) := by omega
        refine ⟨k + 1, by omega, by rw [← e], ?_, (HB0.out.far (p := ⟨w.heap.size + 1, I.toNat, none⟩) (by dsimp only; omega) _).drew, grown_drew (grown_far HK.out (p := ⟨w.heap.size + 1, I.toNat, none⟩) (.inl (by dsimp only; omega)) _)⟩
        have h1 := HB.out.set I.toNat (.int .u32 (wordF x0 x1 x2 x3))
        have h2 := arr_push (q := .u32) (W := schS b k) (n := 64) (wordF x0 x1 x2 x3) (by rw [HW.out]; omega)
        rw [HW.out] at h2
        rw [hkI, h2] at h1
        rw [hkI, show schS b (k + 1) = schS b k ++ [wordF x0 x1 x2 x3] by rw [schS, HWD.out]]
        exact h1.drew
      case measure => obtain ⟨hI, hlt, hkI⟩ := HI.out; simp [intOf]; omega
    · have d1 : decide (I < 16) = false := by simp; omega
      obtain rfl : k = 16 := by omega
      have HK := Lib.hid hK
      have HB := Lib.hid hB
      have HB0 := Lib.hid hB0
      clear hlt hk hI hW hK hB hB0
      go_wp2_with fail
      obtain ⟨wo, hwo⟩ : ∃ wo : World, wo = wr := ⟨_, rfl⟩
      rw [← hwo] at HK HB HB0 ⊢
      go_loopw [6] (fun i wr => ∃ k : Nat, 16 ≤ k ∧ k ≤ 64 ∧ i = .int .i64 (k : Int) ∧ Blk wr (w.heap.size + 1) 109 (arrV .u32 (schS b k ++ List.replicate (64 - k) 0)) ∧ Blk wr w.heap.size 109 (arrV .u32 (List.replicate 64 0)) ∧ w.grownBy wr none) (fun i _ => 64 - (intOf i).toNat)
      case atStart => exact ⟨16, Nat.le_refl _, by omega, rfl, HB.out, HB0.out, HK.out⟩
      case round =>
        obtain ⟨k, hk16, hk, hi, hB, hB0, hK⟩ := hrel
        obtain ⟨J, hJ⟩ : ∃ J : Int, J = (k : Int) := ⟨_, rfl⟩
        rw [← hJ] at hi
        subst hi
        have hW := schS_length b k
        by_cases hlt : k < 64
        · have d2 : decide (J < 64) = true := by simp; omega
          have hx : 16 ≤ J ∧ J < 64 := by omega
          have get : ∀ m : Nat, m < k → wr.cell? ⟨w.heap.size + 1, m, none⟩ = some (.int .u32 ((schS b k).getD m 0)) := fun m hm => by
            rw [Blk.cell hB m]
            simp [arrV, hW, List.getElem?_append, hm]
          have g16 := get (J - 16).toNat (by omega)
          have g15 := get (J - 15).toNat (by omega)
          have g7 := get (J - 7).toNat (by omega)
          have g2 := get (J - 2).toNat (by omega)
          have ck : wr.cell? ⟨w.heap.size + 1, J.toNat, none⟩ = some (.int .u32 0) := by
            rw [show J.toNat = k by omega, Blk.cell hB k]
            simp [arrV, hW, List.getElem?_append, List.getElem?_replicate]; omega
          have fk := Blk.frozen hB J.toNat
          have hwd : wordS b (schS b k) k = nextS ((schS b k).getD (J - 16).toNat 0) ((schS b k).getD (J - 15).toNat 0) ((schS b k).getD (J - 7).toNat 0) ((schS b k).getD (J - 2).toNat 0) := by
            rw [wordS, if_neg (by omega), show (J - 16).toNat = k - 16 by omega, show (J - 15).toNat = k - 15 by omega, show (J - 7).toNat = k - 7 by omega, show (J - 2).toNat = k - 2 by omega]
          generalize (schS b k).getD (J - 16).toNat 0 = y16 at *
          generalize (schS b k).getD (J - 15).toNat 0 = y15 at *
          generalize (schS b k).getD (J - 7).toNat 0 = y7 at *
          generalize (schS b k).getD (J - 2).toNat 0 = y2 at *
          have HWD := Lib.hid hwd
          have HB2 := Lib.hid hB
          have HB02 := Lib.hid hB0
          have HK2 := Lib.hid hK
          have HJ := Lib.hid (And.intro hJ (And.intro hlt hk16))
          have HW := Lib.hid hW
          clear hwd get hB hB0 hJ hlt hk hW hK hk16
          go_wp2_with fail
          go_region
          go_wp2_with fail
          refine (rot7 _ _).mono ?_
          rintro e w9 ⟨rfl, rfl⟩
          go_wp2_with fail
          refine (rot18 _ _).mono ?_
          rintro e w9 ⟨rfl, rfl⟩
          go_wp2_with fail
          refine (rot17 _ _).mono ?_
          rintro e w9 ⟨rfl, rfl⟩
          go_wp2_with fail
          refine (rot19 _ _).mono ?_
          rintro e w9 ⟨rfl, rfl⟩
          go_wp2_with fail
          go_region
          go_wp2_with fail
          go_roundw
          case rel =>
            obtain ⟨hJ, hlt, hk16⟩ := HJ.out
            have hkJ : J.toNat = k := by omega
            have e : ((J + 1 : Int)) = ((k + 1 : Nat) : Int) := by omega
            refine ⟨k + 1, by omega, by omega, by rw [← e], ?_, ((HB02.out.drew).far (p := ⟨w.heap.size + 1, J.toNat, none⟩) (by dsimp only; omega) _).drew, grown_drew (grown_far (grown_drew HK2.out) (p := ⟨w.heap.size + 1, J.toNat, none⟩) (.inl (by dsimp only; omega)) _)⟩
            have h1 := HB2.out.set J.toNat (.int .u32 (nextS y16 y15 y7 y2))
            have h2 := arr_push (q := .u32) (W := schS b k) (n := 64) (nextS y16 y15 y7 y2) (by rw [HW.out]; omega)
            rw [HW.out] at h2
            rw [hkJ, h2] at h1
            rw [hkJ, show schS b (k + 1) = schS b k ++ [nextS y16 y15 y7 y2] by rw [schS, HWD.out]]
            exact h1.drew.drew
          case measure => obtain ⟨hJ, hlt, hk16⟩ := HJ.out; simp [intOf]; omega
        · have d2 : decide (J < 64) = false := by simp; omega
          obtain rfl : k = 64 := by omega
          rw [show schS b 64 ++ List.replicate (64 - 64) 0 = schS b 64 by simp] at hB
          have HB2 := Lib.hid hB
          have HB02 := Lib.hid hB0
          have HK2 := Lib.hid hK
          have hcs : (arrV .u32 (schS b 64)).size = 64 := by rw [arr_size, schS_length]
          obtain ⟨cs, hcs'⟩ : ∃ cs, cs = arrV .u32 (schS b 64) := ⟨_, rfl⟩
          rw [← hcs'] at hcs HB2
          have HI64 : (Tryz.prog.info? 109).map (·.size) = some cs.size := by rw [hcs]; kernel_rfl
          have h1c : (cs.all fun x => x.oneCell') = true := by rw [hcs']; simp [Value.oneCell']
          have HC := Lib.hid (And.intro hcs (And.intro HI64 h1c))
          have HCS := Lib.hid hcs'
          clear hlt hk hk16 hJ hB hB0 hK hcs hW HI64 h1c hcs'
          have hld : ∀ {old : Array Value}, Blk wr w.heap.size 109 old → (loadVar 109 ⟨w.heap.size, 0, none⟩).run Tryz.prog (wr.setRow w.heap.size cs) = .ok (.agg cs) (wr.setRow w.heap.size cs) := fun h =>
            run_loadVar_row (wr.setRow w.heap.size cs) w.heap.size 109 109 cs (0, 0) _ (h.row cs) Tryz.underlying109 rfl HC.out.2.1
          go_wp2_with (first
            | (refine wpList_load_row rfl 109 _ rfl (w.heap.size + 1) rfl 109 cs (0, 0) _ HB2.out Tryz.underlying109 rfl HC.out.2.1 ?_)
            | (refine wpList_store_row rfl 109 _ _ rfl w.heap.size cs rfl rfl 109 _ HB02.out HC.out.2.1 (by rw [HC.out.1]; simp) HC.out.2.2 ?_))
          refine bodyPost_ret (results_cell rfl _ _ _ ⟨w.heap.size, 0, none⟩ (.agg cs) rfl (hld HB02.out)) rfl ?_
          exact ⟨by rw [HCS.out], grown_row HK2.out (.inl (Nat.le_refl _)) cs⟩
end Go.Proofs.YtpdfkgmgmndcfaaGreatDoor
/-
  SHA-256: a block is mixed in.
-/
namespace Go.Proofs.YtpdfkgmgmndcfaaGreatDoor
open Go.RowKit

def kS : List Int := [1116352408, 1899447441, 3049323471, 3921009573, 961987163, 1508970993, 2453635748, 2870763221, 3624381080, 310598401, 607225278, 1426881987, 1925078388, 2162078206, 2614888103, 3248222580, 3835390401, 4022224774, 264347078, 604807628, 770255983, 1249150122, 1555081692, 1996064986, 2554220882, 2821834349, 2952996808, 3210313671, 3336571891, 3584528711, 113926993, 338241895, 666307205, 773529912, 1294757372, 1396182291, 1695183700, 1986661051, 2177026350, 2456956037, 2730485921, 2820302411, 3259730800, 3345764771, 3516065817, 3600352804, 4094571909, 275423344, 430227734, 506948616, 659060556, 883997877, 958139571, 1322822218, 1537002063, 1747873779, 1955562222, 2024104815, 2227730452, 2361852424, 2428436474, 2756734187, 3204031479, 3329325298]
theorem kS_length : kS.length = 64 := by kernel_rfl

theorem index64 (w : World) {I : Int} {cs : Array Value} {v : Value} (hb : 0 ≤ I ∧ I < 64) (hv : cs[I.toNat]? = some v) : Sem.run Tryz.prog (Instr.index 109 (.agg cs) (.int .i64 I)) w = .ok v w :=
  run_index_agg (n := 64) Tryz.underlying109 (by kernel_rfl) (by kernel_rfl) hb hv
theorem index8 (w : World) {I : Int} {cs : Array Value} {v : Value} (hb : 0 ≤ I ∧ I < 8) (hv : cs[I.toNat]? = some v) : Sem.run Tryz.prog (Instr.index 110 (.agg cs) (.int .i64 I)) w = .ok v w :=
  run_index_agg (n := 8) Tryz.underlying110 (by kernel_rfl) (by kernel_rfl) hb hv

/-- The eight words. -/
structure V8 where
  a : Int
  b : Int
  c : Int
  d : Int
  e : Int
  f : Int
  g : Int
  h : Int
def V8.l (v : V8) : List Int := [v.a, v.b, v.c, v.d, v.e, v.f, v.g, v.h]
def V8.of (l : List Int) : V8 := ⟨l.getD 0 0, l.getD 1 0, l.getD 2 0, l.getD 3 0, l.getD 4 0, l.getD 5 0, l.getD 6 0, l.getD 7 0⟩
def b0S (x : Int) : Int := xr (xr (rr 1073741824 4 x) (rr 524288 8192 x)) (rr 1024 4194304 x)
def b1S (x : Int) : Int := xr (xr (rr 67108864 64 x) (rr 2097152 2048 x)) (rr 128 33554432 x)
def oneS (v : V8) (k x : Int) : Int := (v.h + b1S v.e + xr (an v.e v.f) (an (bits BinOp.xor IntKind.u32 IntKind.u32.max v.e) v.g) + k + x) % 4294967296
def twoS (v : V8) : Int := (b0S v.a + xr (xr (an v.a v.b) (an v.a v.c)) (an v.b v.c)) % 4294967296
def roundS (v : V8) (k x : Int) : V8 := ⟨(oneS v k x + twoS v) % 4294967296, v.a, v.b, v.c, (v.d + oneS v k x) % 4294967296, v.e, v.f, v.g⟩
def runS (W : List Int) (v : V8) : Nat → V8
  | 0 => v
  | n + 1 => roundS (runS W v n) (kS.getD n 0) (W.getD n 0)
def addS (ws v : List Int) : Nat → List Int
  | 0 => ws
  | n + 1 => (addS ws v n).set n (((addS ws v n).getD n 0 + v.getD n 0) % 4294967296)
theorem addS_length (ws v : List Int) (n : Nat) : (addS ws v n).length = ws.length := by
  induction n with
  | zero => rfl
  | succ n ih => simp [addS, ih]
/-- The words behind a block. -/
def mixS (ws b : List Int) : List Int := addS ws (runS (schS b 64) (V8.of ws) 64).l 8

/-- A hash's cells. -/
def hashV (ws bs : List Int) (n : Int) : Array Value := (ws.map (Value.int .u32) ++ (bs.map (Value.int .u8) ++ [Value.int .i64 n])).toArray
theorem hashV_word {ws bs : List Int} {n : Int} {i : Nat} (h : i < ws.length) : (hashV ws bs n)[i]? = some (.int .u32 (ws.getD i 0)) := by
  simp [hashV, List.getElem?_append, h]
theorem hashV_byte {ws bs : List Int} {n : Int} {i : Nat} (h : i < bs.length) : (hashV ws bs n)[ws.length + i]? = some (.int .u8 (bs.getD i 0)) := by
  simp [hashV, List.getElem?_append, h]
theorem hashV_count {ws bs : List Int} {n : Int} : (hashV ws bs n)[ws.length + bs.length]? = some (.int .i64 n) := by
  simp [hashV]
theorem hashV_setWord {ws bs : List Int} {n : Int} {i : Nat} (h : i < ws.length) (x : Int) : (hashV ws bs n).setIfInBounds i (.int .u32 x) = hashV (ws.set i x) bs n := by
  simp [hashV, h, List.map_set]
theorem hashV_setCount {ws bs : List Int} {n : Int} (x : Int) : (hashV ws bs n).setIfInBounds (ws.length + bs.length) (.int .i64 x) = hashV ws bs x := by
  simp [hashV]

/-- The hash at block g: its words, its block's bytes, its count. -/
def HashAt (w : World) (g : Nat) (ws bs : List Int) (n : Int) : Prop := Blk w g 122 (hashV ws bs n) ∧ ws.length = 8 ∧ bs.length = 64
def Rounds (w : World) : Prop := ∃ t, Blk w 18 t (arrV .u32 kS)
theorem Rounds.grown {w w' : World} {row : Option Nat} (h : Rounds w) (hg : w.grownBy w' row) (hr : some 18 ≠ row) : Rounds w' := ⟨h.choose, Blk.grown h.choose_spec hg hr⟩
theorem Rounds.lt {w : World} (h : Rounds w) : 18 < w.heap.size := Blk.lt h.choose_spec

set_option maxRecDepth 100000 in
set_option maxHeartbeats 1000000 in
theorem mix_is (w : World) (g : Nat) (ws bs : List Int) (n : Int) (hH : HashAt w g ws bs n) (hg : g ≠ 18) (hR : Rounds w) (bb bo cap : Nat) (b : List Int) (hl : b.length = 64) (hb : BytesN w bb bo b) (hcap : 64 ≤ cap) :
    Calls Tryz.prog 65 #[.pointer (some ⟨g, 0, none⟩), .slice (some ⟨bb, bo, none⟩) 64 cap] w fun e w' => e = .returned (.tuple #[]) ∧ HashAt w' g (mixS ws b) bs n ∧ w.grownBy w' (some g) := by
  obtain ⟨hB, hw8, hb64⟩ := hH
  obtain ⟨tR, hR⟩ := hR
  obtain ⟨a0, a1, a2, a3, a4, a5, a6, a7, rfl⟩ : ∃ a0 a1 a2 a3 a4 a5 a6 a7, ws = [a0, a1, a2, a3, a4, a5, a6, a7] := by
    match ws, hw8 with
    | [a0, a1, a2, a3, a4, a5, a6, a7], _ => exact ⟨a0, a1, a2, a3, a4, a5, a6, a7, rfl⟩
  have HM : mixS [a0, a1, a2, a3, a4, a5, a6, a7] b = addS [a0, a1, a2, a3, a4, a5, a6, a7] (runS (schS b 64) ⟨a0, a1, a2, a3, a4, a5, a6, a7⟩ 64).l 8 := rfl
  have HM := Lib.hid HM
  have HB := Lib.hid hB
  have HR := Lib.hid hR
  have HG := Lib.hid (And.intro hg hb64)
  clear hB hR hg hb64 hw8
  go_enter Tryz.func65, Tryz.ntmps65
  go_wp2_with fail
  refine (schedule_is w bb bo cap b hl hb hcap).mono ?_
  rintro e w1 ⟨rfl, hk1⟩
  obtain ⟨W, hW⟩ : ∃ W, W = schS b 64 := ⟨_, rfl⟩
  have hWl : W.length = 64 := by rw [hW]; exact schS_length b 64
  rw [← hW] at HM ⊢
  have HW := Lib.hid (And.intro hWl hW)
  obtain ⟨cs, hcs⟩ : ∃ cs, cs = arrV .u32 W := ⟨_, rfl⟩
  rw [← hcs]
  have hsz : cs.size = 64 := by rw [hcs, arr_size, hWl]
  have HI64 : (Tryz.prog.info? 109).map (·.size) = some cs.size := by rw [hsz]; kernel_rfl
  have HC := Lib.hid (And.intro hsz (And.intro HI64 (And.intro (show (cs.all fun x => x.oneCell') = true by rw [hcs]; simp [Value.oneCell']) hcs)))
  have HB1 := Lib.hid (Blk.grown HB.out hk1 (by simp))
  have HR1 := Lib.hid (Blk.grown HR.out hk1 (by simp))
  clear hW hWl hsz HI64 hcs hb hl hcap HB HR
  have HK := Lib.hid hk1
  clear hk1
  go_wp2_with (refine wpList_store_row rfl 109 _ _ rfl w1.heap.size cs rfl rfl 109 _ (heap_alloc_new w1 _) HC.out.2.1 (by rw [HC.out.1]; simp) HC.out.2.2.1 ?_)
  rw [← z64]
  have HA := Lib.hid (Blk.row (Blk.new w1 109 (arrV .u32 (List.replicate 64 0))) cs)
  have HB2 := Lib.hid (Blk.farRow (HB1.out.alloc (.cells (arrV .u32 (List.replicate 64 0)) 109)) (Nat.ne_of_lt HB1.out.lt) cs)
  have HR2 := Lib.hid (Blk.farRow (HR1.out.alloc (.cells (arrV .u32 (List.replicate 64 0)) 109)) (Nat.ne_of_lt HR1.out.lt) cs)
  have HK2 := Lib.hid (grown_row (grown_trans HK.out (World.grownBy_alloc w1 (.cells (arrV .u32 (List.replicate 64 0)) 109) none)) (g := w1.heap.size) (.inl (HK.out.size)) cs)
  have HL := Lib.hid HB1.out.lt
  generalize (w1.alloc (.cells (arrV .u32 (List.replicate 64 0)) 109)).setRow w1.heap.size cs = w2 at *
  clear HB1 HR1 HK
  have c0 := (HB2.out.cell 0).trans (hashV_word (i := 0) (by simp))
  have c1 := (HB2.out.cell 1).trans (hashV_word (i := 1) (by simp))
  have c2 := (HB2.out.cell 2).trans (hashV_word (i := 2) (by simp))
  have c3 := (HB2.out.cell 3).trans (hashV_word (i := 3) (by simp))
  have c4 := (HB2.out.cell 4).trans (hashV_word (i := 4) (by simp))
  have c5 := (HB2.out.cell 5).trans (hashV_word (i := 5) (by simp))
  have c6 := (HB2.out.cell 6).trans (hashV_word (i := 6) (by simp))
  have c7 := (HB2.out.cell 7).trans (hashV_word (i := 7) (by simp))
  simp only [List.getD_cons_zero, List.getD_cons_succ] at c0 c1 c2 c3 c4 c5 c6 c7
  go_quiet (fail)
  generalize nq = m1
  go_wp2_with fail
  go_quiet (fail)
  obtain ⟨ks, hks⟩ : ∃ ks, ks = arrV .u32 kS := ⟨_, rfl⟩
  have hksz : ks.size = 64 := by rw [hks, arr_size, kS_length]
  have HKS := Lib.hid (And.intro hks (And.intro (show (Tryz.prog.info? 109).map (·.size) = some ks.size by rw [hksz]; kernel_rfl) hksz))
  rw [← hks] at HR2
  clear hks hksz
  go_wp2_with (refine wpList_load_row rfl 109 _ rfl 18 rfl tR ks (0, 0) _ HR2.out Tryz.underlying109 rfl HKS.out.2.1 ?_)
  have HA3 := Lib.hid (show Blk (w2.drewN (m1 + nq)) w1.heap.size 109 cs from HA.out)
  have HB3 := Lib.hid (show Blk (w2.drewN (m1 + nq)) g 122 _ from HB2.out)
  have HK3 := Lib.hid (show w.grownBy (w2.drewN (m1 + nq)) none from ⟨HK2.out.os, HK2.out.tape, HK2.out.output, HK2.out.size, HK2.out.block⟩)
  generalize w2.drewN (m1 + nq) = w3 at *
  clear HA HB2 HK2 HR2 c0 c1 c2 c3 c4 c5 c6 c7
  go_loop [64, 5, 6, 7, 8, 9, 10, 11, 12] (fun i xa xb xc xd xe xf xg xh => ∃ (k : Nat) (v : V8), k ≤ 64 ∧ i = .int .i64 (k : Int) ∧ v = runS W ⟨a0, a1, a2, a3, a4, a5, a6, a7⟩ k ∧ xa = .int .u32 v.a ∧ xb = .int .u32 v.b ∧ xc = .int .u32 v.c ∧ xd = .int .u32 v.d ∧ xe = .int .u32 v.e ∧ xf = .int .u32 v.f ∧ xg = .int .u32 v.g ∧ xh = .int .u32 v.h) (fun i _ _ _ _ _ _ _ _ => 64 - (intOf i).toNat)
  case atStart => exact ⟨0, _, by omega, rfl, rfl, rfl, rfl, rfl, rfl, rfl, rfl, rfl, rfl⟩
  case round =>
    obtain ⟨k, v, hk, hi, hv, rfl, rfl, rfl, rfl, rfl, rfl, rfl, rfl⟩ := hrel
    obtain ⟨va, vb, vc, vd, ve, vf, vg, vh⟩ := v
    dsimp only
    obtain ⟨I, hI⟩ : ∃ I : Int, I = (k : Int) := ⟨_, rfl⟩
    rw [← hI] at hi
    subst hi
    by_cases hlt : k < 64
    · have d1 : decide (I < 64) = true := by simp; omega
      have hkI : I.toNat = k := by omega
      have hx : 0 ≤ I ∧ I < 64 := by omega
      obtain ⟨hks, _, hksz⟩ := HKS.out
      obtain ⟨kv, hkv⟩ : ∃ kv, kv = kS.getD k 0 := ⟨_, rfl⟩
      obtain ⟨wv, hwv⟩ : ∃ wv, wv = W.getD k 0 := ⟨_, rfl⟩
      have kk : ks[I.toNat]? = some (.int .u32 kv) := by rw [hkv, hkI, hks]; exact arr_get (by rw [kS_length]; exact hlt)
      have kw : w3.cell? ⟨w1.heap.size, I.toNat, none⟩ = some (.int .u32 wv) := by rw [hwv, HA3.out.cell, hkI, HC.out.2.2.2]; exact arr_get (by rw [HW.out.1]; exact hlt)
      have HI := Lib.hid (And.intro hI (And.intro hlt hkI))
      have HV := Lib.hid (And.intro hv (And.intro hkv hwv))
      have HX := Lib.hid hx
      have kx := index64 w3 hx kk
      clear hI hlt hkI hv hks hx kk hkv hwv
      go_wp2_with fail
      refine (rot6 _ _).mono ?_
      rintro e9 w9 ⟨rfl, rfl⟩
      go_wp2_with fail
      refine (rot11 _ _).mono ?_
      rintro e9 w9 ⟨rfl, rfl⟩
      go_wp2_with fail
      refine (rot25 _ _).mono ?_
      rintro e9 w9 ⟨rfl, rfl⟩
      have hx := HX.out
      go_wp2_with fail
      clear hx
      refine (rot2 _ _).mono ?_
      rintro e9 w9 ⟨rfl, rfl⟩
      go_wp2_with fail
      refine (rot13 _ _).mono ?_
      rintro e9 w9 ⟨rfl, rfl⟩
      go_wp2_with fail
      refine (rot22 _ _).mono ?_
      rintro e9 w9 ⟨rfl, rfl⟩
      have hx := HX.out
      go_wp2_with fail
      go_round
      case rel =>
        obtain ⟨hI, hlt, hkI⟩ := HI.out
        obtain ⟨hv, hkv, hwv⟩ := HV.out
        exact ⟨k + 1, roundS ⟨va, vb, vc, vd, ve, vf, vg, vh⟩ kv wv, by omega, by rw [hI]; rfl, by rw [runS, ← hv, hkv, hwv], rfl, rfl, rfl, rfl, rfl, rfl, rfl, rfl⟩
      case measure => obtain ⟨hI, hlt, hkI⟩ := HI.out; simp [intOf]; omega
    · have d1 : decide (I < 64) = false := by simp; omega
      obtain rfl : k = 64 := by omega
      have HV := Lib.hid (And.intro hv hI)
      clear hv hI hlt hk
      go_wp2_with fail
      obtain ⟨c8, hc8⟩ : ∃ c8 : Array Value, c8 = #[.int .u32 va, .int .u32 vb, .int .u32 vc, .int .u32 vd, .int .u32 ve, .int .u32 vf, .int .u32 vg, .int .u32 vh] := ⟨_, rfl⟩
      rw [← hc8]
      have H8 := Lib.hid (show c8 = arrV .u32 [va, vb, vc, vd, ve, vf, vg, vh] from hc8)
      clear hc8
      obtain ⟨ws, hws⟩ : ∃ ws, ws = [a0, a1, a2, a3, a4, a5, a6, a7] := ⟨_, rfl⟩
      obtain ⟨vl, hvl⟩ : ∃ vl, vl = [va, vb, vc, vd, ve, vf, vg, vh] := ⟨_, rfl⟩
      have hwl : ws.length = 8 := by rw [hws]; rfl
      have hvn : vl.length = 8 := by rw [hvl]; rfl
      have HM2 : mixS [a0, a1, a2, a3, a4, a5, a6, a7] b = addS ws vl 8 := by rw [HM.out, ← HV.out.1, hws, hvl]; rfl
      rw [← hws] at HB3
      rw [← hvl] at H8
      have HS := Lib.hid (And.intro hwl (And.intro hvn HM2))
      clear hws hvl HM2 hwl hvn HV HM
      go_loopw [137] (fun i wr => ∃ k : Nat, k ≤ 8 ∧ i = .int .i64 (k : Int) ∧ Blk wr g 122 (hashV (addS ws vl k) bs n) ∧ w.grownBy wr (some g)) (fun i _ => 8 - (intOf i).toNat)
      case atStart => exact ⟨0, by omega, rfl, HB3.out, grown_weak HK3.out _⟩
      case round =>
        obtain ⟨k, hk, hi, hB, hK⟩ := hrel
        obtain ⟨J, hJ⟩ : ∃ J : Int, J = (k : Int) := ⟨_, rfl⟩
        rw [← hJ] at hi
        subst hi
        by_cases hlt : k < 8
        · have d2 : decide (J < 8) = true := by simp; omega
          have hkJ : J.toNat = k := by omega
          have hx : 0 ≤ J ∧ J < 8 := by omega
          have hln : (addS ws vl k).length = 8 := by rw [addS_length]; exact HS.out.1
          obtain ⟨x, hx1⟩ : ∃ x, x = (addS ws vl k).getD k 0 := ⟨_, rfl⟩
          obtain ⟨y, hy1⟩ : ∃ y, y = vl.getD k 0 := ⟨_, rfl⟩
          have kc : wr.cell? ⟨g, J.toNat, none⟩ = some (.int .u32 x) := by rw [hB.cell, hkJ, hx1]; exact hashV_word (by rw [hln]; exact hlt)
          have kf := hB.frozen J.toNat
          have kk : c8[J.toNat]? = some (.int .u32 y) := by rw [H8.out, hkJ, hy1]; exact arr_get (by rw [HS.out.2.1]; exact hlt)
          have kx := index8 wr hx kk
          have HJ := Lib.hid (And.intro hJ (And.intro hlt (And.intro hkJ (And.intro hx1 (And.intro hy1 hln)))))
          have HX := Lib.hid hx
          have HBk := Lib.hid hB
          have HKk := Lib.hid hK
          clear hJ hlt hkJ hx1 hy1 hln hx hB hK kk hk
          go_wp2_with fail
          have hx := HX.out
          go_region
          go_wp2_with fail
          go_roundw
          case rel =>
            obtain ⟨hJ, hlt, hkJ, hx1, hy1, hln⟩ := HJ.out
            refine ⟨k + 1, by omega, by rw [hJ]; rfl, ?_, grown_far (grown_drew HKk.out) (.inr rfl) _⟩
            have := HBk.out.drew.set J.toNat (.int .u32 ((x + y) % 4294967296))
            rw [hashV_setWord (by rw [hkJ, hln]; exact hlt), hkJ] at this
            rw [addS, ← hx1, ← hy1, hkJ]
            exact this
          case measure => obtain ⟨hJ, hlt, hkJ, _⟩ := HJ.out; simp [intOf]; omega
        · have d2 : decide (J < 8) = false := by simp; omega
          obtain rfl : k = 8 := by omega
          have HBk := Lib.hid hB
          have HKk := Lib.hid hK
          clear hlt hJ hB hK hk
          go_wp2_with fail
          go_end0
          exact ⟨rfl, ⟨by rw [HS.out.2.2]; exact HBk.out, by rw [HS.out.2.2, addS_length]; exact HS.out.1, HG.out.2⟩, HKk.out⟩
end Go.Proofs.YtpdfkgmgmndcfaaGreatDoor
