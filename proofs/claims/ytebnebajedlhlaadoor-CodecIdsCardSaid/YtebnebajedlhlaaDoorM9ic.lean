/-
  Several texts in one: Sh3, Sh4.
-/
import Derived.Test.YtebnebajedlhlaaDoorM9ib
import Derived.BigQuiet
import Derived.ChangeKeysEq
import Derived.Deep.RegionWith
import Derived.Laws.CopyOwn
/-
  SHA-256: a block is mixed in.
-/
namespace Go.Proofs.YtebnebajedlhlaaDoor
open Go.RowKit

def kS : List Int := [1116352408, 1899447441, 3049323471, 3921009573, 961987163, 1508970993, 2453635748, 2870763221, 3624381080, 310598401, 607225278, 1426881987, 1925078388, 2162078206, 2614888103, 3248222580, 3835390401, 4022224774, 264347078, 604807628, 770255983, 1249150122, 1555081692, 1996064986, 2554220882, 2821834349, 2952996808, 3210313671, 3336571891, 3584528711, 113926993, 338241895, 666307205, 773529912, 1294757372, 1396182291, 1695183700, 1986661051, 2177026350, 2456956037, 2730485921, 2820302411, 3259730800, 3345764771, 3516065817, 3600352804, 4094571909, 275423344, 430227734, 506948616, 659060556, 883997877, 958139571, 1322822218, 1537002063, 1747873779, 1955562222, 2024104815, 2227730452, 2361852424, 2428436474, 2756734187, 3204031479, 3329325298]
theorem kS_length : kS.length = 64 := by kernel_rfl

theorem index64 (w : World) {I : Int} {cs : Array Value} {v : Value} (hb : 0 ≤ I ∧ I < 64) (hv : cs[I.toNat]? = some v) : Sem.run Tryd.prog (Instr.index 135 (.agg cs) (.int .i64 I)) w = .ok v w :=
  run_index_agg (n := 64) Tryd.underlying135 (by kernel_rfl) (by kernel_rfl) hb hv
theorem index8 (w : World) {I : Int} {cs : Array Value} {v : Value} (hb : 0 ≤ I ∧ I < 8) (hv : cs[I.toNat]? = some v) : Sem.run Tryd.prog (Instr.index 94 (.agg cs) (.int .i64 I)) w = .ok v w :=
  run_index_agg (n := 8) Tryd.underlying94 (by kernel_rfl) (by kernel_rfl) hb hv

/-- The eight words. -/
structure V8 where
  a : Int
  b : Int
  c : Int
  d : Int
  e : Int
  f : Int
  g : Int
  h : Int
def V8.l (v : V8) : List Int := [v.a, v.b, v.c, v.d, v.e, v.f, v.g, v.h]
def V8.of (l : List Int) : V8 := ⟨l.getD 0 0, l.getD 1 0, l.getD 2 0, l.getD 3 0, l.getD 4 0, l.getD 5 0, l.getD 6 0, l.getD 7 0⟩
def b0S (x : Int) : Int := xr (xr (rr 1073741824 4 x) (rr 524288 8192 x)) (rr 1024 4194304 x)
def b1S (x : Int) : Int := xr (xr (rr 67108864 64 x) (rr 2097152 2048 x)) (rr 128 33554432 x)
def oneS (v : V8) (k x : Int) : Int := (v.h + b1S v.e + xr (an v.e v.f) (an (bits BinOp.xor IntKind.u32 IntKind.u32.max v.e) v.g) + k + x) % 4294967296
def twoS (v : V8) : Int := (b0S v.a + xr (xr (an v.a v.b) (an v.a v.c)) (an v.b v.c)) % 4294967296
def roundS (v : V8) (k x : Int) : V8 := ⟨(oneS v k x + twoS v) % 4294967296, v.a, v.b, v.c, (v.d + oneS v k x) % 4294967296, v.e, v.f, v.g⟩
def runS (W : List Int) (v : V8) : Nat → V8
  | 0 => v
  | n + 1 => roundS (runS W v n) (kS.getD n 0) (W.getD n 0)
def addS (ws v : List Int) : Nat → List Int
  | 0 => ws
  | n + 1 => (addS ws v n).set n (((addS ws v n).getD n 0 + v.getD n 0) % 4294967296)
theorem addS_length (ws v : List Int) (n : Nat) : (addS ws v n).length = ws.length := by
  induction n with
  | zero => rfl
  | succ n ih => simp [addS, ih]
/-- The words behind a block. -/
def mixS (ws b : List Int) : List Int := addS ws (runS (schS b 64) (V8.of ws) 64).l 8

/-- A hash's cells. -/
def hashV (ws bs : List Int) (n : Int) : Array Value := (ws.map (Value.int .u32) ++ (bs.map (Value.int .u8) ++ [Value.int .i64 n])).toArray
theorem hashV_word {ws bs : List Int} {n : Int} {i : Nat} (h : i < ws.length) : (hashV ws bs n)[i]? = some (.int .u32 (ws.getD i 0)) := by
  simp [hashV, List.getElem?_append, h]
theorem hashV_byte {ws bs : List Int} {n : Int} {i : Nat} (h : i < bs.length) : (hashV ws bs n)[ws.length + i]? = some (.int .u8 (bs.getD i 0)) := by
  simp [hashV, List.getElem?_append, h]
theorem hashV_count {ws bs : List Int} {n : Int} : (hashV ws bs n)[ws.length + bs.length]? = some (.int .i64 n) := by
  simp [hashV]
theorem hashV_setWord {ws bs : List Int} {n : Int} {i : Nat} (h : i < ws.length) (x : Int) : (hashV ws bs n).setIfInBounds i (.int .u32 x) = hashV (ws.set i x) bs n := by
  simp [hashV, h, List.map_set]
theorem hashV_setCount {ws bs : List Int} {n : Int} (x : Int) : (hashV ws bs n).setIfInBounds (ws.length + bs.length) (.int .i64 x) = hashV ws bs x := by
  simp [hashV]

/-- The hash at block g: its words, its block's bytes, its count. -/
def HashAt (w : World) (g : Nat) (ws bs : List Int) (n : Int) : Prop := Blk w g 99 (hashV ws bs n) ∧ ws.length = 8 ∧ bs.length = 64
def Rounds (w : World) : Prop := ∃ t, Blk w 2 t (arrV .u32 kS)
theorem Rounds.grown {w w' : World} {row : Option Nat} (h : Rounds w) (hg : w.grownBy w' row) (hr : some 2 ≠ row) : Rounds w' := ⟨h.choose, Blk.grown h.choose_spec hg hr⟩
theorem Rounds.lt {w : World} (h : Rounds w) : 2 < w.heap.size := Blk.lt h.choose_spec

set_option maxRecDepth 100000 in
set_option maxHeartbeats 1000000 in
theorem mix_is (w : World) (g : Nat) (ws bs : List Int) (n : Int) (hH : HashAt w g ws bs n) (hg : g ≠ 2) (hR : Rounds w) (bb bo cap : Nat) (b : List Int) (hl : b.length = 64) (hb : BytesN w bb bo b) (hcap : 64 ≤ cap) :
    Calls Tryd.prog 49 #[.pointer (some ⟨g, 0, none⟩), .slice (some ⟨bb, bo, none⟩) 64 cap] w fun e w' => e = .returned (.tuple #[]) ∧ HashAt w' g (mixS ws b) bs n ∧ w.grownBy w' (some g) := by
  obtain ⟨hB, hw8, hb64⟩ := hH
  obtain ⟨tR, hR⟩ := hR
  obtain ⟨a0, a1, a2, a3, a4, a5, a6, a7, rfl⟩ : ∃ a0 a1 a2 a3 a4 a5 a6 a7, ws = [a0, a1, a2, a3, a4, a5, a6, a7] := by
    match ws, hw8 with
    | [a0, a1, a2, a3, a4, a5, a6, a7], _ => exact ⟨a0, a1, a2, a3, a4, a5, a6, a7, rfl⟩
  have HM : mixS [a0, a1, a2, a3, a4, a5, a6, a7] b = addS [a0, a1, a2, a3, a4, a5, a6, a7] (runS (schS b 64) ⟨a0, a1, a2, a3, a4, a5, a6, a7⟩ 64).l 8 := rfl
  have HM := Lib.hid HM
  have HB := Lib.hid hB
  have HR := Lib.hid hR
  have HG := Lib.hid (And.intro hg hb64)
  clear hB hR hg hb64 hw8
  go_enter Tryd.func49, Tryd.ntmps49
  go_wp2_with fail
  refine (schedule_is w bb bo cap b hl hb hcap).mono ?_
  rintro e w1 ⟨rfl, hk1⟩
  obtain ⟨W, hW⟩ : ∃ W, W = schS b 64 := ⟨_, rfl⟩
  have hWl : W.length = 64 := by rw [hW]; exact schS_length b 64
  rw [← hW] at HM ⊢
  have HW := Lib.hid (And.intro hWl hW)
  obtain ⟨cs, hcs⟩ : ∃ cs, cs = arrV .u32 W := ⟨_, rfl⟩
  rw [← hcs]
  have hsz : cs.size = 64 := by rw [hcs, arr_size, hWl]
  have HI64 : (Tryd.prog.info? 135).map (·.size) = some cs.size := by rw [hsz]; kernel_rfl
  have HC := Lib.hid (And.intro hsz (And.intro HI64 (And.intro (show (cs.all fun x => x.oneCell') = true by rw [hcs]; simp [Value.oneCell']) hcs)))
  have HB1 := Lib.hid (Blk.grown HB.out hk1 (by simp))
  have HR1 := Lib.hid (Blk.grown HR.out hk1 (by simp))
  clear hW hWl hsz HI64 hcs hb hl hcap HB HR
  have HK := Lib.hid hk1
  clear hk1
  go_wp2_with (refine wpList_store_row rfl 135 _ _ rfl w1.heap.size cs rfl rfl 135 _ (heap_alloc_new w1 _) HC.out.2.1 (by rw [HC.out.1]; simp) HC.out.2.2.1 ?_)
  rw [← z64]
  have HA := Lib.hid (Blk.row (Blk.new w1 135 (arrV .u32 (List.replicate 64 0))) cs)
  have HB2 := Lib.hid (Blk.farRow (HB1.out.alloc (.cells (arrV .u32 (List.replicate 64 0)) 135)) (Nat.ne_of_lt HB1.out.lt) cs)
  have HR2 := Lib.hid (Blk.farRow (HR1.out.alloc (.cells (arrV .u32 (List.replicate 64 0)) 135)) (Nat.ne_of_lt HR1.out.lt) cs)
  have HK2 := Lib.hid (grown_row (grown_trans HK.out (World.grownBy_alloc w1 (.cells (arrV .u32 (List.replicate 64 0)) 135) none)) (g := w1.heap.size) (.inl (HK.out.size)) cs)
  have HL := Lib.hid HB1.out.lt
  generalize (w1.alloc (.cells (arrV .u32 (List.replicate 64 0)) 135)).setRow w1.heap.size cs = w2 at *
  clear HB1 HR1 HK
  have c0 := (HB2.out.cell 0).trans (hashV_word (i := 0) (by simp))
  have c1 := (HB2.out.cell 1).trans (hashV_word (i := 1) (by simp))
  have c2 := (HB2.out.cell 2).trans (hashV_word (i := 2) (by simp))
  have c3 := (HB2.out.cell 3).trans (hashV_word (i := 3) (by simp))
  have c4 := (HB2.out.cell 4).trans (hashV_word (i := 4) (by simp))
  have c5 := (HB2.out.cell 5).trans (hashV_word (i := 5) (by simp))
  have c6 := (HB2.out.cell 6).trans (hashV_word (i := 6) (by simp))
  have c7 := (HB2.out.cell 7).trans (hashV_word (i := 7) (by simp))
  simp only [List.getD_cons_zero, List.getD_cons_succ] at c0 c1 c2 c3 c4 c5 c6 c7
  go_quiet (fail)
  generalize nq = m1
  go_wp2_with fail
  go_quiet (fail)
  obtain ⟨ks, hks⟩ : ∃ ks, ks = arrV .u32 kS := ⟨_, rfl⟩
  have hksz : ks.size = 64 := by rw [hks, arr_size, kS_length]
  have HKS := Lib.hid (And.intro hks (And.intro (show (Tryd.prog.info? 135).map (·.size) = some ks.size by rw [hksz]; kernel_rfl) hksz))
  rw [← hks] at HR2
  clear hks hksz
  go_wp2_with (refine wpList_load_row rfl 135 _ rfl 2 rfl tR ks (0, 0) _ HR2.out Tryd.underlying135 rfl HKS.out.2.1 ?_)
  have HA3 := Lib.hid (show Blk (w2.drewN (m1 + nq)) w1.heap.size 135 cs from HA.out)
  have HB3 := Lib.hid (show Blk (w2.drewN (m1 + nq)) g 99 _ from HB2.out)
  have HK3 := Lib.hid (show w.grownBy (w2.drewN (m1 + nq)) none from ⟨HK2.out.os, HK2.out.tape, HK2.out.output, HK2.out.size, HK2.out.block⟩)
  generalize w2.drewN (m1 + nq) = w3 at *
  clear HA HB2 HK2 HR2 c0 c1 c2 c3 c4 c5 c6 c7
  go_loop [64, 5, 6, 7, 8, 9, 10, 11, 12] (fun i xa xb xc xd xe xf xg xh => ∃ (k : Nat) (v : V8), k ≤ 64 ∧ i = .int .i64 (k : Int) ∧ v = runS W ⟨a0, a1, a2, a3, a4, a5, a6, a7⟩ k ∧ xa = .int .u32 v.a ∧ xb = .int .u32 v.b ∧ xc = .int .u32 v.c ∧ xd = .int .u32 v.d ∧ xe = .int .u32 v.e ∧ xf = .int .u32 v.f ∧ xg = .int .u32 v.g ∧ xh = .int .u32 v.h) (fun i _ _ _ _ _ _ _ _ => 64 - (intOf i).toNat)
  case atStart => exact ⟨0, _, by omega, rfl, rfl, rfl, rfl, rfl, rfl, rfl, rfl, rfl, rfl⟩
  case round =>
    obtain ⟨k, v, hk, hi, hv, rfl, rfl, rfl, rfl, rfl, rfl, rfl, rfl⟩ := hrel
    obtain ⟨va, vb, vc, vd, ve, vf, vg, vh⟩ := v
    dsimp only
    obtain ⟨I, hI⟩ : ∃ I : Int, I = (k : Int) := ⟨_, rfl⟩
    rw [← hI] at hi
    subst hi
    by_cases hlt : k < 64
    · have d1 : decide (I < 64) = true := by simp; omega
      have hkI : I.toNat = k := by omega
      have hx : 0 ≤ I ∧ I < 64 := by omega
      obtain ⟨hks, _, hksz⟩ := HKS.out
      obtain ⟨kv, hkv⟩ : ∃ kv, kv = kS.getD k 0 := ⟨_, rfl⟩
      obtain ⟨wv, hwv⟩ : ∃ wv, wv = W.getD k 0 := ⟨_, rfl⟩
      have kk : ks[I.toNat]? = some (.int .u32 kv) := by rw [hkv, hkI, hks]; exact arr_get (by rw [kS_length]; exact hlt)
      have kw : w3.cell? ⟨w1.heap.size, I.toNat, none⟩ = some (.int .u32 wv) := by rw [hwv, HA3.out.cell, hkI, HC.out.2.2.2]; exact arr_get (by rw [HW.out.1]; exact hlt)
      have HI := Lib.hid (And.intro hI (And.intro hlt hkI))
      have HV := Lib.hid (And.intro hv (And.intro hkv hwv))
      have HX := Lib.hid hx
      have kx := index64 w3 hx kk
      clear hI hlt hkI hv hks hx kk hkv hwv
      go_wp2_with fail
      refine (rot6 _ _).mono ?_
      rintro e9 w9 ⟨rfl, rfl⟩
      go_wp2_with fail
      refine (rot11 _ _).mono ?_
      rintro e9 w9 ⟨rfl, rfl⟩
      go_wp2_with fail
      refine (rot25 _ _).mono ?_
      rintro e9 w9 ⟨rfl, rfl⟩
      have hx := HX.out
      go_wp2_with fail
      clear hx
      refine (rot2 _ _).mono ?_
      rintro e9 w9 ⟨rfl, rfl⟩
      go_wp2_with fail
      refine (rot13 _ _).mono ?_
      rintro e9 w9 ⟨rfl, rfl⟩
      go_wp2_with fail
      refine (rot22 _ _).mono ?_
      rintro e9 w9 ⟨rfl, rfl⟩
      have hx := HX.out
      go_wp2_with fail
      go_round
      case rel =>
        obtain ⟨hI, hlt, hkI⟩ := HI.out
        obtain ⟨hv, hkv, hwv⟩ := HV.out
        exact ⟨k + 1, roundS ⟨va, vb, vc, vd, ve, vf, vg, vh⟩ kv wv, by omega, by rw [hI]; rfl, by rw [runS, ← hv, hkv, hwv], rfl, rfl, rfl, rfl, rfl, rfl, rfl, rfl⟩
      case measure => obtain ⟨hI, hlt, hkI⟩ := HI.out; simp [intOf]; omega
    · have d1 : decide (I < 64) = false := by simp; omega
      obtain rfl : k = 64 := by omega
      have HV := Lib.hid (And.intro hv hI)
      clear hv hI hlt hk
      go_wp2_with fail
      obtain ⟨c8, hc8⟩ : ∃ c8 : Array Value, c8 = #[.int .u32 va, .int .u32 vb, .int .u32 vc, .int .u32 vd, .int .u32 ve, .int .u32 vf, .int .u32 vg, .int .u32 vh] := ⟨_, rfl⟩
      rw [← hc8]
      have H8 := Lib.hid (show c8 = arrV .u32 [va, vb, vc, vd, ve, vf, vg, vh] from hc8)
      clear hc8
      obtain ⟨ws, hws⟩ : ∃ ws, ws = [a0, a1, a2, a3, a4, a5, a6, a7] := ⟨_, rfl⟩
      obtain ⟨vl, hvl⟩ : ∃ vl, vl = [va, vb, vc, vd, ve, vf, vg, vh] := ⟨_, rfl⟩
      have hwl : ws.length = 8 := by rw [hws]; rfl
      have hvn : vl.length = 8 := by rw [hvl]; rfl
      have HM2 : mixS [a0, a1, a2, a3, a4, a5, a6, a7] b = addS ws vl 8 := by rw [HM.out, ← HV.out.1, hws, hvl]; rfl
      rw [← hws] at HB3
      rw [← hvl] at H8
      have HS := Lib.hid (And.intro hwl (And.intro hvn HM2))
      clear hws hvl HM2 hwl hvn HV HM
      go_loopw [137] (fun i wr => ∃ k : Nat, k ≤ 8 ∧ i = .int .i64 (k : Int) ∧ Blk wr g 99 (hashV (addS ws vl k) bs n) ∧ w.grownBy wr (some g)) (fun i _ => 8 - (intOf i).toNat)
      case atStart => exact ⟨0, by omega, rfl, HB3.out, grown_weak HK3.out _⟩
      case round =>
        obtain ⟨k, hk, hi, hB, hK⟩ := hrel
        obtain ⟨J, hJ⟩ : ∃ J : Int, J = (k : Int) := ⟨_, rfl⟩
        rw [← hJ] at hi
        subst hi
        by_cases hlt : k < 8
        · have d2 : decide (J < 8) = true := by simp; omega
          have hkJ : J.toNat = k := by omega
          have hx : 0 ≤ J ∧ J < 8 := by omega
          have hln : (addS ws vl k).length = 8 := by rw [addS_length]; exact HS.out.1
          obtain ⟨x, hx1⟩ : ∃ x, x = (addS ws vl k).getD k 0 := ⟨_, rfl⟩
          obtain ⟨y, hy1⟩ : ∃ y, y = vl.getD k 0 := ⟨_, rfl⟩
          have kc : wr.cell? ⟨g, J.toNat, none⟩ = some (.int .u32 x) := by rw [hB.cell, hkJ, hx1]; exact hashV_word (by rw [hln]; exact hlt)
          have kf := hB.frozen J.toNat
          have kk : c8[J.toNat]? = some (.int .u32 y) := by rw [H8.out, hkJ, hy1]; exact arr_get (by rw [HS.out.2.1]; exact hlt)
          have kx := index8 wr hx kk
          have HJ := Lib.hid (And.intro hJ (And.intro hlt (And.intro hkJ (And.intro hx1 (And.intro hy1 hln)))))
          have HX := Lib.hid hx
          have HBk := Lib.hid hB
          have HKk := Lib.hid hK
          clear hJ hlt hkJ hx1 hy1 hln hx hB hK kk hk
          go_wp2_with fail
          have hx := HX.out
          go_region
          go_wp2_with fail
          go_roundw
          case rel =>
            obtain ⟨hJ, hlt, hkJ, hx1, hy1, hln⟩ := HJ.out
            refine ⟨k + 1, by omega, by rw [hJ]; rfl, ?_, grown_far (grown_drew HKk.out) (.inr rfl) _⟩
            have := HBk.out.drew.set J.toNat (.int .u32 ((x + y) % 4294967296))
            rw [hashV_setWord (by rw [hkJ, hln]; exact hlt), hkJ] at this
            rw [addS, ← hx1, ← hy1, hkJ]
            exact this
          case measure => obtain ⟨hJ, hlt, hkJ, _⟩ := HJ.out; simp [intOf]; omega
        · have d2 : decide (J < 8) = false := by simp; omega
          obtain rfl : k = 8 := by omega
          have HBk := Lib.hid hB
          have HKk := Lib.hid hK
          clear hlt hJ hB hK hk
          go_wp2_with fail
          go_end0
          exact ⟨rfl, ⟨by rw [HS.out.2.2]; exact HBk.out, by rw [HS.out.2.2, addS_length]; exact HS.out.1, HG.out.2⟩, HKk.out⟩
end Go.Proofs.YtebnebajedlhlaaDoor
/-
  SHA-256: bytes more.
-/
namespace Go.Proofs.YtebnebajedlhlaaDoor
open Go.RowKit

section
variable {P : Program}
theorem slice_from {w : World} {b o q n : Nat} {t e : TypeId} (hu : P.underlying t = some (.array n e)) (hs : (P.info? e).map (·.size) = some 1) (hq : q < n) :
    Sem.run P (Instr.sliceAt t (.pointer (some ⟨b, o, none⟩)) (some (.int .i64 (q : Int))) none none) w = .ok (.slice (some ⟨b, o + q, none⟩) (n - q) (n - q)) w := by
  cases hi : P.info? e with
  | none => simp [hi] at hs
  | some ei =>
    have h1 : ei.size = 1 := by simpa [hi] using hs
    have h2 : (q : Int) ≤ n := by omega
    have h3 : ¬ n = q := by omega
    have h4 := run_sliceAt_array_l (P := P) (w := w) t ⟨b, o, none⟩ (by unfold Program.arrayLen Program.elem; simp [hu]) .i64 (q : Int) (by omega) (by unfold Program.arrayLen; simp [hu]; omega)
    rw [h4]
    simp [Program.arrayLen, Program.elem, hu, slicedAt, sizeOf, typeInfo, hi, h1, h3, Addr.add]
theorem slice_all {w : World} {b o n : Nat} {t e : TypeId} (hu : P.underlying t = some (.array n e)) (hs : (P.info? e).map (·.size) = some 1) :
    Sem.run P (Instr.sliceAt t (.pointer (some ⟨b, o, none⟩)) none none none) w = .ok (.slice (some ⟨b, o, none⟩) n n) w := by
  cases hi : P.info? e with
  | none => simp [hi] at hs
  | some ei =>
    have h1 : ei.size = 1 := by simpa [hi] using hs
    have h4 := run_sliceAt_array_all (P := P) (w := w) t ⟨b, o, none⟩ (by unfold Program.arrayLen Program.elem; simp [hu])
    rw [h4]
    simp [Program.arrayLen, Program.elem, hu, slicedAt, sizeOf, typeInfo, hi, Addr.add]
theorem slice_to {w : World} {b o q n : Nat} {t e : TypeId} (hu : P.underlying t = some (.array n e)) (hs : (P.info? e).map (·.size) = some 1) (hq : q ≤ n) :
    Sem.run P (Instr.sliceAt t (.pointer (some ⟨b, o, none⟩)) none (some (.int .i64 (q : Int))) none) w = .ok (.slice (some ⟨b, o, none⟩) q n) w := by
  cases hi : P.info? e with
  | none => simp [hi] at hs
  | some ei =>
    have h4 := run_sliceAt_array_h (P := P) (w := w) t ⟨b, o, none⟩ (by unfold Program.arrayLen Program.elem; simp [hu]) .i64 (q : Int) (by omega) (by unfold Program.arrayLen; simp [hu]; omega)
    rw [h4]
    simp [Program.arrayLen, Program.elem, hu, slicedAt, sizeOf, typeInfo, hi, Addr.add]
end

/-- 'copy' into a block that is known whole. -/
theorem copy_run {P : Program} (w : World) (dT sT ty elem : TypeId) (hu : P.underlying dT = some (.slice elem)) (hsz : (P.info? elem).map (·.size) = some 1)
    (g off dLen dCap : Nat) (ad : Addr) (sLen sCap : Nat) (cur new : Array Value) (t : TypeId) (hg : Blk w g t cur) (cs : List Value) (N : Nat) (hN : cs.length = N) (hn : N = Nat.min sLen dLen)
    (hsrc : ∀ j v, cs[j]? = some v → w.cell? (ad.add j) = some v) (hfit : off + N ≤ cur.size) (h1 : ∀ v ∈ cs, v.oneCell' = true)
    (hnew : cur.toList.take off ++ cs ++ cur.toList.drop (off + N) = new.toList) :
    ∃ w1, Sem.run P (Builtin.copy_ #[dT, sT] ty #[.slice (some ⟨g, off, none⟩) dLen dCap, .slice (some ad) sLen sCap]) w = .ok (.int .i64 (N : Int)) w1 ∧ Blk w1 g t new ∧ w.grownBy w1 (some g) := by
  subst hN
  refine ⟨_, run_copy_row P w dT sT ty elem g off dLen dCap ad sLen sCap cur t cs hu hsz hg hn hsrc hfit h1, ?_, grown_row (World.grownBy.refl w _) (.inr rfl) _⟩
  rw [hnew, Array.toArray_toList]
  exact setRow_heap w g cur new t (0, 0) hg

theorem be64_true (q N : Nat) (h : q + N = 64) : ((q : Int) + (N : Int) == 64) = true := by
  have : (q : Int) + (N : Int) = 64 := by omega
  rw [this]; rfl
theorem be64_false (q N : Nat) (h : ¬ q + N = 64) : ((q : Int) + (N : Int) == 64) = false := by
  have : ¬ (q : Int) + (N : Int) = 64 := by omega
  exact beq_eq_false_iff_ne.2 this

theorem addr_add_add (a : Addr) (i j : Nat) : (a.add i).add j = a.add (i + j) := by
  unfold Addr.add
  split <;> split <;> simp_all <;> omega

/-- The bytes x lie at A. -/
def BytesI (w : World) (A : Option Addr) (x : List Int) : Prop := x ≠ [] → ∃ ad, A = some ad ∧ ∀ j, j < x.length → w.cell? (ad.add j) = some (.int .u8 (x.getD j 0))

/-- A hash's state. -/
structure HS where
  ws : List Int
  bs : List Int
  n : Nat
def pushS (s : HS) (x : Int) : HS :=
  if s.n % 64 + 1 = 64 then ⟨mixS s.ws (s.bs.set (s.n % 64) x), s.bs.set (s.n % 64) x, s.n + 1⟩ else ⟨s.ws, s.bs.set (s.n % 64) x, s.n + 1⟩
def writeS (s : HS) (x : List Int) : HS := x.foldl pushS s
theorem writeS_append (s : HS) (x y : List Int) : writeS s (x ++ y) = writeS (writeS s x) y := List.foldl_append
theorem pushS_n (s : HS) (x : Int) : (pushS s x).n = s.n + 1 := by unfold pushS; split <;> rfl
theorem writeS_n : ∀ (x : List Int) (s : HS), (writeS s x).n = s.n + x.length
  | [], _ => rfl
  | x :: y, s => by
    show (writeS (pushS s x) y).n = _
    rw [writeS_n y, pushS_n, List.length_cons]; omega
def HashIs (w : World) (g : Nat) (s : HS) : Prop := HashAt w g s.ws s.bs (s.n : Int)

def over (bs : List Int) : Nat → List Int → List Int
  | _, [] => bs
  | a, x :: y => over (bs.set a x) (a + 1) y
theorem over_length : ∀ (y bs : List Int) (a : Nat), (over bs a y).length = bs.length
  | [], _, _ => rfl
  | x :: y, bs, a => by rw [over, over_length y, List.length_set]
theorem hashV_setByte {ws bs : List Int} {n : Int} {i : Nat} (x : Int) (h : i < bs.length) : (hashV ws bs n).toList.set (ws.length + i) (.int .u8 x) = (hashV ws (bs.set i x) n).toList := by
  simp [hashV, List.map_set, h]
theorem hashV_over (ws : List Int) (n : Int) : ∀ (y bs : List Int) (a : Nat), a + y.length ≤ bs.length →
    (hashV ws bs n).toList.take (ws.length + a) ++ y.map (Value.int .u8) ++ (hashV ws bs n).toList.drop (ws.length + a + y.length) = (hashV ws (over bs a y) n).toList
  | [], bs, a, _ => by simp [over]
  | x :: y, bs, a, h => by
    simp only [List.length_cons] at h
    have h1 := list_seg_step (hashV ws bs n).toList (ws.length + a) (.int .u8 x) (y.map (Value.int .u8)) (by simp [hashV]; omega)
    have h2 := hashV_over ws n y (bs.set a x) (a + 1) (by rw [List.length_set]; omega)
    rw [hashV_setByte x (by omega)] at h1
    simp only [List.length_map] at h1
    rw [over, ← h2, List.map_cons, List.length_cons, ← h1]
    rfl
theorem write_chunk : ∀ (y : List Int) (s : HS), s.n % 64 + y.length ≤ 64 → y ≠ [] →
    writeS s y = if s.n % 64 + y.length = 64 then ⟨mixS s.ws (over s.bs (s.n % 64) y), over s.bs (s.n % 64) y, s.n + y.length⟩ else ⟨s.ws, over s.bs (s.n % 64) y, s.n + y.length⟩
  | [], _, _, h => absurd rfl h
  | [x], s, _, _ => rfl
  | x :: z :: y, s, h, _ => by
    simp only [List.length_cons] at h
    have hp : pushS s x = ⟨s.ws, s.bs.set (s.n % 64) x, s.n + 1⟩ := by rw [pushS, if_neg (by omega)]
    have hm : (s.n + 1) % 64 = s.n % 64 + 1 := by omega
    have ih := write_chunk (z :: y) (pushS s x) (by rw [hp]; dsimp only; rw [hm]; simp only [List.length_cons]; omega) (by simp)
    rw [show writeS s (x :: z :: y) = writeS (pushS s x) (z :: y) from rfl, ih, hp]
    dsimp only
    rw [hm]
    simp only [List.length_cons, over]
    have e2 : s.n + 1 + (y.length + 1) = s.n + (y.length + 1 + 1) := by omega
    by_cases e : s.n % 64 + (y.length + 1 + 1) = 64
    · rw [if_pos (by omega), if_pos e, e2]
    · rw [if_neg (by omega), if_neg e, e2]

set_option maxRecDepth 100000 in
set_option maxHeartbeats 1000000 in
theorem write_is (w : World) (g : Nat) (s : HS) (hH : HashIs w g s) (hg : g ≠ 2) (hR : Rounds w) (A : Option Addr) (m c : Nat) (x : List Int) (hm : x.length = m) (hx : BytesI w A x) (hne : ∀ ad, A = some ad → x ≠ [] → ad.block ≠ g) (hc : m ≤ c) (hn : s.n + m ≤ 1152921504606846976) :
    Calls Tryd.prog 30 #[.pointer (some ⟨g, 0, none⟩), .slice A m c] w fun e w' => e = .returned (.tuple #[]) ∧ HashIs w' g (writeS s x) ∧ w.grownBy w' (some g) := by
  have HH := Lib.hid hH
  have HR := Lib.hid hR
  have HX := Lib.hid hx
  have HN := Lib.hid (And.intro hne (And.intro hm (And.intro hc (And.intro hn hg))))
  clear hH hR hx hne hm hc hn hg
  go_enter Tryd.func30, Tryd.ntmps30
  go_wp2_with fail
  go_loopw [1] (fun v wr => ∃ (k : Nat) (A1 : Option Addr) (M c1 : Nat), k ≤ m ∧ M = m - k ∧ v = .slice A1 M c1 ∧ M ≤ c1 ∧ BytesI w A1 (x.drop k) ∧ (∀ ad, A1 = some ad → x.drop k ≠ [] → ad.block ≠ g) ∧ HashIs wr g (writeS s (x.take k)) ∧ w.grownBy wr (some g)) (fun v _ => match v with | .slice _ n _ => n | _ => 0)
  case atStart => exact ⟨0, A, m, c, by omega, by omega, rfl, HN.out.2.2.1, HX.out, HN.out.1, HH.out, World.grownBy.refl w _⟩
  case round =>
    obtain ⟨k, A1, M, c1, hk, hM, rfl, hMc, hb, hne, hH, hK⟩ := hrel
    by_cases h0 : M = 0
    · subst h0
      have HH2 := Lib.hid hH
      have HK2 := Lib.hid hK
      have HM := Lib.hid (And.intro hM hk)
      clear hb hne hH hK hM hk hMc
      go_wp2_with fail
      go_end0
      refine ⟨rfl, ?_, HK2.out⟩
      obtain rfl : k = m := by have := HM.out; omega
      have := HH2.out
      rw [List.take_of_length_le (by rw [HN.out.2.1]; exact Nat.le_refl _)] at this
      exact this
    · have hpos : 0 < M := by omega
      obtain ⟨s1, hs1⟩ : ∃ s1, s1 = writeS s (x.take k) := ⟨_, rfl⟩
      rw [← hs1] at hH
      obtain ⟨y0, hy0⟩ : ∃ y0, y0 = x.drop k := ⟨_, rfl⟩
      rw [← hy0] at hb hne
      have hyl : y0.length = M := by rw [hy0, List.length_drop, HN.out.2.1, hM]
      have hyn : y0 ≠ [] := fun e => h0 (by rw [← hyl, e]; rfl)
      obtain ⟨ad, rfl, hcell⟩ := hb hyn
      have hadg := hne ad rfl hyn
      obtain ⟨hB, hw8, hb64⟩ := hH
      obtain ⟨ws, bs, n⟩ := s1
      dsimp only at hB hw8 hb64
      have hnb : n + M ≤ 1152921504606846976 := by
        have h1 := congrArg HS.n hs1
        rw [writeS_n, List.length_take] at h1
        dsimp only at h1
        have h2 := HN.out
        omega
      obtain ⟨q, hq⟩ : ∃ q : Nat, q = n % 64 := ⟨_, rfl⟩
      have hq64 : q < 64 := by omega
      have kn : wr.cell? ⟨g, 72, none⟩ = some (.int .i64 (n : Int)) := by have := (hB.cell 72); rw [this, show 72 = ws.length + bs.length by omega]; exact hashV_count
      have HB := Lib.hid hB
      have HK := Lib.hid hK
      have HC := Lib.hid hcell
      have HM := Lib.hid (And.intro hk (And.intro hM (And.intro hs1 (And.intro hy0 (And.intro hyl hnb)))))
      have HQ := Lib.hid (And.intro hq (And.intro hq64 (And.intro hMc (And.intro hw8 hb64))))
      have HA := Lib.hid (And.intro hadg h0)
      clear hB hK hcell hk hM hs1 hy0 hyl hyn hnb hq hq64 hMc hw8 hb64 hadg h0 hne hb
      have hqi : (n : Int) % 64 = (q : Int) := by have := HQ.out.1; omega
      have hsl : Sem.run Tryd.prog (Instr.sliceAt 97 (.pointer (some ⟨g, 8, none⟩)) (some (.int .i64 ((n : Int) % 64))) none none) wr = .ok (.slice (some ⟨g, 8 + q, none⟩) (64 - q) (64 - q)) wr := by
        rw [hqi]; exact slice_from (P := Tryd.prog) (w := wr) (b := g) (o := 8) (t := 97) Tryd.underlying97 (by kernel_rfl) HQ.out.2.1
      have HQI := Lib.hid hqi
      clear hqi
      obtain ⟨N, hN⟩ : ∃ N, N = Nat.min M (64 - q) := ⟨_, rfl⟩
      have hNs : N ≤ M ∧ q + N ≤ 64 ∧ 0 < N ∧ (q + N = 64 ∨ N = M) := by
        have := HQ.out.2.1
        rw [hN]
        simp only [Nat.min_def]
        split <;> omega
      obtain ⟨y, hy⟩ : ∃ y, y = y0.take N := ⟨_, rfl⟩
      have hyl : y.length = N := by rw [hy, List.length_take, HM.out.2.2.2.2.1]; omega
      have hcsrc : ∀ j v, (y.map (Value.int .u8))[j]? = some v → wr.cell? (ad.add j) = some v := by
        intro j v hv
        rw [hy] at hv
        simp only [List.getElem?_map, List.getElem?_take] at hv
        by_cases hj : j < N
        · rw [if_pos hj] at hv
          by_cases hj2 : j < y0.length
          · rw [HK.out.cell (HC.out j hj2) (by rw [block_add]; intro e; exact HA.out.1 (Option.some.inj e))]
            simpa [List.getElem?_eq_getElem hj2] using hv
          · simp [List.getElem?_eq_none (Nat.le_of_not_lt hj2)] at hv
        · simp [if_neg hj] at hv
      obtain ⟨Y, hY⟩ : ∃ Y, Y = y.map (Value.int .u8) := ⟨_, rfl⟩
      have hYl : Y.length = N := by rw [hY, List.length_map, hyl]
      have h1Y : ∀ v ∈ Y, v.oneCell' = true := by rw [hY]; intro v hv; simp at hv; obtain ⟨z, _, rfl⟩ := hv; rfl
      rw [← hY] at hcsrc
      obtain ⟨bs2, hbs2⟩ : ∃ bs2, bs2 = over bs q y := ⟨_, rfl⟩
      have hb2l : bs2.length = 64 := by rw [hbs2, over_length]; exact HQ.out.2.2.2.2
      have hnew : (hashV ws bs n).toList.take (8 + q) ++ Y ++ (hashV ws bs n).toList.drop (8 + q + N) = (hashV ws bs2 n).toList := by
        have := hashV_over ws n y bs q (by rw [HQ.out.2.2.2.2, hyl]; exact hNs.2.1)
        rw [HQ.out.2.2.2.1, hyl, ← hY, ← hbs2] at this
        exact this
      have hfit : 8 + q + N ≤ (hashV ws bs n).size := by simp [hashV, HQ.out.2.2.2.1, HQ.out.2.2.2.2]; omega
      have HY := Lib.hid (And.intro hY (And.intro hy (And.intro hyl (And.intro hYl (And.intro hcsrc h1Y)))))
      have HNs := Lib.hid (And.intro hNs (And.intro hN (And.intro hnew (And.intro hfit (And.intro hb2l hbs2)))))
      have hNM : N ≤ M := hNs.1
      have hMc : M ≤ c1 := HQ.out.2.2.1
      have s1 : wrap64 ((n : Int) + (N : Int)) = ((n + N : Nat) : Int) := by have := HM.out.2.2.2.2.2; rw [w64 _ ⟨by omega, by omega⟩]; omega
      have s2 : wrap64 ((n : Int) % 64 + (N : Int)) = ((q + N : Nat) : Int) := by rw [HQI.out, w64 _ ⟨by omega, by omega⟩]; omega
      obtain ⟨w1, hcopy, hB1, hG1⟩ := copy_run (P := Tryd.prog) wr 33 33 3 5 Tryd.underlying33 (by kernel_rfl) g (8 + q) (64 - q) (64 - q) ad M c1 (hashV ws bs n) (hashV ws bs2 n) 99 HB.out Y N HY.out.2.2.2.1 HNs.out.2.1 HY.out.2.2.2.2.1 HNs.out.2.2.2.1 HY.out.2.2.2.2.2 HNs.out.2.2.1
      have kn1 : w1.cell? ⟨g, 72, none⟩ = some (.int .i64 (n : Int)) := by have := (hB1.cell 72); rw [this, show 72 = ws.length + bs2.length by rw [HQ.out.2.2.2.1, hb2l]]; exact hashV_count
      have kf1 := hB1.frozen 72
      have HB1 := Lib.hid hB1
      have HG1 := Lib.hid hG1
      clear hB1 hG1
      have hw2 : Blk (w1.setCell ⟨g, 72, none⟩ (.int .i64 ((n : Int) + (N : Int)))) g 99 (hashV ws bs2 ((n : Int) + (N : Int))) := by
        have h1 := HB1.out.set 72 (.int .i64 ((n : Int) + (N : Int)))
        have h2 := hashV_setCount (ws := ws) (bs := bs2) (n := (n : Int)) ((n : Int) + (N : Int))
        rw [show ws.length + bs2.length = 72 by rw [HQ.out.2.2.2.1, hb2l]] at h2
        rw [h2] at h1
        exact h1
      have hg2 : w.grownBy (w1.setCell ⟨g, 72, none⟩ (.int .i64 ((n : Int) + (N : Int)))) (some g) := grown_far (grown_trans HK.out HG1.out) (.inr rfl) _
      have hst : writeS s (x.take (k + N)) = writeS ⟨ws, bs, n⟩ y := by
        rw [HM.out.2.2.1, ← writeS_append, List.take_add, hy, HM.out.2.2.2.1]
      have hdrop : x.drop (k + N) = y0.drop N := by rw [HM.out.2.2.2.1, List.drop_drop]
      have hdl : (x.drop (k + N)).length = M - N := by rw [hdrop, List.length_drop, HM.out.2.2.2.2.1]
      have hA1 : x.drop (k + N) ≠ [] → (if c1 = N then some ad else some (ad.add N)) = some (ad.add N) := fun e => by
        have : x.drop (k + N) ≠ [] → 0 < (x.drop (k + N)).length := fun e => List.length_pos_iff.2 e
        have := this e
        rw [if_neg (by omega)]
      have hby : BytesI w (if c1 = N then some ad else some (ad.add N)) (x.drop (k + N)) := fun e => by
        refine ⟨_, hA1 e, fun j hj => ?_⟩
        rw [hdl] at hj
        have := HC.out (N + j) (by rw [HM.out.2.2.2.2.1]; omega)
        rw [addr_add_add, this, hdrop]
        simp [List.getD]
      have hbl : ∀ ad1, (if c1 = N then some ad else some (ad.add N)) = some ad1 → x.drop (k + N) ≠ [] → ad1.block ≠ g := fun ad1 e1 e2 => by
        rw [hA1 e2] at e1
        obtain rfl := Option.some.inj e1
        rw [block_add]
        exact HA.out.1
      have hkm : k + N ≤ m ∧ M - N = m - (k + N) ∧ M - N ≤ c1 - N ∧ M - N < M := by have := HM.out; omega
      have HF := Lib.hid (And.intro hw2 (And.intro hg2 (And.intro hst (And.intro hby (And.intro hbl hkm)))))
      have hch := write_chunk y ⟨ws, bs, n⟩ (by dsimp only; rw [← HQ.out.1, hyl]; exact hNs.2.1) (by intro e; rw [e] at hyl; simp at hyl; omega)
      dsimp only at hch
      rw [← HQ.out.1, hyl, ← hbs2] at hch
      have HCH := Lib.hid hch
      have HZ := Lib.hid (And.intro hb2l hNs)
      clear hw2 hg2 hst hdrop hdl hA1 hby hbl hkm hch
      by_cases hfull : q + N = 64
      · have hbe : ((n : Int) % 64 + (N : Int) == 64) = true := by rw [HQI.out]; exact be64_true q N hfull
        clear hY hy hyl hYl hcsrc h1Y hN hNs hnew hfit hb2l hbs2
        by_cases hcN : c1 = N
        · subst c1
          go_wp2_with fail
          generalize w1.setCell ⟨g, 72, none⟩ (.int .i64 ((n : Int) + (N : Int))) = w2 at HF ⊢
          have HB2 := Lib.hid (show HashAt w2.drew g ws bs2 ((n : Int) + (N : Int)) from ⟨HF.out.1, HQ.out.2.2.2.1, HZ.out.1⟩)
          have HR2 := Lib.hid (show Rounds w2.drew from HR.out.grown (grown_drew HF.out.2.1) (by intro e; exact HN.out.2.2.2.2 (Option.some.inj e).symm))
          have HBy := Lib.hid (show BytesN w2.drew g 8 bs2 from fun j hj => by
            have h1 := HF.out.1.cell (8 + j)
            rw [show 8 + j = ws.length + j by rw [HQ.out.2.2.2.1]] at h1
            rw [show 8 + j = ws.length + j by rw [HQ.out.2.2.2.1]]
            exact h1.trans (hashV_byte hj))
          have hsa := slice_all (P := Tryd.prog) (w := w2.drew) (b := g) (o := 8) (t := 97) Tryd.underlying97 (by kernel_rfl)
          clear kn1 kf1 hcopy hsl kn s1 s2
          go_region_with (go_at_call 49; refine (mix_is _ g ws bs2 _ HB2.out HN.out.2.2.2.2 HR2.out g 8 64 bs2 HZ.out.1 HBy.out (Nat.le_refl _)).mono ?_; rintro e w3 ⟨rfl, hH3, hk3⟩)
          have HH3 := Lib.hid hH3
          have HK3 := Lib.hid hk3
          clear hH3 hk3
          go_wp2_with fail
          go_roundw
          case rel =>
            obtain ⟨hw2, hg2, hst, hby, hbl, h1, h2, h3, h4⟩ := HF.out
            rw [if_pos trivial] at hby hbl
            refine ⟨k + N, _, 0, 0, h1, by omega, rfl, Nat.le_refl _, hby, hbl, ?_, grown_trans (grown_drew hg2) HK3.out⟩
            rw [hst, HCH.out, if_pos hfull]
            exact HH3.out
          case measure => exact Nat.lt_of_le_of_lt (Nat.zero_le _) HF.out.2.2.2.2.2.2.2.2
        · go_wp2_with fail
          generalize w1.setCell ⟨g, 72, none⟩ (.int .i64 ((n : Int) + (N : Int))) = w2 at HF ⊢
          have HB2 := Lib.hid (show HashAt w2.drew g ws bs2 ((n : Int) + (N : Int)) from ⟨HF.out.1, HQ.out.2.2.2.1, HZ.out.1⟩)
          have HR2 := Lib.hid (show Rounds w2.drew from HR.out.grown (grown_drew HF.out.2.1) (by intro e; exact HN.out.2.2.2.2 (Option.some.inj e).symm))
          have HBy := Lib.hid (show BytesN w2.drew g 8 bs2 from fun j hj => by
            have h1 := HF.out.1.cell (8 + j)
            rw [show 8 + j = ws.length + j by rw [HQ.out.2.2.2.1]] at h1
            rw [show 8 + j = ws.length + j by rw [HQ.out.2.2.2.1]]
            exact h1.trans (hashV_byte hj))
          have hsa := slice_all (P := Tryd.prog) (w := w2.drew) (b := g) (o := 8) (t := 97) Tryd.underlying97 (by kernel_rfl)
          clear kn1 kf1 hcopy hsl kn s1 s2
          go_region_with (go_at_call 49; refine (mix_is _ g ws bs2 _ HB2.out HN.out.2.2.2.2 HR2.out g 8 64 bs2 HZ.out.1 HBy.out (Nat.le_refl _)).mono ?_; rintro e w3 ⟨rfl, hH3, hk3⟩)
          have HH3 := Lib.hid hH3
          have HK3 := Lib.hid hk3
          clear hH3 hk3
          go_wp2_with fail
          go_roundw
          case rel =>
            obtain ⟨hw2, hg2, hst, hby, hbl, h1, h2, h3, h4⟩ := HF.out
            rw [if_neg hcN] at hby hbl
            refine ⟨k + N, _, _, _, h1, h2, rfl, by omega, hby, hbl, ?_, grown_trans (grown_drew hg2) HK3.out⟩
            rw [hst, HCH.out, if_pos hfull]
            exact HH3.out
          case measure => exact HF.out.2.2.2.2.2.2.2.2
      · have hbe : ((n : Int) % 64 + (N : Int) == 64) = false := by rw [HQI.out]; exact be64_false q N hfull
        clear hY hy hyl hYl hcsrc h1Y hN hNs hnew hfit hb2l hbs2
        go_wp2_with fail
        go_roundw
        case rel =>
          obtain ⟨hw2, hg2, hst, hby, hbl, h1, h2, h3, h4⟩ := HF.out
          refine ⟨k + N, _, _, _, h1, h2, rfl, h3, hby, hbl, ?_, hg2⟩
          rw [hst, HCH.out, if_neg hfull]
          exact ⟨by rw [show (((n + N : Nat)) : Int) = (n : Int) + (N : Int) by omega]; exact hw2, HQ.out.2.2.2.1, HZ.out.1⟩
        case measure => exact HF.out.2.2.2.2.2.2.2.2
end Go.Proofs.YtebnebajedlhlaaDoor
