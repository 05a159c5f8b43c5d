/-
  DiskKeeps, walked.
-/
import Derived.Test.YtmecimhlnajaoaaDoorDkKa
namespace Go.Proofs.YtmecimhlnajaoaaDoor
open Go.RowKit Go.Maps

set_option maxRecDepth 100000 in
set_option maxHeartbeats 2000000 in
theorem keeps_any (w : World) (A1 A2 A3 : Option Addr) (n1 c1 n2 c2 n3 c3 : Nat) (l1 l2 : List UInt8) (kp : List Bool) (er ep : Addr) (hn1 : l1.length = n1) (hl1 : BytesAt w A1 l1) (hn2 : l2.length = n2) (hl2 : BytesAt w A2 l2) (hn3 : kp.length = n3) (hk : BoolsAt w A3 kp) (her : ErrAt w w.heap.size 0 er) (hep : ErrAt w w.heap.size 5 ep) :
    Calls Tryd.prog 4 #[.slice A1 n1 c1, .slice A2 n2 c2, .slice A3 n3 c3] w fun e w' => e = .returned (.bool true) ∧ w.grownBy w' none := by
  obtain ⟨zs, hzs⟩ : ∃ zs : Array Value, zs = (zeroR.map (Value.int .u8)).toArray := ⟨_, rfl⟩
  have hz : ∀ w, Sem.run Tryd.prog (zeroValue 36) w = .ok (.agg zs) w := fun w => by rw [hzs]; exact zero_sec w (by kernel_rfl)
  have hzz : zs.size = 64 := by rw [hzs]; simp [zeroR]
  have HE := Lib.hid (And.intro her (And.intro hep (And.intro hn1 (And.intro hl1 (And.intro hn2 (And.intro hl2 (And.intro hn3 (And.intro hk hzz))))))))
  have HZ := Lib.hid hz
  clear her hep hl1 hn1 hl2 hn2 hn3 hk hzz hz hzs
  refine (callsIn_wide (n := 9)).1 ?_
  refine callsIn_of_wp Tryd.func4 rfl trivial ?_ rfl
  simp only [Tryd.ntmps4, List.size_toArray, List.length_cons, List.length_nil, Nat.reduceAdd, Nat.reduceSub, Array.replicate_succ, Array.replicate_zero, List.push_toArray, List.append_toArray, List.nil_append, List.cons_append]
  gi_wp2
  refine ⟨trivial, ?_⟩
  refine (callsIn_wide.2 (alive_is w er ep HE.out.1 HE.out.2.1)).mono ?_
  rintro e w1 ⟨rfl, k1⟩
  have K1 := Lib.hid k1
  clear k1
  by_cases h1 : 50 < n1
  · have d1 : decide ((50 : Int) < (n1 : Int)) = true := by simp; omega
    gi_wp2
    go_ret
    exact ⟨rfl, K1.out⟩
  have d1 : decide ((50 : Int) < (n1 : Int)) = false := by simp; omega
  by_cases h2 : 50 < n2
  · have d2 : decide ((50 : Int) < (n2 : Int)) = true := by simp; omega
    gi_wp2
    go_ret
    exact ⟨rfl, K1.out⟩
  have d2 : decide ((50 : Int) < (n2 : Int)) = false := by simp; omega
  by_cases h3 : 100 < n3
  · have d3 : decide ((100 : Int) < (n3 : Int)) = true := by simp; omega
    gi_wp2
    go_ret
    exact ⟨rfl, K1.out⟩
  have d3 : decide ((100 : Int) < (n3 : Int)) = false := by simp; omega
  gi_wp2
  refine ⟨trivial, ?_⟩
  refine (callsIn_wide.2 (dsk_new w w1 (Kept.of_grown (F := fun j => w.heap.size ≤ j) K1.out (fun _ e => by cases e)) 50 (by omega) er HE.out.1)).mono ?_
  rintro e w2 ⟨k2, d, b, m, rfl, hd, _⟩
  have H2 := Lib.hid hd
  clear k2 hd
  gi_wp2
  gi_loopw [41] (fun i wr => ∃ k : Nat, k ≤ n1 ∧ i = .int .i64 (k : Int) ∧ Dsk w wr d b m (kpS 50 [] l1 k)) (fun i _ => n1 - (intOf i).toNat)
  case atStart => exact ⟨0, by omega, rfl, (by rw [← kpS_new]; exact H2.out)⟩
  case round =>
    obtain ⟨k, hkN, rfl, hd⟩ := hrel
    rename World => wx
    have HD := Lib.hid hd
    clear hd
    by_cases hlt : k < n1
    · have d4 : decide ((k : Int) < (n1 : Int)) = true := by simp; omega
      have hkl : k < l1.length := by rw [HE.out.2.2.1]; exact hlt
      obtain ⟨bR, oR, rfl, hcR⟩ := BytesAt.get HE.out.2.2.2.1 (by rintro rfl; simp at hkl)
      have xR0 := hcR k hkl
      have hbR : bR < w.heap.size := World.block_lt_of_cell? w _ xR0
      have xR1 := HD.out.2.1.cell xR0 (show ¬ (w.heap.size ≤ bR) by omega)
      have hst := kpS_write (n := 50) (s := []) (show k < 50 by omega) hkl
      obtain ⟨x, hx⟩ : ∃ x : Int, (l1[k].toNat : Int) = x := ⟨_, rfl⟩
      rw [hx] at xR1 hst
      obtain ⟨es, hes⟩ : ∃ es, ((firstR x).map (Value.int .u8)).toArray = es := ⟨_, rfl⟩
      have hL : (#[Value.int .u8 (x), Value.int .u8 0, Value.int .u8 0, Value.int .u8 0, Value.int .u8 0, Value.int .u8 0, Value.int .u8 0, Value.int .u8 0, Value.int .u8 0, Value.int .u8 0, Value.int .u8 0, Value.int .u8 0, Value.int .u8 0, Value.int .u8 0, Value.int .u8 0, Value.int .u8 0, Value.int .u8 0, Value.int .u8 0, Value.int .u8 0, Value.int .u8 0, Value.int .u8 0, Value.int .u8 0, Value.int .u8 0, Value.int .u8 0, Value.int .u8 0, Value.int .u8 0, Value.int .u8 0, Value.int .u8 0, Value.int .u8 0, Value.int .u8 0, Value.int .u8 0, Value.int .u8 0, Value.int .u8 0, Value.int .u8 0, Value.int .u8 0, Value.int .u8 0, Value.int .u8 0, Value.int .u8 0, Value.int .u8 0, Value.int .u8 0, Value.int .u8 0, Value.int .u8 0, Value.int .u8 0, Value.int .u8 0, Value.int .u8 0, Value.int .u8 0, Value.int .u8 0, Value.int .u8 0, Value.int .u8 0, Value.int .u8 0, Value.int .u8 0, Value.int .u8 0, Value.int .u8 0, Value.int .u8 0, Value.int .u8 0, Value.int .u8 0, Value.int .u8 0, Value.int .u8 0, Value.int .u8 0, Value.int .u8 0, Value.int .u8 0, Value.int .u8 0, Value.int .u8 0, Value.int .u8 0] : Array Value) = es := by rw [← hes]; rfl
      have HST := Lib.hid (And.intro hst hes)
      clear xR0 hbR hkl hst hx hes hcR
      gi_wp2
      refine ⟨trivial, ?_⟩
      refine (callsIn_wide.2 (dsk_write0 HD.out HE.out.1 HE.out.2.1 (k : Int) (firstR x) (firstR_len x) HST.out.1.1 HST.out.1.2 es HST.out.2)).mono ?_
      rintro e w4 ⟨rfl, hd, _⟩
      have H4 := Lib.hid hd
      clear hd xR1
      gi_wp2
      go_roundw
      case rel => exact ⟨k + 1, by omega, by simp, H4.out⟩
      case measure => simp [intOf]; omega
    · have d4 : decide ((k : Int) < (n1 : Int)) = false := by simp; omega
      obtain rfl : n1 = k := by omega
      have hd := HD.out
      clear hkN HD
      have hsy := kpS_sync (n := 50) (l := l1) (l2 := l2) (by rw [HE.out.2.2.1]; omega)
      rw [HE.out.2.2.1] at hsy
      have HSY := Lib.hid (And.intro hsy hd)
      clear hsy hd
      gi_wp2
      refine ⟨trivial, ?_⟩
      refine (callsIn_wide.2 (dsk_sync0 HSY.out.2 HE.out.2.1 HSY.out.1.1 HSY.out.1.2)).mono ?_
      rintro e w5 ⟨rfl, hd, _⟩
      have H5 := Lib.hid hd
      clear hd
      gi_wp2
      gi_loopw [58] (fun i wr => ∃ q : Nat, q ≤ n2 ∧ i = .int .i64 (q : Int) ∧ Dsk w wr d b m (kpS 50 l1 l2 q)) (fun i _ => n2 - (intOf i).toNat)
      case atStart => exact ⟨0, by omega, rfl, H5.out⟩
      case round =>
        obtain ⟨q, hqN, rfl, hd⟩ := hrel
        rename World => wx
        have HD := Lib.hid hd
        clear hd
        by_cases hlt : q < n2
        · have d4 : decide ((q : Int) < (n2 : Int)) = true := by simp; omega
          have hkl : q < l2.length := by rw [HE.out.2.2.2.2.1]; exact hlt
          obtain ⟨bR, oR, rfl, hcR⟩ := BytesAt.get HE.out.2.2.2.2.2.1 (by rintro rfl; simp at hkl)
          have xR0 := hcR q hkl
          have hbR : bR < w.heap.size := World.block_lt_of_cell? w _ xR0
          have xR1 := HD.out.2.1.cell xR0 (show ¬ (w.heap.size ≤ bR) by omega)
          have hst := kpS_write (n := 50) (s := l1) (show q < 50 by omega) hkl
          obtain ⟨x, hx⟩ : ∃ x : Int, (l2[q].toNat : Int) = x := ⟨_, rfl⟩
          rw [hx] at xR1 hst
          obtain ⟨es, hes⟩ : ∃ es, ((firstR x).map (Value.int .u8)).toArray = es := ⟨_, rfl⟩
          have hL : (#[Value.int .u8 (x), Value.int .u8 0, Value.int .u8 0, Value.int .u8 0, Value.int .u8 0, Value.int .u8 0, Value.int .u8 0, Value.int .u8 0, Value.int .u8 0, Value.int .u8 0, Value.int .u8 0, Value.int .u8 0, Value.int .u8 0, Value.int .u8 0, Value.int .u8 0, Value.int .u8 0, Value.int .u8 0, Value.int .u8 0, Value.int .u8 0, Value.int .u8 0, Value.int .u8 0, Value.int .u8 0, Value.int .u8 0, Value.int .u8 0, Value.int .u8 0, Value.int .u8 0, Value.int .u8 0, Value.int .u8 0, Value.int .u8 0, Value.int .u8 0, Value.int .u8 0, Value.int .u8 0, Value.int .u8 0, Value.int .u8 0, Value.int .u8 0, Value.int .u8 0, Value.int .u8 0, Value.int .u8 0, Value.int .u8 0, Value.int .u8 0, Value.int .u8 0, Value.int .u8 0, Value.int .u8 0, Value.int .u8 0, Value.int .u8 0, Value.int .u8 0, Value.int .u8 0, Value.int .u8 0, Value.int .u8 0, Value.int .u8 0, Value.int .u8 0, Value.int .u8 0, Value.int .u8 0, Value.int .u8 0, Value.int .u8 0, Value.int .u8 0, Value.int .u8 0, Value.int .u8 0, Value.int .u8 0, Value.int .u8 0, Value.int .u8 0, Value.int .u8 0, Value.int .u8 0, Value.int .u8 0] : Array Value) = es := by rw [← hes]; rfl
          have HST := Lib.hid (And.intro hst hes)
          clear xR0 hbR hkl hst hx hes hcR
          gi_wp2
          refine ⟨trivial, ?_⟩
          refine (callsIn_wide.2 (dsk_write0 HD.out HE.out.1 HE.out.2.1 (q : Int) (firstR x) (firstR_len x) HST.out.1.1 HST.out.1.2 es HST.out.2)).mono ?_
          rintro e w4 ⟨rfl, hd, _⟩
          have H4 := Lib.hid hd
          clear hd xR1
          gi_wp2
          go_roundw
          case rel => exact ⟨q + 1, by omega, by simp, H4.out⟩
          case measure => simp [intOf]; omega
        · have d4 : decide ((q : Int) < (n2 : Int)) = false := by simp; omega
          obtain rfl : n2 = q := by omega
          have hd := HD.out
          clear hqN HD
          have hcr := kpS_crash (n := 50) (s := l1) (l := l2) (keep := kp) (by rw [HE.out.2.2.2.2.1]; omega)
          rw [HE.out.2.2.2.2.1] at hcr
          have HCR := Lib.hid (And.intro hcr hd)
          clear hcr hd
          gi_wp2
          refine ⟨trivial, ?_⟩
          refine (callsIn_wide.2 (dsk_crash HCR.out.2 A3 n3 c3 kp HE.out.2.2.2.2.2.2.1 (HE.out.2.2.2.2.2.2.2.1.low HCR.out.2.2.1 (fun _ h => h)) (fun a e hne => by have := HE.out.2.2.2.2.2.2.2.1.lt a e hne; have := HCR.out.2.2.2.2.1; omega))).mono ?_
          rintro e w6 ⟨rfl, hd, _⟩
          obtain ⟨Z, hZ⟩ : ∃ Z, crashS (kpS 50 l1 l2 n2) kp = Z := ⟨_, rfl⟩
          have hcr := HCR.out.1
          rw [hZ] at hd hcr
          have H6 := Lib.hid (And.intro hd hcr)
          clear hd hcr hZ HCR
          gi_wp2
          gi_loopw [73] (fun i wr => ∃ r : Nat, r ≤ 50 ∧ i = .int .i64 (r : Int) ∧ Dsk w wr d b m Z) (fun i _ => 50 - (intOf i).toNat)
          case atStart => exact ⟨0, by omega, rfl, H6.out.1⟩
          case round =>
            obtain ⟨r, hrN, rfl, hd⟩ := hrel
            rename World => wy
            have HD := Lib.hid hd
            clear hd
            by_cases hr50 : r < 50
            · have f0 : decide ((r : Int) < 50) = true := by simp; omega
              by_cases hr1 : r < n1
              · have f1 : decide ((r : Int) < (n1 : Int)) = true := by simp; omega
                have hlb1 : r < l1.length := by rw [HE.out.2.2.1]; exact hr1
                obtain ⟨b1, o1, rfl, hcb1⟩ := BytesAt.get HE.out.2.2.2.1 (by rintro rfl; simp at hlb1)
                have x0b1 := hcb1 r hlb1
                have hbb1 : b1 < w.heap.size := World.block_lt_of_cell? w _ x0b1
                have x1b1 := HD.out.2.1.cell x0b1 (show ¬ (w.heap.size ≤ b1) by omega)
                obtain ⟨O, hO⟩ : ∃ x : Int, (l1[r].toNat : Int) = x := ⟨_, rfl⟩
                rw [hO] at x1b1
                have gb1 : l1.getD r 0 = l1[r] := by simp [List.getD, List.getElem?_eq_getElem hlb1]
                clear x0b1 hbb1 hcb1
                by_cases hr2 : r < n2
                · have f2 : decide ((r : Int) < (n2 : Int)) = true := by simp; omega
                  by_cases hr3 : r < n3
                  · have f3 : decide ((r : Int) < (n3 : Int)) = true := by simp; omega
                    have hl3 : r < kp.length := by rw [HE.out.2.2.2.2.2.2.1]; exact hr3
                    obtain ⟨bK, oK, rfl, hcK⟩ := HE.out.2.2.2.2.2.2.2.1 (by rintro rfl; simp at hl3)
                    have x0K := hcK r hl3
                    have hbK : bK < w.heap.size := World.block_lt_of_cell? w _ x0K
                    have x1K := HD.out.2.1.cell x0K (show ¬ (w.heap.size ≤ bK) by omega)
                    cases hkr : kp[r] with
                    | true =>
                      rw [hkr] at x1K
                      have hkq : kp[r]? = some true := by rw [List.getElem?_eq_getElem hl3, hkr]
                      have hlb2 : r < l2.length := by rw [HE.out.2.2.2.2.1]; exact hr2
                      obtain ⟨b2, o2, rfl, hcb2⟩ := BytesAt.get HE.out.2.2.2.2.2.1 (by rintro rfl; simp at hlb2)
                      have x0b2 := hcb2 r hlb2
                      have hbb2 : b2 < w.heap.size := World.block_lt_of_cell? w _ x0b2
                      have x1b2 := HD.out.2.1.cell x0b2 (show ¬ (w.heap.size ≤ b2) by omega)
                      obtain ⟨P, hP⟩ : ∃ x : Int, (l2[r].toNat : Int) = x := ⟨_, rfl⟩
                      rw [hP] at x1b2
                      have gb2 : l2.getD r 0 = l2[r] := by simp [List.getD, List.getElem?_eq_getElem hlb2]
                      clear x0b2 hbb2 hcb2
                      have hkb : ((kpB l1 l2 kp r).toNat : Int) = P := by rw [kpB, if_pos ⟨hlb2, hkq⟩, gb2, hP]
                      clear hkr hkq x0K hbK hcK gb2 hP
                      have hcr := H6.out.2.2.2.2 r hr50
                      rw [hkb] at hcr
                      obtain ⟨es, hes⟩ : ∃ es, ((firstR P).map (Value.int .u8)).toArray = es := ⟨_, rfl⟩
                      have hfc := first_cell P es hes
                      have HC := Lib.hid (And.intro hcr (And.intro hes hfc))
                      clear hkb hcr hes hfc
                      gi_wp2
                      refine ⟨trivial, ?_⟩
                      refine (callsIn_wide.2 (dsk_read0 HD.out HE.out.1 HE.out.2.1 (r : Int) HC.out.1.1 (firstR P) HC.out.1.2 es HC.out.2.1)).mono ?_
                      rintro e w7 ⟨rfl, hg7⟩
                      have H7 := Lib.hid (HD.out.grown hg7)
                      clear hg7 x1K x1b2 x1b1
                      have hz := HZ.out
                      gi_upto_region 33 with (first
                        | (refine wpListIn_store_row rfl 36 _ _ rfl w7.heap.size es rfl rfl 36 zs (heap_alloc_new w7 _) (by rw [HC.out.2.2.1]; kernel_rfl) (by rw [HC.out.2.2.1, HE.out.2.2.2.2.2.2.2.2]) HC.out.2.2.2.1 ?_)
                        | gi_in)
                      obtain ⟨pa, hpa⟩ : ∃ p, w7.heap.size = p := ⟨_, rfl⟩
                      obtain ⟨Wa, hWa⟩ : ∃ W, (w7.alloc (.cells zs 36)).setRow pa es = W := ⟨_, rfl⟩
                      have gWa : w7.grownBy Wa none := by rw [← hWa]; exact grown_row (World.grownBy_alloc _ _ none) (.inl (by omega)) _
                      have bWa : Blk Wa pa 36 es := by rw [← hWa, ← hpa]; exact (Blk.new w7 _ _).row es
                      have xa := bWa.cell 0
                      rw [HC.out.2.2.2.2] at xa
                      have HA := Lib.hid (H7.out.grown gWa)
                      rw [hpa, hWa]
                      clear gWa bWa hpa hWa hz
                      gi_wp2
                      go_roundw
                      case rel => exact ⟨r + 1, by omega, by simp, HA.out⟩
                      case measure => simp [intOf]; omega
                    | false =>
                      rw [hkr] at x1K
                      have hkb : ((kpB l1 l2 kp r).toNat : Int) = O := by rw [kpB, if_neg (by rintro ⟨q1, q2⟩; rw [List.getElem?_eq_getElem hl3, hkr] at q2; cases q2)]; rw [gb1, hO]
                      clear hkr x0K hbK hcK
                      have hcr := H6.out.2.2.2.2 r hr50
                      rw [hkb] at hcr
                      obtain ⟨es, hes⟩ : ∃ es, ((firstR O).map (Value.int .u8)).toArray = es := ⟨_, rfl⟩
                      have hfc := first_cell O es hes
                      have HC := Lib.hid (And.intro hcr (And.intro hes hfc))
                      clear hkb hcr hes hfc
                      gi_wp2
                      refine ⟨trivial, ?_⟩
                      refine (callsIn_wide.2 (dsk_read0 HD.out HE.out.1 HE.out.2.1 (r : Int) HC.out.1.1 (firstR O) HC.out.1.2 es HC.out.2.1)).mono ?_
                      rintro e w7 ⟨rfl, hg7⟩
                      have H7 := Lib.hid (HD.out.grown hg7)
                      clear hg7 x1K x1b1
                      have hz := HZ.out
                      gi_upto_region 33 with (first
                        | (refine wpListIn_store_row rfl 36 _ _ rfl w7.heap.size es rfl rfl 36 zs (heap_alloc_new w7 _) (by rw [HC.out.2.2.1]; kernel_rfl) (by rw [HC.out.2.2.1, HE.out.2.2.2.2.2.2.2.2]) HC.out.2.2.2.1 ?_)
                        | gi_in)
                      obtain ⟨pa, hpa⟩ : ∃ p, w7.heap.size = p := ⟨_, rfl⟩
                      obtain ⟨Wa, hWa⟩ : ∃ W, (w7.alloc (.cells zs 36)).setRow pa es = W := ⟨_, rfl⟩
                      have gWa : w7.grownBy Wa none := by rw [← hWa]; exact grown_row (World.grownBy_alloc _ _ none) (.inl (by omega)) _
                      have bWa : Blk Wa pa 36 es := by rw [← hWa, ← hpa]; exact (Blk.new w7 _ _).row es
                      have xa := bWa.cell 0
                      rw [HC.out.2.2.2.2] at xa
                      have HA := Lib.hid (H7.out.grown gWa)
                      rw [hpa, hWa]
                      clear gWa bWa hpa hWa hz
                      gi_wp2
                      go_roundw
                      case rel => exact ⟨r + 1, by omega, by simp, HA.out⟩
                      case measure => simp [intOf]; omega
                  · have f3 : decide ((r : Int) < (n3 : Int)) = false := by simp; omega
                    have hkb : ((kpB l1 l2 kp r).toNat : Int) = O := by rw [kpB, if_neg (by rintro ⟨q1, q2⟩; have := (List.getElem?_eq_some_iff.1 q2).1; have := HE.out.2.2.2.2.2.2.1; omega)]; rw [gb1, hO]
                    have hcr := H6.out.2.2.2.2 r hr50
                    rw [hkb] at hcr
                    obtain ⟨es, hes⟩ : ∃ es, ((firstR O).map (Value.int .u8)).toArray = es := ⟨_, rfl⟩
                    have hfc := first_cell O es hes
                    have HC := Lib.hid (And.intro hcr (And.intro hes hfc))
                    clear hkb hcr hes hfc
                    gi_wp2
                    refine ⟨trivial, ?_⟩
                    refine (callsIn_wide.2 (dsk_read0 HD.out HE.out.1 HE.out.2.1 (r : Int) HC.out.1.1 (firstR O) HC.out.1.2 es HC.out.2.1)).mono ?_
                    rintro e w7 ⟨rfl, hg7⟩
                    have H7 := Lib.hid (HD.out.grown hg7)
                    clear hg7  x1b1
                    have hz := HZ.out
                    gi_upto_region 33 with (first
                      | (refine wpListIn_store_row rfl 36 _ _ rfl w7.heap.size es rfl rfl 36 zs (heap_alloc_new w7 _) (by rw [HC.out.2.2.1]; kernel_rfl) (by rw [HC.out.2.2.1, HE.out.2.2.2.2.2.2.2.2]) HC.out.2.2.2.1 ?_)
                      | gi_in)
                    obtain ⟨pa, hpa⟩ : ∃ p, w7.heap.size = p := ⟨_, rfl⟩
                    obtain ⟨Wa, hWa⟩ : ∃ W, (w7.alloc (.cells zs 36)).setRow pa es = W := ⟨_, rfl⟩
                    have gWa : w7.grownBy Wa none := by rw [← hWa]; exact grown_row (World.grownBy_alloc _ _ none) (.inl (by omega)) _
                    have bWa : Blk Wa pa 36 es := by rw [← hWa, ← hpa]; exact (Blk.new w7 _ _).row es
                    have xa := bWa.cell 0
                    rw [HC.out.2.2.2.2] at xa
                    have HA := Lib.hid (H7.out.grown gWa)
                    rw [hpa, hWa]
                    clear gWa bWa hpa hWa hz
                    gi_wp2
                    go_roundw
                    case rel => exact ⟨r + 1, by omega, by simp, HA.out⟩
                    case measure => simp [intOf]; omega
                · have f2 : decide ((r : Int) < (n2 : Int)) = false := by simp; omega
                  have hkb : ((kpB l1 l2 kp r).toNat : Int) = O := by rw [kpB, if_neg (by rintro ⟨q1, q2⟩; have := HE.out.2.2.2.2.1; omega)]; rw [gb1, hO]
                  have hcr := H6.out.2.2.2.2 r hr50
                  rw [hkb] at hcr
                  obtain ⟨es, hes⟩ : ∃ es, ((firstR O).map (Value.int .u8)).toArray = es := ⟨_, rfl⟩
                  have hfc := first_cell O es hes
                  have HC := Lib.hid (And.intro hcr (And.intro hes hfc))
                  clear hkb hcr hes hfc
                  gi_wp2
                  refine ⟨trivial, ?_⟩
                  refine (callsIn_wide.2 (dsk_read0 HD.out HE.out.1 HE.out.2.1 (r : Int) HC.out.1.1 (firstR O) HC.out.1.2 es HC.out.2.1)).mono ?_
                  rintro e w7 ⟨rfl, hg7⟩
                  have H7 := Lib.hid (HD.out.grown hg7)
                  clear hg7  x1b1
                  have hz := HZ.out
                  gi_upto_region 33 with (first
                    | (refine wpListIn_store_row rfl 36 _ _ rfl w7.heap.size es rfl rfl 36 zs (heap_alloc_new w7 _) (by rw [HC.out.2.2.1]; kernel_rfl) (by rw [HC.out.2.2.1, HE.out.2.2.2.2.2.2.2.2]) HC.out.2.2.2.1 ?_)
                    | gi_in)
                  obtain ⟨pa, hpa⟩ : ∃ p, w7.heap.size = p := ⟨_, rfl⟩
                  obtain ⟨Wa, hWa⟩ : ∃ W, (w7.alloc (.cells zs 36)).setRow pa es = W := ⟨_, rfl⟩
                  have gWa : w7.grownBy Wa none := by rw [← hWa]; exact grown_row (World.grownBy_alloc _ _ none) (.inl (by omega)) _
                  have bWa : Blk Wa pa 36 es := by rw [← hWa, ← hpa]; exact (Blk.new w7 _ _).row es
                  have xa := bWa.cell 0
                  rw [HC.out.2.2.2.2] at xa
                  have HA := Lib.hid (H7.out.grown gWa)
                  rw [hpa, hWa]
                  clear gWa bWa hpa hWa hz
                  gi_wp2
                  go_roundw
                  case rel => exact ⟨r + 1, by omega, by simp, HA.out⟩
                  case measure => simp [intOf]; omega
              · have f1 : decide ((r : Int) < (n1 : Int)) = false := by simp; omega
                have g0 : l1.getD r 0 = 0 := by simp [List.getD, List.getElem?_eq_none (show l1.length ≤ r by have := HE.out.2.2.1; omega)]
                by_cases hr2 : r < n2
                · have f2 : decide ((r : Int) < (n2 : Int)) = true := by simp; omega
                  by_cases hr3 : r < n3
                  · have f3 : decide ((r : Int) < (n3 : Int)) = true := by simp; omega
                    have hl3 : r < kp.length := by rw [HE.out.2.2.2.2.2.2.1]; exact hr3
                    obtain ⟨bK, oK, rfl, hcK⟩ := HE.out.2.2.2.2.2.2.2.1 (by rintro rfl; simp at hl3)
                    have x0K := hcK r hl3
                    have hbK : bK < w.heap.size := World.block_lt_of_cell? w _ x0K
                    have x1K := HD.out.2.1.cell x0K (show ¬ (w.heap.size ≤ bK) by omega)
                    cases hkr : kp[r] with
                    | true =>
                      rw [hkr] at x1K
                      have hkq : kp[r]? = some true := by rw [List.getElem?_eq_getElem hl3, hkr]
                      have hlb2 : r < l2.length := by rw [HE.out.2.2.2.2.1]; exact hr2
                      obtain ⟨b2, o2, rfl, hcb2⟩ := BytesAt.get HE.out.2.2.2.2.2.1 (by rintro rfl; simp at hlb2)
                      have x0b2 := hcb2 r hlb2
                      have hbb2 : b2 < w.heap.size := World.block_lt_of_cell? w _ x0b2
                      have x1b2 := HD.out.2.1.cell x0b2 (show ¬ (w.heap.size ≤ b2) by omega)
                      obtain ⟨P, hP⟩ : ∃ x : Int, (l2[r].toNat : Int) = x := ⟨_, rfl⟩
                      rw [hP] at x1b2
                      have gb2 : l2.getD r 0 = l2[r] := by simp [List.getD, List.getElem?_eq_getElem hlb2]
                      clear x0b2 hbb2 hcb2
                      have hkb : ((kpB l1 l2 kp r).toNat : Int) = P := by rw [kpB, if_pos ⟨hlb2, hkq⟩, gb2, hP]
                      clear hkr hkq x0K hbK hcK gb2 hP
                      have hcr := H6.out.2.2.2.2 r hr50
                      rw [hkb] at hcr
                      obtain ⟨es, hes⟩ : ∃ es, ((firstR P).map (Value.int .u8)).toArray = es := ⟨_, rfl⟩
                      have hfc := first_cell P es hes
                      have HC := Lib.hid (And.intro hcr (And.intro hes hfc))
                      clear hkb hcr hes hfc
                      gi_wp2
                      refine ⟨trivial, ?_⟩
                      refine (callsIn_wide.2 (dsk_read0 HD.out HE.out.1 HE.out.2.1 (r : Int) HC.out.1.1 (firstR P) HC.out.1.2 es HC.out.2.1)).mono ?_
                      rintro e w7 ⟨rfl, hg7⟩
                      have H7 := Lib.hid (HD.out.grown hg7)
                      clear hg7 x1K x1b2
                      have hz := HZ.out
                      gi_upto_region 33 with (first
                        | (refine wpListIn_store_row rfl 36 _ _ rfl w7.heap.size es rfl rfl 36 zs (heap_alloc_new w7 _) (by rw [HC.out.2.2.1]; kernel_rfl) (by rw [HC.out.2.2.1, HE.out.2.2.2.2.2.2.2.2]) HC.out.2.2.2.1 ?_)
                        | gi_in)
                      obtain ⟨pa, hpa⟩ : ∃ p, w7.heap.size = p := ⟨_, rfl⟩
                      obtain ⟨Wa, hWa⟩ : ∃ W, (w7.alloc (.cells zs 36)).setRow pa es = W := ⟨_, rfl⟩
                      have gWa : w7.grownBy Wa none := by rw [← hWa]; exact grown_row (World.grownBy_alloc _ _ none) (.inl (by omega)) _
                      have bWa : Blk Wa pa 36 es := by rw [← hWa, ← hpa]; exact (Blk.new w7 _ _).row es
                      have xa := bWa.cell 0
                      rw [HC.out.2.2.2.2] at xa
                      have HA := Lib.hid (H7.out.grown gWa)
                      rw [hpa, hWa]
                      clear gWa bWa hpa hWa hz
                      gi_wp2
                      go_roundw
                      case rel => exact ⟨r + 1, by omega, by simp, HA.out⟩
                      case measure => simp [intOf]; omega
                    | false =>
                      rw [hkr] at x1K
                      have hkb : ((kpB l1 l2 kp r).toNat : Int) = 0 := by rw [kpB, if_neg (by rintro ⟨q1, q2⟩; rw [List.getElem?_eq_getElem hl3, hkr] at q2; cases q2)]; rw [g0]; rfl
                      clear hkr x0K hbK hcK
                      have hcr := H6.out.2.2.2.2 r hr50
                      rw [hkb] at hcr
                      obtain ⟨es, hes⟩ : ∃ es, ((firstR 0).map (Value.int .u8)).toArray = es := ⟨_, rfl⟩
                      have hfc := first_cell 0 es hes
                      have HC := Lib.hid (And.intro hcr (And.intro hes hfc))
                      clear hkb hcr hes hfc
                      gi_wp2
                      refine ⟨trivial, ?_⟩
                      refine (callsIn_wide.2 (dsk_read0 HD.out HE.out.1 HE.out.2.1 (r : Int) HC.out.1.1 (firstR 0) HC.out.1.2 es HC.out.2.1)).mono ?_
                      rintro e w7 ⟨rfl, hg7⟩
                      have H7 := Lib.hid (HD.out.grown hg7)
                      clear hg7 x1K
                      have hz := HZ.out
                      gi_upto_region 33 with (first
                        | (refine wpListIn_store_row rfl 36 _ _ rfl w7.heap.size es rfl rfl 36 zs (heap_alloc_new w7 _) (by rw [HC.out.2.2.1]; kernel_rfl) (by rw [HC.out.2.2.1, HE.out.2.2.2.2.2.2.2.2]) HC.out.2.2.2.1 ?_)
                        | gi_in)
                      obtain ⟨pa, hpa⟩ : ∃ p, w7.heap.size = p := ⟨_, rfl⟩
                      obtain ⟨Wa, hWa⟩ : ∃ W, (w7.alloc (.cells zs 36)).setRow pa es = W := ⟨_, rfl⟩
                      have gWa : w7.grownBy Wa none := by rw [← hWa]; exact grown_row (World.grownBy_alloc _ _ none) (.inl (by omega)) _
                      have bWa : Blk Wa pa 36 es := by rw [← hWa, ← hpa]; exact (Blk.new w7 _ _).row es
                      have xa := bWa.cell 0
                      rw [HC.out.2.2.2.2] at xa
                      have HA := Lib.hid (H7.out.grown gWa)
                      rw [hpa, hWa]
                      clear gWa bWa hpa hWa hz
                      gi_wp2
                      go_roundw
                      case rel => exact ⟨r + 1, by omega, by simp, HA.out⟩
                      case measure => simp [intOf]; omega
                  · have f3 : decide ((r : Int) < (n3 : Int)) = false := by simp; omega
                    have hkb : ((kpB l1 l2 kp r).toNat : Int) = 0 := by rw [kpB, if_neg (by rintro ⟨q1, q2⟩; have := (List.getElem?_eq_some_iff.1 q2).1; have := HE.out.2.2.2.2.2.2.1; omega)]; rw [g0]; rfl
                    have hcr := H6.out.2.2.2.2 r hr50
                    rw [hkb] at hcr
                    obtain ⟨es, hes⟩ : ∃ es, ((firstR 0).map (Value.int .u8)).toArray = es := ⟨_, rfl⟩
                    have hfc := first_cell 0 es hes
                    have HC := Lib.hid (And.intro hcr (And.intro hes hfc))
                    clear hkb hcr hes hfc
                    gi_wp2
                    refine ⟨trivial, ?_⟩
                    refine (callsIn_wide.2 (dsk_read0 HD.out HE.out.1 HE.out.2.1 (r : Int) HC.out.1.1 (firstR 0) HC.out.1.2 es HC.out.2.1)).mono ?_
                    rintro e w7 ⟨rfl, hg7⟩
                    have H7 := Lib.hid (HD.out.grown hg7)
                    clear hg7 f2
                    have hz := HZ.out
                    gi_upto_region 33 with (first
                      | (refine wpListIn_store_row rfl 36 _ _ rfl w7.heap.size es rfl rfl 36 zs (heap_alloc_new w7 _) (by rw [HC.out.2.2.1]; kernel_rfl) (by rw [HC.out.2.2.1, HE.out.2.2.2.2.2.2.2.2]) HC.out.2.2.2.1 ?_)
                      | gi_in)
                    obtain ⟨pa, hpa⟩ : ∃ p, w7.heap.size = p := ⟨_, rfl⟩
                    obtain ⟨Wa, hWa⟩ : ∃ W, (w7.alloc (.cells zs 36)).setRow pa es = W := ⟨_, rfl⟩
                    have gWa : w7.grownBy Wa none := by rw [← hWa]; exact grown_row (World.grownBy_alloc _ _ none) (.inl (by omega)) _
                    have bWa : Blk Wa pa 36 es := by rw [← hWa, ← hpa]; exact (Blk.new w7 _ _).row es
                    have xa := bWa.cell 0
                    rw [HC.out.2.2.2.2] at xa
                    have HA := Lib.hid (H7.out.grown gWa)
                    rw [hpa, hWa]
                    clear gWa bWa hpa hWa hz
                    gi_wp2
                    go_roundw
                    case rel => exact ⟨r + 1, by omega, by simp, HA.out⟩
                    case measure => simp [intOf]; omega
                · have f2 : decide ((r : Int) < (n2 : Int)) = false := by simp; omega
                  have hkb : ((kpB l1 l2 kp r).toNat : Int) = 0 := by rw [kpB, if_neg (by rintro ⟨q1, q2⟩; have := HE.out.2.2.2.2.1; omega)]; rw [g0]; rfl
                  have hcr := H6.out.2.2.2.2 r hr50
                  rw [hkb] at hcr
                  obtain ⟨es, hes⟩ : ∃ es, ((firstR 0).map (Value.int .u8)).toArray = es := ⟨_, rfl⟩
                  have hfc := first_cell 0 es hes
                  have HC := Lib.hid (And.intro hcr (And.intro hes hfc))
                  clear hkb hcr hes hfc
                  gi_wp2
                  refine ⟨trivial, ?_⟩
                  refine (callsIn_wide.2 (dsk_read0 HD.out HE.out.1 HE.out.2.1 (r : Int) HC.out.1.1 (firstR 0) HC.out.1.2 es HC.out.2.1)).mono ?_
                  rintro e w7 ⟨rfl, hg7⟩
                  have H7 := Lib.hid (HD.out.grown hg7)
                  clear hg7 f2
                  have hz := HZ.out
                  gi_upto_region 33 with (first
                    | (refine wpListIn_store_row rfl 36 _ _ rfl w7.heap.size es rfl rfl 36 zs (heap_alloc_new w7 _) (by rw [HC.out.2.2.1]; kernel_rfl) (by rw [HC.out.2.2.1, HE.out.2.2.2.2.2.2.2.2]) HC.out.2.2.2.1 ?_)
                    | gi_in)
                  obtain ⟨pa, hpa⟩ : ∃ p, w7.heap.size = p := ⟨_, rfl⟩
                  obtain ⟨Wa, hWa⟩ : ∃ W, (w7.alloc (.cells zs 36)).setRow pa es = W := ⟨_, rfl⟩
                  have gWa : w7.grownBy Wa none := by rw [← hWa]; exact grown_row (World.grownBy_alloc _ _ none) (.inl (by omega)) _
                  have bWa : Blk Wa pa 36 es := by rw [← hWa, ← hpa]; exact (Blk.new w7 _ _).row es
                  have xa := bWa.cell 0
                  rw [HC.out.2.2.2.2] at xa
                  have HA := Lib.hid (H7.out.grown gWa)
                  rw [hpa, hWa]
                  clear gWa bWa hpa hWa hz
                  gi_wp2
                  go_roundw
                  case rel => exact ⟨r + 1, by omega, by simp, HA.out⟩
                  case measure => simp [intOf]; omega
            · have f0 : decide ((r : Int) < 50) = false := by simp; omega
              obtain rfl : r = 50 := by omega
              gi_wp2
              refine ⟨trivial, ?_⟩
              refine (callsIn_wide.2 (dsk_unsynced HD.out)).mono ?_
              rintro e w7 ⟨A, c, rfl, hc, hi, k7⟩
              rw [H6.out.2.2.2.1]
              have H7 := Lib.hid (HD.out.grown k7)
              clear k7 hc hi
              gi_wp2
              go_ret
              exact ⟨rfl, H7.out.grownNone⟩
end Go.Proofs.YtmecimhlnajaoaaDoor
