/-
  DiskLast, walked.
-/
import Derived.Test.YtmecimhlnajaoaaDoorDkLa
namespace Go.Proofs.YtmecimhlnajaoaaDoor
open Go.RowKit Go.Maps

theorem eq_sec (w : World) (x : Int) (es : Array Value) (h : ((firstR x).map (Value.int .u8)).toArray = es) : Sem.run Tryd.prog (Op.equalIn 10000 36 (.agg es) (.agg es)) w = .ok true w := by
  have e := eq_arr (P := Tryd.prog) w 9998 Tryd.underlying36 (by kernel_rfl) Tryd.underlying5 (by kernel_rfl) (by kernel_rfl) (firstR x) (firstR x) (firstR_len x) (firstR_len x)
  rw [show arrV .u8 (firstR x) = es from h] at e
  simpa using e
theorem bools3 (w : World) (t : TypeId) : BoolsAt (w.alloc (.cells #[.bool true, .bool true, .bool true] t)) (some ⟨w.heap.size, 0, none⟩) [true, true, true] := fun _ =>
  ⟨w.heap.size, 0, rfl, fun j hj => by
    rw [(Blk.new w t _).cell, Nat.zero_add]
    match j, hj with
    | 0, _ => rfl
    | 1, _ => rfl
    | 2, _ => rfl⟩
set_option maxRecDepth 100000 in
set_option maxHeartbeats 2000000 in
theorem last_any (w : World) (A A2 : Option Addr) (n c n2 c2 : Nat) (l : List UInt8) (sy : Bool) (kp : List Bool) (er ep : Addr) (hn : l.length = n) (hl : BytesAt w A l) (hn2 : kp.length = n2) (hk : BoolsAt w A2 kp) (her : ErrAt w w.heap.size 0 er) (hep : ErrAt w w.heap.size 5 ep) :
    Calls Tryd.prog 6 #[.slice A n c, .bool sy, .slice A2 n2 c2] w fun e w' => e = .returned (.bool true) ∧ w.grownBy w' none := by
  obtain ⟨zs, hzs⟩ : ∃ zs : Array Value, zs = (zeroR.map (Value.int .u8)).toArray := ⟨_, rfl⟩
  have hz : ∀ w, Sem.run Tryd.prog (zeroValue 36) w = .ok (.agg zs) w := fun w => by rw [hzs]; exact zero_sec w (by kernel_rfl)
  have hzz : zs.size = 64 := by rw [hzs]; simp [zeroR]
  have HE := Lib.hid (And.intro her (And.intro hep (And.intro hn (And.intro hl (And.intro hn2 (And.intro hk hzz))))))
  have HZ := Lib.hid hz
  clear her hep hl hn hn2 hk hzz hz hzs
  refine (callsIn_wide (n := 9)).1 ?_
  refine callsIn_of_wp Tryd.func6 rfl trivial ?_ rfl
  simp only [Tryd.ntmps6, List.size_toArray, List.length_cons, List.length_nil, Nat.reduceAdd, Nat.reduceSub, Array.replicate_succ, Array.replicate_zero, List.push_toArray, List.append_toArray, List.nil_append, List.cons_append]
  gi_wp2
  refine ⟨trivial, ?_⟩
  refine (callsIn_wide.2 (alive_is w er ep HE.out.1 HE.out.2.1)).mono ?_
  rintro e w1 ⟨rfl, k1⟩
  have K1 := Lib.hid k1
  clear k1
  by_cases h1 : n < 1
  · have d1 : decide ((n : Int) < 1) = true := by simp; omega
    gi_wp2
    go_ret
    exact ⟨rfl, K1.out⟩
  have d1 : decide ((n : Int) < 1) = false := by simp; omega
  by_cases h60 : 60 < n
  · have d2 : decide ((60 : Int) < (n : Int)) = true := by simp; omega
    gi_wp2
    go_ret
    exact ⟨rfl, K1.out⟩
  have d2 : decide ((60 : Int) < (n : Int)) = false := by simp; omega
  by_cases h20 : 20 < n2
  · have d3 : decide ((20 : Int) < (n2 : Int)) = true := by simp; omega
    gi_wp2
    go_ret
    exact ⟨rfl, K1.out⟩
  have d3 : decide ((20 : Int) < (n2 : Int)) = false := by simp; omega
  gi_wp2
  refine ⟨trivial, ?_⟩
  refine (callsIn_wide.2 (dsk_new w w1 (Kept.of_grown (F := fun j => w.heap.size ≤ j) K1.out (fun _ e => by cases e)) 3 (by omega) er HE.out.1)).mono ?_
  rintro e w2 ⟨k2, d, b, m, rfl, hd, _⟩
  have H2 := Lib.hid hd
  clear k2 hd
  gi_wp2
  gi_loopw [41] (fun i wr => ∃ k : Nat, k ≤ n ∧ i = .int .i64 (k : Int) ∧ Dsk w wr d b m (lastZ l k)) (fun i _ => n - (intOf i).toNat)
  case atStart => exact ⟨0, by omega, rfl, H2.out⟩
  case round =>
    obtain ⟨k, hkN, rfl, hd⟩ := hrel
    rename World => wx
    have HD := Lib.hid hd
    clear hd
    have hne : l ≠ [] := by rintro rfl; have := HE.out.2.2.1; simp at this; omega
    obtain ⟨bR, oR, rfl, hcR⟩ := BytesAt.get HE.out.2.2.2.1 hne
    have HCR := Lib.hid hcR
    clear hne hcR
    by_cases hlt : k < n
    · have d4 : decide ((k : Int) < (n : Int)) = true := by simp; omega
      have hkl : k < l.length := by rw [HE.out.2.2.1]; exact hlt
      have xR0 := HCR.out k hkl
      have hbR : bR < w.heap.size := World.block_lt_of_cell? w _ xR0
      have xR1 := HD.out.2.1.cell xR0 (show ¬ (w.heap.size ≤ bR) by omega)
      have hst := lastZ_write l k hkl
      obtain ⟨x, hx⟩ : ∃ x : Int, (l[k].toNat : Int) = x := ⟨_, rfl⟩
      rw [hx] at xR1 hst
      obtain ⟨es, hes⟩ : ∃ es, ((firstR x).map (Value.int .u8)).toArray = es := ⟨_, rfl⟩
      have hL : (#[Value.int .u8 (x), Value.int .u8 0, Value.int .u8 0, Value.int .u8 0, Value.int .u8 0, Value.int .u8 0, Value.int .u8 0, Value.int .u8 0, Value.int .u8 0, Value.int .u8 0, Value.int .u8 0, Value.int .u8 0, Value.int .u8 0, Value.int .u8 0, Value.int .u8 0, Value.int .u8 0, Value.int .u8 0, Value.int .u8 0, Value.int .u8 0, Value.int .u8 0, Value.int .u8 0, Value.int .u8 0, Value.int .u8 0, Value.int .u8 0, Value.int .u8 0, Value.int .u8 0, Value.int .u8 0, Value.int .u8 0, Value.int .u8 0, Value.int .u8 0, Value.int .u8 0, Value.int .u8 0, Value.int .u8 0, Value.int .u8 0, Value.int .u8 0, Value.int .u8 0, Value.int .u8 0, Value.int .u8 0, Value.int .u8 0, Value.int .u8 0, Value.int .u8 0, Value.int .u8 0, Value.int .u8 0, Value.int .u8 0, Value.int .u8 0, Value.int .u8 0, Value.int .u8 0, Value.int .u8 0, Value.int .u8 0, Value.int .u8 0, Value.int .u8 0, Value.int .u8 0, Value.int .u8 0, Value.int .u8 0, Value.int .u8 0, Value.int .u8 0, Value.int .u8 0, Value.int .u8 0, Value.int .u8 0, Value.int .u8 0, Value.int .u8 0, Value.int .u8 0, Value.int .u8 0, Value.int .u8 0] : Array Value) = es := by rw [← hes]; rfl
      have hrd : rE (lastZ l (k + 1)) 1 = 0 ∧ rV (lastZ l (k + 1)) 1 = firstR x := by
        have e : l.getD k 0 = l[k] := by simp [List.getD, List.getElem?_eq_getElem hkl]
        rw [lastZ, e, hx]
        exact ⟨(laZ_read x).1, (laZ_read x).2.1⟩
      have hfc := first_cell x es hes
      have HST := Lib.hid (And.intro hst (And.intro hes (And.intro hrd hfc)))
      clear xR0 hbR hkl hst hx hes hrd hfc
      gi_wp2
      refine ⟨trivial, ?_⟩
      refine (callsIn_wide.2 (dsk_write0 HD.out HE.out.1 HE.out.2.1 1 (firstR x) (firstR_len x) HST.out.1.1 HST.out.1.2 es HST.out.2.1)).mono ?_
      rintro e w4 ⟨rfl, hd, _⟩
      have H4 := Lib.hid hd
      clear hd xR1
      gi_wp2
      refine ⟨trivial, ?_⟩
      refine (callsIn_wide.2 (dsk_read0 H4.out HE.out.1 HE.out.2.1 1 HST.out.2.2.1.1 (firstR x) HST.out.2.2.1.2 es HST.out.2.1)).mono ?_
      rintro e w5 ⟨rfl, hg5⟩
      have H5 := Lib.hid (H4.out.grown hg5)
      clear hg5
      have hz := HZ.out
      gi_upto_region 14 with (first
        | (refine wpListIn_store_row rfl 36 _ _ rfl w5.heap.size es rfl rfl 36 zs (heap_alloc_new w5 _) (by rw [HST.out.2.2.2.1]; kernel_rfl) (by rw [HST.out.2.2.2.1, HE.out.2.2.2.2.2.2]) HST.out.2.2.2.2.1 ?_)
        | gi_in)
      obtain ⟨p6, hp6⟩ : ∃ p6, w5.heap.size = p6 := ⟨_, rfl⟩
      obtain ⟨W6, hW6⟩ : ∃ W6, (w5.alloc (.cells zs 36)).setRow p6 es = W6 := ⟨_, rfl⟩
      have gW6 : w5.grownBy W6 none := by rw [← hW6]; exact grown_row (World.grownBy_alloc _ _ none) (.inl (by omega)) _
      have bW6 : Blk W6 p6 36 es := by rw [← hW6, ← hp6]; exact (Blk.new w5 _ _).row es
      have x6 := bW6.cell 0
      rw [HST.out.2.2.2.2.2] at x6
      have H7 := Lib.hid (H5.out.grown gW6)
      rw [hp6, hW6]
      clear gW6 bW6 hp6 hW6 hz
      gi_wp2
      go_roundw
      case rel => exact ⟨k + 1, by omega, by simp, H7.out⟩
      case measure => simp [intOf]; omega
    · have d4 : decide ((k : Int) < (n : Int)) = false := by simp; omega
      obtain rfl : k = n := by omega
      obtain ⟨N, rfl⟩ : ∃ N, k = N + 1 := ⟨k - 1, by omega⟩
      have hNl : N < l.length := by rw [HE.out.2.2.1]; omega
      have xB0 := HCR.out N hNl
      have hbR : bR < w.heap.size := World.block_lt_of_cell? w _ xB0
      obtain ⟨B, hB⟩ : ∃ B : Int, (l[N].toNat : Int) = B := ⟨_, rfl⟩
      rw [hB] at xB0
      have hlz : lastZ l (N + 1) = laZ B := by
        have e : l.getD N 0 = l[N] := by simp [List.getD, List.getElem?_eq_getElem hNl]
        rw [lastZ, e, hB]
      have hd := HD.out
      rw [hlz] at hd
      have HX := Lib.hid (And.intro hd (And.intro xB0 hbR))
      clear hNl xB0 hbR hB hlz hd HD hlt hkN d4
      cases sy with
      | true =>
        gi_wp2
        refine ⟨trivial, ?_⟩
        refine (callsIn_wide.2 (dsk_sync0 (y := sS (laZ B)) HX.out.1 HE.out.2.1 (laZ_read B).2.2 rfl)).mono ?_
        rintro e w7 ⟨rfl, hd, _⟩
        have H7 := Lib.hid (show Dsk w w7 d b m (laS B true) from hd)
        clear hd
        gi_wp2
        refine ⟨trivial, ?_⟩
        refine (callsIn_wide.2 (dsk_crash H7.out A2 n2 c2 kp HE.out.2.2.2.2.1 (HE.out.2.2.2.2.2.1.low H7.out.2.1 (fun _ h => h)) (fun a e hne => by have := HE.out.2.2.2.2.2.1.lt a e hne; have := H7.out.2.2.2.1; omega))).mono ?_
        rintro e w8 ⟨rfl, hd, _⟩
        have xB := hd.2.1.cell HX.out.2.1 (show ¬ (w.heap.size ≤ bR) by have := HX.out.2.2; omega)
        have H8 := Lib.hid hd
        have hcr := laS_crash B true kp
        rw [show laW B true kp = B from rfl] at hcr
        obtain ⟨es, hes⟩ : ∃ es, ((firstR B).map (Value.int .u8)).toArray = es := ⟨_, rfl⟩
        have hfc := first_cell B es hes
        have HC := Lib.hid (And.intro hcr (And.intro hes hfc))
        clear hd hcr hes hfc
        gi_wp2
        refine ⟨trivial, ?_⟩
        refine (callsIn_wide.2 (dsk_read0 H8.out HE.out.1 HE.out.2.1 1 HC.out.1.1 (firstR B) HC.out.1.2.1 es HC.out.2.1)).mono ?_
        rintro e w9 ⟨rfl, hg9⟩
        have H9 := Lib.hid (H8.out.grown hg9)
        clear hg9 xB
        have hz := HZ.out
        gi_upto_region 24 with (first
          | (refine wpListIn_store_row rfl 36 _ _ rfl w9.heap.size es rfl rfl 36 zs (heap_alloc_new w9 _) (by rw [HC.out.2.2.1]; kernel_rfl) (by rw [HC.out.2.2.1, HE.out.2.2.2.2.2.2]) HC.out.2.2.2.1 ?_)
          | gi_in)
        obtain ⟨pa, hpa⟩ : ∃ p, w9.heap.size = p := ⟨_, rfl⟩
        obtain ⟨Wa, hWa⟩ : ∃ W, (w9.alloc (.cells zs 36)).setRow pa es = W := ⟨_, rfl⟩
        have gWa : w9.grownBy Wa none := by rw [← hWa]; exact grown_row (World.grownBy_alloc _ _ none) (.inl (by omega)) _
        have bWa : Blk Wa pa 36 es := by rw [← hWa, ← hpa]; exact (Blk.new w9 _ _).row es
        have hpw : w.heap.size ≤ pa := by rw [← hpa]; exact H9.out.2.1.size
        have hab : pa ≠ d ∧ pa ≠ b ∧ pa ≠ m := by
          have h1 := H9.out.1.1.lt
          have h2 := H9.out.1.2.1.lt
          obtain ⟨D, h3, _⟩ := H9.out.1.2.2.1
          have h3 := h3.lt
          omega
        have HA := Lib.hid (And.intro (H9.out.grown gWa) (And.intro bWa hab))
        rw [hpa, hWa]
        clear gWa bWa hpa hWa hpw hab hz
        gi_wp2
        have hwa : b < Wa.heap.size := HA.out.1.1.2.1.lt
        obtain ⟨Wc, hWc⟩ : ∃ W, Wa.alloc (.cells #[.bool true, .bool true, .bool true] 4) = W := ⟨_, rfl⟩
        have hb3 := bools3 Wa 4
        have gWc : Wa.grownBy Wc none := by rw [← hWc]; exact World.grownBy_alloc _ _ none
        rw [hWc] at hb3 ⊢
        have HB3 := Lib.hid (And.intro hb3 (And.intro gWc hwa))
        clear hb3 gWc hwa hWc
        refine ⟨trivial, ?_⟩
        refine (callsIn_wide.2 (dsk_crash (HA.out.1.grown HB3.out.2.1) (some ⟨Wa.heap.size, 0, none⟩) 3 3 [true, true, true] rfl HB3.out.1 (fun a e _ => by injection e with e; subst e; have := HB3.out.2.2; show Wa.heap.size ≠ b; omega))).mono ?_
        rintro e w10 ⟨rfl, hd, ht⟩
        have H10 := Lib.hid (And.intro hd ((HA.out.2.1.grown HB3.out.2.1 (by simp)).kept ht (by have := HA.out.2.2; omega)))
        clear hd ht
        gi_wp2
        refine ⟨trivial, ?_⟩
        refine (callsIn_wide.2 (dsk_read0 H10.out.1 HE.out.1 HE.out.2.1 1 HC.out.1.2.2.1 (firstR B) HC.out.1.2.2.2 es HC.out.2.1)).mono ?_
        rintro e w11 ⟨rfl, hg11⟩
        have H11 := Lib.hid (And.intro (H10.out.1.grown hg11) (H10.out.2.grown hg11 (by simp)))
        clear hg11
        have hz := HZ.out
        gi_upto_region 26 with (first
          | (refine wpListIn_store_row rfl 36 _ _ rfl w11.heap.size es rfl rfl 36 zs (heap_alloc_new w11 _) (by rw [HC.out.2.2.1]; kernel_rfl) (by rw [HC.out.2.2.1, HE.out.2.2.2.2.2.2]) HC.out.2.2.2.1 ?_)
          | gi_in)
        obtain ⟨pb, hpb⟩ : ∃ p, w11.heap.size = p := ⟨_, rfl⟩
        obtain ⟨Wb, hWb⟩ : ∃ W, (w11.alloc (.cells zs 36)).setRow pb es = W := ⟨_, rfl⟩
        have gWb : w11.grownBy Wb none := by rw [← hWb]; exact grown_row (World.grownBy_alloc _ _ none) (.inl (by omega)) _
        have bWb : Blk Wb pb 36 es := by rw [← hWb, ← hpb]; exact (Blk.new w11 _ _).row es
        have bWa : Blk Wb pa 36 es := H11.out.2.grown gWb (by simp)
        have xa := bWa.cell 0
        rw [HC.out.2.2.2.2] at xa
        have heq := eq_sec Wb B es HC.out.2.1
        have HF := Lib.hid (And.intro (H11.out.1.grown gWb) (And.intro bWa bWb))
        rw [hpb, hWb]
        clear gWb bWb bWa hpb hWb hz
        gi_wp2_with (first
          | (refine wpListIn_load_row_w (by rfl) 36 _ rfl pa rfl 36 es (0, 0) _ HF.out.2.1 Tryd.underlying36 rfl (by rw [HC.out.2.2.1]; kernel_rfl) ?_)
          | (refine wpListIn_load_row_w (by rfl) 36 _ rfl pb rfl 36 es (0, 0) _ HF.out.2.2 Tryd.underlying36 rfl (by rw [HC.out.2.2.1]; kernel_rfl) ?_)
          | gi_in)
        go_ret
        exact ⟨by simp, HF.out.1.grownNone⟩
      | false =>
        cases kp with
        | nil =>
          gi_wp2
          rename_i KK hKK
          refine ⟨trivial, hKK _ _ ?_⟩
          have H7 := Lib.hid (show Dsk w wx d b m (laS B false) from HX.out.1)
          gi_wp2
          refine ⟨trivial, ?_⟩
          refine (callsIn_wide.2 (dsk_crash H7.out A2 n2 c2 [] HE.out.2.2.2.2.1 (HE.out.2.2.2.2.2.1.low H7.out.2.1 (fun _ h => h)) (fun a e hne => by have := HE.out.2.2.2.2.2.1.lt a e hne; have := H7.out.2.2.2.1; omega))).mono ?_
          rintro e w8 ⟨rfl, hd, _⟩
          have xB := hd.2.1.cell HX.out.2.1 (show ¬ (w.heap.size ≤ bR) by have := HX.out.2.2; omega)
          have H8 := Lib.hid hd
          have hcr := laS_crash B false []
          rw [show laW B false [] = 0 from rfl] at hcr
          obtain ⟨es, hes⟩ : ∃ es, ((firstR 0).map (Value.int .u8)).toArray = es := ⟨_, rfl⟩
          have hfc := first_cell 0 es hes
          have HC := Lib.hid (And.intro hcr (And.intro hes hfc))
          clear hd hcr hes hfc
          have hn0 : n2 = 0 := by have := HE.out.2.2.2.2.1; simpa using this.symm
          have d5 : decide ((0 : Int) < (n2 : Int)) = false := by simp; omega
          have d6 : ¬ 0 < n2 := by omega
          clear hn0
          gi_wp2
          refine ⟨trivial, ?_⟩
          refine (callsIn_wide.2 (dsk_read0 H8.out HE.out.1 HE.out.2.1 1 HC.out.1.1 (firstR 0) HC.out.1.2.1 es HC.out.2.1)).mono ?_
          rintro e w9 ⟨rfl, hg9⟩
          have H9 := Lib.hid (H8.out.grown hg9)
          clear hg9 xB
          have hz := HZ.out
          gi_upto_region 24 with (first
            | (refine wpListIn_store_row rfl 36 _ _ rfl w9.heap.size es rfl rfl 36 zs (heap_alloc_new w9 _) (by rw [HC.out.2.2.1]; kernel_rfl) (by rw [HC.out.2.2.1, HE.out.2.2.2.2.2.2]) HC.out.2.2.2.1 ?_)
            | gi_in)
          obtain ⟨pa, hpa⟩ : ∃ p, w9.heap.size = p := ⟨_, rfl⟩
          obtain ⟨Wa, hWa⟩ : ∃ W, (w9.alloc (.cells zs 36)).setRow pa es = W := ⟨_, rfl⟩
          have gWa : w9.grownBy Wa none := by rw [← hWa]; exact grown_row (World.grownBy_alloc _ _ none) (.inl (by omega)) _
          have bWa : Blk Wa pa 36 es := by rw [← hWa, ← hpa]; exact (Blk.new w9 _ _).row es
          have hpw : w.heap.size ≤ pa := by rw [← hpa]; exact H9.out.2.1.size
          have hab : pa ≠ d ∧ pa ≠ b ∧ pa ≠ m := by
            have h1 := H9.out.1.1.lt
            have h2 := H9.out.1.2.1.lt
            obtain ⟨D, h3, _⟩ := H9.out.1.2.2.1
            have h3 := h3.lt
            omega
          have HA := Lib.hid (And.intro (H9.out.grown gWa) (And.intro bWa hab))
          rw [hpa, hWa]
          clear gWa bWa hpa hWa hpw hab hz
          gi_wp2
          have hwa : b < Wa.heap.size := HA.out.1.1.2.1.lt
          obtain ⟨Wc, hWc⟩ : ∃ W, Wa.alloc (.cells #[.bool true, .bool true, .bool true] 4) = W := ⟨_, rfl⟩
          have hb3 := bools3 Wa 4
          have gWc : Wa.grownBy Wc none := by rw [← hWc]; exact World.grownBy_alloc _ _ none
          rw [hWc] at hb3 ⊢
          have HB3 := Lib.hid (And.intro hb3 (And.intro gWc hwa))
          clear hb3 gWc hwa hWc
          refine ⟨trivial, ?_⟩
          refine (callsIn_wide.2 (dsk_crash (HA.out.1.grown HB3.out.2.1) (some ⟨Wa.heap.size, 0, none⟩) 3 3 [true, true, true] rfl HB3.out.1 (fun a e _ => by injection e with e; subst e; have := HB3.out.2.2; show Wa.heap.size ≠ b; omega))).mono ?_
          rintro e w10 ⟨rfl, hd, ht⟩
          have H10 := Lib.hid (And.intro hd ((HA.out.2.1.grown HB3.out.2.1 (by simp)).kept ht (by have := HA.out.2.2; omega)))
          clear hd ht
          gi_wp2
          refine ⟨trivial, ?_⟩
          refine (callsIn_wide.2 (dsk_read0 H10.out.1 HE.out.1 HE.out.2.1 1 HC.out.1.2.2.1 (firstR 0) HC.out.1.2.2.2 es HC.out.2.1)).mono ?_
          rintro e w11 ⟨rfl, hg11⟩
          have H11 := Lib.hid (And.intro (H10.out.1.grown hg11) (H10.out.2.grown hg11 (by simp)))
          clear hg11
          have hz := HZ.out
          gi_upto_region 26 with (first
            | (refine wpListIn_store_row rfl 36 _ _ rfl w11.heap.size es rfl rfl 36 zs (heap_alloc_new w11 _) (by rw [HC.out.2.2.1]; kernel_rfl) (by rw [HC.out.2.2.1, HE.out.2.2.2.2.2.2]) HC.out.2.2.2.1 ?_)
            | gi_in)
          obtain ⟨pb, hpb⟩ : ∃ p, w11.heap.size = p := ⟨_, rfl⟩
          obtain ⟨Wb, hWb⟩ : ∃ W, (w11.alloc (.cells zs 36)).setRow pb es = W := ⟨_, rfl⟩
          have gWb : w11.grownBy Wb none := by rw [← hWb]; exact grown_row (World.grownBy_alloc _ _ none) (.inl (by omega)) _
          have bWb : Blk Wb pb 36 es := by rw [← hWb, ← hpb]; exact (Blk.new w11 _ _).row es
          have bWa : Blk Wb pa 36 es := H11.out.2.grown gWb (by simp)
          have xa := bWa.cell 0
          rw [HC.out.2.2.2.2] at xa
          have heq := eq_sec Wb 0 es HC.out.2.1
          have HF := Lib.hid (And.intro (H11.out.1.grown gWb) (And.intro bWa bWb))
          rw [hpb, hWb]
          clear gWb bWb bWa hpb hWb hz
          gi_wp2_with (first
            | (refine wpListIn_load_row_w (by rfl) 36 _ rfl pa rfl 36 es (0, 0) _ HF.out.2.1 Tryd.underlying36 rfl (by rw [HC.out.2.2.1]; kernel_rfl) ?_)
            | (refine wpListIn_load_row_w (by rfl) 36 _ rfl pb rfl 36 es (0, 0) _ HF.out.2.2 Tryd.underlying36 rfl (by rw [HC.out.2.2.1]; kernel_rfl) ?_)
            | gi_in)
          go_ret
          exact ⟨by simp, HF.out.1.grownNone⟩
        | cons a tl =>
          cases a with
          | true =>
            gi_wp2
            rename_i KK hKK
            refine ⟨trivial, hKK _ _ ?_⟩
            have H7 := Lib.hid (show Dsk w wx d b m (laS B false) from HX.out.1)
            gi_wp2
            refine ⟨trivial, ?_⟩
            refine (callsIn_wide.2 (dsk_crash H7.out A2 n2 c2 (true :: tl) HE.out.2.2.2.2.1 (HE.out.2.2.2.2.2.1.low H7.out.2.1 (fun _ h => h)) (fun a e hne => by have := HE.out.2.2.2.2.2.1.lt a e hne; have := H7.out.2.2.2.1; omega))).mono ?_
            rintro e w8 ⟨rfl, hd, _⟩
            have xB := hd.2.1.cell HX.out.2.1 (show ¬ (w.heap.size ≤ bR) by have := HX.out.2.2; omega)
            have H8 := Lib.hid hd
            have hcr := laS_crash B false (true :: tl)
            rw [show laW B false (true :: tl) = B from rfl] at hcr
            obtain ⟨es, hes⟩ : ∃ es, ((firstR B).map (Value.int .u8)).toArray = es := ⟨_, rfl⟩
            have hfc := first_cell B es hes
            have HC := Lib.hid (And.intro hcr (And.intro hes hfc))
            clear hd hcr hes hfc
            have hn0 : 0 < n2 := by have := HE.out.2.2.2.2.1; simp at this; omega
            have d5 : decide ((0 : Int) < (n2 : Int)) = true := by simp; omega
            obtain ⟨bK, oK, rfl, hcK⟩ := HE.out.2.2.2.2.2.1 (by simp)
            have xK0 := hcK 0 (by simp)
            have hbK : bK < w.heap.size := World.block_lt_of_cell? w _ xK0
            have xK := H8.out.2.1.cell xK0 (show ¬ (w.heap.size ≤ bK) by omega)
            simp only [List.getElem_cons_zero, Nat.add_zero] at xK
            clear xK0 hbK hcK
            gi_wp2
            refine ⟨trivial, ?_⟩
            refine (callsIn_wide.2 (dsk_read0 H8.out HE.out.1 HE.out.2.1 1 HC.out.1.1 (firstR B) HC.out.1.2.1 es HC.out.2.1)).mono ?_
            rintro e w9 ⟨rfl, hg9⟩
            have H9 := Lib.hid (H8.out.grown hg9)
            clear hg9 xB
            have hz := HZ.out
            gi_upto_region 24 with (first
              | (refine wpListIn_store_row rfl 36 _ _ rfl w9.heap.size es rfl rfl 36 zs (heap_alloc_new w9 _) (by rw [HC.out.2.2.1]; kernel_rfl) (by rw [HC.out.2.2.1, HE.out.2.2.2.2.2.2]) HC.out.2.2.2.1 ?_)
              | gi_in)
            obtain ⟨pa, hpa⟩ : ∃ p, w9.heap.size = p := ⟨_, rfl⟩
            obtain ⟨Wa, hWa⟩ : ∃ W, (w9.alloc (.cells zs 36)).setRow pa es = W := ⟨_, rfl⟩
            have gWa : w9.grownBy Wa none := by rw [← hWa]; exact grown_row (World.grownBy_alloc _ _ none) (.inl (by omega)) _
            have bWa : Blk Wa pa 36 es := by rw [← hWa, ← hpa]; exact (Blk.new w9 _ _).row es
            have hpw : w.heap.size ≤ pa := by rw [← hpa]; exact H9.out.2.1.size
            have hab : pa ≠ d ∧ pa ≠ b ∧ pa ≠ m := by
              have h1 := H9.out.1.1.lt
              have h2 := H9.out.1.2.1.lt
              obtain ⟨D, h3, _⟩ := H9.out.1.2.2.1
              have h3 := h3.lt
              omega
            have HA := Lib.hid (And.intro (H9.out.grown gWa) (And.intro bWa hab))
            rw [hpa, hWa]
            clear gWa bWa hpa hWa hpw hab hz
            gi_wp2
            have hwa : b < Wa.heap.size := HA.out.1.1.2.1.lt
            obtain ⟨Wc, hWc⟩ : ∃ W, Wa.alloc (.cells #[.bool true, .bool true, .bool true] 4) = W := ⟨_, rfl⟩
            have hb3 := bools3 Wa 4
            have gWc : Wa.grownBy Wc none := by rw [← hWc]; exact World.grownBy_alloc _ _ none
            rw [hWc] at hb3 ⊢
            have HB3 := Lib.hid (And.intro hb3 (And.intro gWc hwa))
            clear hb3 gWc hwa hWc
            refine ⟨trivial, ?_⟩
            refine (callsIn_wide.2 (dsk_crash (HA.out.1.grown HB3.out.2.1) (some ⟨Wa.heap.size, 0, none⟩) 3 3 [true, true, true] rfl HB3.out.1 (fun a e _ => by injection e with e; subst e; have := HB3.out.2.2; show Wa.heap.size ≠ b; omega))).mono ?_
            rintro e w10 ⟨rfl, hd, ht⟩
            have H10 := Lib.hid (And.intro hd ((HA.out.2.1.grown HB3.out.2.1 (by simp)).kept ht (by have := HA.out.2.2; omega)))
            clear hd ht
            gi_wp2
            refine ⟨trivial, ?_⟩
            refine (callsIn_wide.2 (dsk_read0 H10.out.1 HE.out.1 HE.out.2.1 1 HC.out.1.2.2.1 (firstR B) HC.out.1.2.2.2 es HC.out.2.1)).mono ?_
            rintro e w11 ⟨rfl, hg11⟩
            have H11 := Lib.hid (And.intro (H10.out.1.grown hg11) (H10.out.2.grown hg11 (by simp)))
            clear hg11
            have hz := HZ.out
            gi_upto_region 26 with (first
              | (refine wpListIn_store_row rfl 36 _ _ rfl w11.heap.size es rfl rfl 36 zs (heap_alloc_new w11 _) (by rw [HC.out.2.2.1]; kernel_rfl) (by rw [HC.out.2.2.1, HE.out.2.2.2.2.2.2]) HC.out.2.2.2.1 ?_)
              | gi_in)
            obtain ⟨pb, hpb⟩ : ∃ p, w11.heap.size = p := ⟨_, rfl⟩
            obtain ⟨Wb, hWb⟩ : ∃ W, (w11.alloc (.cells zs 36)).setRow pb es = W := ⟨_, rfl⟩
            have gWb : w11.grownBy Wb none := by rw [← hWb]; exact grown_row (World.grownBy_alloc _ _ none) (.inl (by omega)) _
            have bWb : Blk Wb pb 36 es := by rw [← hWb, ← hpb]; exact (Blk.new w11 _ _).row es
            have bWa : Blk Wb pa 36 es := H11.out.2.grown gWb (by simp)
            have xa := bWa.cell 0
            rw [HC.out.2.2.2.2] at xa
            have heq := eq_sec Wb B es HC.out.2.1
            have HF := Lib.hid (And.intro (H11.out.1.grown gWb) (And.intro bWa bWb))
            rw [hpb, hWb]
            clear gWb bWb bWa hpb hWb hz
            gi_wp2_with (first
              | (refine wpListIn_load_row_w (by rfl) 36 _ rfl pa rfl 36 es (0, 0) _ HF.out.2.1 Tryd.underlying36 rfl (by rw [HC.out.2.2.1]; kernel_rfl) ?_)
              | (refine wpListIn_load_row_w (by rfl) 36 _ rfl pb rfl 36 es (0, 0) _ HF.out.2.2 Tryd.underlying36 rfl (by rw [HC.out.2.2.1]; kernel_rfl) ?_)
              | gi_in)
            go_ret
            exact ⟨by simp, HF.out.1.grownNone⟩
          | false =>
            gi_wp2
            rename_i KK hKK
            refine ⟨trivial, hKK _ _ ?_⟩
            have H7 := Lib.hid (show Dsk w wx d b m (laS B false) from HX.out.1)
            gi_wp2
            refine ⟨trivial, ?_⟩
            refine (callsIn_wide.2 (dsk_crash H7.out A2 n2 c2 (false :: tl) HE.out.2.2.2.2.1 (HE.out.2.2.2.2.2.1.low H7.out.2.1 (fun _ h => h)) (fun a e hne => by have := HE.out.2.2.2.2.2.1.lt a e hne; have := H7.out.2.2.2.1; omega))).mono ?_
            rintro e w8 ⟨rfl, hd, _⟩
            have xB := hd.2.1.cell HX.out.2.1 (show ¬ (w.heap.size ≤ bR) by have := HX.out.2.2; omega)
            have H8 := Lib.hid hd
            have hcr := laS_crash B false (false :: tl)
            rw [show laW B false (false :: tl) = 0 from rfl] at hcr
            obtain ⟨es, hes⟩ : ∃ es, ((firstR 0).map (Value.int .u8)).toArray = es := ⟨_, rfl⟩
            have hfc := first_cell 0 es hes
            have HC := Lib.hid (And.intro hcr (And.intro hes hfc))
            clear hd hcr hes hfc
            have hn0 : 0 < n2 := by have := HE.out.2.2.2.2.1; simp at this; omega
            have d5 : decide ((0 : Int) < (n2 : Int)) = true := by simp; omega
            obtain ⟨bK, oK, rfl, hcK⟩ := HE.out.2.2.2.2.2.1 (by simp)
            have xK0 := hcK 0 (by simp)
            have hbK : bK < w.heap.size := World.block_lt_of_cell? w _ xK0
            have xK := H8.out.2.1.cell xK0 (show ¬ (w.heap.size ≤ bK) by omega)
            simp only [List.getElem_cons_zero, Nat.add_zero] at xK
            clear xK0 hbK hcK
            gi_wp2
            refine ⟨trivial, ?_⟩
            refine (callsIn_wide.2 (dsk_read0 H8.out HE.out.1 HE.out.2.1 1 HC.out.1.1 (firstR 0) HC.out.1.2.1 es HC.out.2.1)).mono ?_
            rintro e w9 ⟨rfl, hg9⟩
            have H9 := Lib.hid (H8.out.grown hg9)
            clear hg9 xB
            have hz := HZ.out
            gi_upto_region 24 with (first
              | (refine wpListIn_store_row rfl 36 _ _ rfl w9.heap.size es rfl rfl 36 zs (heap_alloc_new w9 _) (by rw [HC.out.2.2.1]; kernel_rfl) (by rw [HC.out.2.2.1, HE.out.2.2.2.2.2.2]) HC.out.2.2.2.1 ?_)
              | gi_in)
            obtain ⟨pa, hpa⟩ : ∃ p, w9.heap.size = p := ⟨_, rfl⟩
            obtain ⟨Wa, hWa⟩ : ∃ W, (w9.alloc (.cells zs 36)).setRow pa es = W := ⟨_, rfl⟩
            have gWa : w9.grownBy Wa none := by rw [← hWa]; exact grown_row (World.grownBy_alloc _ _ none) (.inl (by omega)) _
            have bWa : Blk Wa pa 36 es := by rw [← hWa, ← hpa]; exact (Blk.new w9 _ _).row es
            have hpw : w.heap.size ≤ pa := by rw [← hpa]; exact H9.out.2.1.size
            have hab : pa ≠ d ∧ pa ≠ b ∧ pa ≠ m := by
              have h1 := H9.out.1.1.lt
              have h2 := H9.out.1.2.1.lt
              obtain ⟨D, h3, _⟩ := H9.out.1.2.2.1
              have h3 := h3.lt
              omega
            have HA := Lib.hid (And.intro (H9.out.grown gWa) (And.intro bWa hab))
            rw [hpa, hWa]
            clear gWa bWa hpa hWa hpw hab hz
            gi_wp2
            have hwa : b < Wa.heap.size := HA.out.1.1.2.1.lt
            obtain ⟨Wc, hWc⟩ : ∃ W, Wa.alloc (.cells #[.bool true, .bool true, .bool true] 4) = W := ⟨_, rfl⟩
            have hb3 := bools3 Wa 4
            have gWc : Wa.grownBy Wc none := by rw [← hWc]; exact World.grownBy_alloc _ _ none
            rw [hWc] at hb3 ⊢
            have HB3 := Lib.hid (And.intro hb3 (And.intro gWc hwa))
            clear hb3 gWc hwa hWc
            refine ⟨trivial, ?_⟩
            refine (callsIn_wide.2 (dsk_crash (HA.out.1.grown HB3.out.2.1) (some ⟨Wa.heap.size, 0, none⟩) 3 3 [true, true, true] rfl HB3.out.1 (fun a e _ => by injection e with e; subst e; have := HB3.out.2.2; show Wa.heap.size ≠ b; omega))).mono ?_
            rintro e w10 ⟨rfl, hd, ht⟩
            have H10 := Lib.hid (And.intro hd ((HA.out.2.1.grown HB3.out.2.1 (by simp)).kept ht (by have := HA.out.2.2; omega)))
            clear hd ht
            gi_wp2
            refine ⟨trivial, ?_⟩
            refine (callsIn_wide.2 (dsk_read0 H10.out.1 HE.out.1 HE.out.2.1 1 HC.out.1.2.2.1 (firstR 0) HC.out.1.2.2.2 es HC.out.2.1)).mono ?_
            rintro e w11 ⟨rfl, hg11⟩
            have H11 := Lib.hid (And.intro (H10.out.1.grown hg11) (H10.out.2.grown hg11 (by simp)))
            clear hg11
            have hz := HZ.out
            gi_upto_region 26 with (first
              | (refine wpListIn_store_row rfl 36 _ _ rfl w11.heap.size es rfl rfl 36 zs (heap_alloc_new w11 _) (by rw [HC.out.2.2.1]; kernel_rfl) (by rw [HC.out.2.2.1, HE.out.2.2.2.2.2.2]) HC.out.2.2.2.1 ?_)
              | gi_in)
            obtain ⟨pb, hpb⟩ : ∃ p, w11.heap.size = p := ⟨_, rfl⟩
            obtain ⟨Wb, hWb⟩ : ∃ W, (w11.alloc (.cells zs 36)).setRow pb es = W := ⟨_, rfl⟩
            have gWb : w11.grownBy Wb none := by rw [← hWb]; exact grown_row (World.grownBy_alloc _ _ none) (.inl (by omega)) _
            have bWb : Blk Wb pb 36 es := by rw [← hWb, ← hpb]; exact (Blk.new w11 _ _).row es
            have bWa : Blk Wb pa 36 es := H11.out.2.grown gWb (by simp)
            have xa := bWa.cell 0
            rw [HC.out.2.2.2.2] at xa
            have heq := eq_sec Wb 0 es HC.out.2.1
            have HF := Lib.hid (And.intro (H11.out.1.grown gWb) (And.intro bWa bWb))
            rw [hpb, hWb]
            clear gWb bWb bWa hpb hWb hz
            gi_wp2_with (first
              | (refine wpListIn_load_row_w (by rfl) 36 _ rfl pa rfl 36 es (0, 0) _ HF.out.2.1 Tryd.underlying36 rfl (by rw [HC.out.2.2.1]; kernel_rfl) ?_)
              | (refine wpListIn_load_row_w (by rfl) 36 _ rfl pb rfl 36 es (0, 0) _ HF.out.2.2 Tryd.underlying36 rfl (by rw [HC.out.2.2.1]; kernel_rfl) ?_)
              | gi_in)
            go_ret
            exact ⟨by simp, HF.out.1.grownNone⟩
end Go.Proofs.YtmecimhlnajaoaaDoor
