/-
  Several texts in one: EpC, PwEf.
-/
import Derived.Test.YtpdfkgmgmndcfaaGreatDoorM20L
import Derived.Test.YtpdfkgmgmndcfaaGreatDoorM20N
import Derived.Test.YtpdfkgmgmndcfaaGreatDoorM20G
/-
  The document's first block of an epoch; the chapter's example.
-/
namespace Go.Proofs.YtpdfkgmgmndcfaaGreatDoor
open Go.RowKit

def v1e : List Vd := [⟨key4 1, 1⟩]
theorem v1e_ok : keysOk v1e := by intro x hx; simp [v1e] at hx; rcases hx with rfl; rfl
theorem v1e_right : rightS v1e = true := by kernel_rfl
theorem v1e_row (w : World) : Sem.run Tryz.prog (Instr.buildSlice 22 1 #[(0, .agg (Vd.cells ⟨key4 1, 1⟩).toArray)]) w = .ok (.slice (some ⟨w.heap.size, 0, none⟩) 1 1) (w.alloc (.cells (v1e.flatMap Vd.cells).toArray 50)) := by kernel_rfl
theorem gr_cells {w : World} {b : Nat} {e : Int} {vs : Value} {G : Array Value} (hG : G.size = 16) {t : TypeId} (h : Blk w b t (grV e vs G)) : w.cell? ⟨b, 0, none⟩ = some (.int .i64 e) ∧ w.cell? ⟨b, 1, none⟩ = some vs ∧ w.rangeAt b 2 G.toList := by
  have r := range_blk0 h
  have e1 : (grV e vs G).toList = [.int .i64 e, vs] ++ (G.toList ++ []) := by simp [grV]
  rw [e1] at r
  refine ⟨by have := r 0 (.int .i64 e) rfl; simpa using this, by have := r 1 vs rfl; simpa using this, ?_⟩
  have := range_seg r
  simpa using this
set_option maxRecDepth 100000 in
set_option maxHeartbeats 1000000 in
theorem rgenesis_is (w : World) (a : Int) (D : Array Value) (hD : D.size = 16) (h1 : (D.all fun v => v.oneCell') = true) (cs : Array Value) (hcs : cs = genV a D) :
    Calls Tryz.prog 12 #[.int .i64 a, .agg D] w fun e w' => e = .returned (.agg cs) ∧ w.grownBy w' none := by
  obtain ⟨Z, hZ⟩ : ∃ Z, zBk = Z := ⟨_, rfl⟩
  have hz : ∀ w, Sem.run Tryz.prog (zeroValue 44) w = .ok (.agg Z) w := fun w => by rw [← hZ]; exact zbk_run w
  have HBB := Lib.hid (show ∀ w, Sem.run Tryz.prog (Instr.build 44 #[(0, .int .i64 a), (2, .agg D)]) w = .ok (.agg cs) w from fun w => by rw [hcs]; exact ep_bk_build w a D hD)
  have hcz : cs.size = 39 := by rw [hcs]; exact genV_size' a hD
  have hc1 : (cs.all fun v => v.oneCell') = true := by rw [hcs]; exact genV_one h1
  have hZz : Z.size = 39 := by rw [← hZ]; exact genV_size' 0 (by rw [zD16, arr_size]; rfl)
  obtain ⟨W1, hW1⟩ : ∃ W1, (w.alloc (.cells D 24)).alloc (.cells Z 44) = W1 := ⟨_, rfl⟩
  have g1 : w.grownBy W1 none := by rw [← hW1]; exact grown_trans (World.grownBy_alloc _ _ none) (World.grownBy_alloc _ _ none)
  have bd : Blk W1 w.heap.size 24 D := by rw [← hW1]; exact (Blk.new w _ _).alloc _
  have bz : Blk W1 (w.heap.size + 1) 44 Z := by
    have := Blk.new (w.alloc (.cells D 24)) 44 Z
    rw [← hW1]; simpa using this
  have HX := Lib.hid (And.intro (range_blk0 bd) (And.intro bz g1))
  have HS := Lib.hid (And.intro (show (Tryz.prog.info? 24).map (·.size) = some D.size by rw [hD]; exact sz_Dg) (And.intro (show (Tryz.prog.info? 44).map (·.size) = some cs.size by rw [hcz]; exact sz_Bke) (And.intro (show Z.size = cs.size by rw [hcz, hZz]) hc1)))
  have HW := Lib.hid hW1
  clear hcs hcz hc1 hZz hZ g1 bd bz hW1 hD h1
  go_enter Tryz.func12, Tryz.ntmps12
  go_upto_region 1 with (fail)
  rw [HW.out]
  go_wp2_with (first
    | (refine wpList_build_at (by rfl) 44 #[(0, Operand.tmp 5), (2, Operand.tmp 6)] rfl _ (by kernel_rfl) (.agg cs) (HBB.out _) ?_)
    | (refine wpList_load_mid rfl 24 _ rfl (w.heap.size) 0 rfl D.toList _ HX.out.1 Tryz.underlying24 rfl (by rw [Array.length_toList]; exact HS.out.1) ?_; rw [Array.toArray_toList])
    | (refine wpList_store_row rfl 44 _ _ rfl (w.heap.size + 1) cs rfl rfl 44 _ HX.out.2.1 (HS.out.2.1) (HS.out.2.2.1) HS.out.2.2.2 ?_))
  refine bodyPost_ret (results_cell_e rfl _ _ _ ⟨w.heap.size + 1, 0, none⟩ (.agg cs) rfl (run_loadVar_row _ (w.heap.size + 1) 44 44 _ (0, 0) _ (HX.out.2.1.row _) Tryz.underlying44 rfl HS.out.2.1)) rfl ?_
  exact ⟨rfl, grown_row HX.out.2.2 (.inl (by omega)) _⟩
set_option maxRecDepth 100000 in
set_option maxHeartbeats 2000000 in
theorem alive20 (w : World) (E : Nat → Addr) (hR : Rounds w) (he : ErrAt w w.heap.size 1 (E 0)) (es : Addr) (hes : ErrAt w w.heap.size 11 es) :
    Calls Tryz.prog 4 #[] w fun e w' => e = .returned (.bool true) ∧ w.grownBy w' none := by
  obtain ⟨GZ, hGZ⟩ : ∃ Z, zGr = Z := ⟨_, rfl⟩
  have hgz : ∀ w, Sem.run Tryz.prog (zeroValue 26) w = .ok (.agg GZ) w := fun w => by rw [← hGZ]; exact zgr_run w
  obtain ⟨D, hD⟩ : ∃ Z, zD16 = Z := ⟨_, rfl⟩
  have hz : ∀ w, Sem.run Tryz.prog (zeroValue 24) w = .ok (.agg D) w := fun w => by rw [← hD]; exact z16run w
  have hD16 : D.size = 16 := by rw [← hD, zD16, arr_size]; rfl
  have hD1 : (D.all fun v => v.oneCell') = true := by rw [← hD]; exact arr_one _ _
  obtain ⟨dv, hdv⟩ : ∃ dv, arrV .u8 (idD (genB 1 (List.replicate 16 0))) = dv := ⟨_, rfl⟩
  have hd16 : dv.size = 16 := by rw [← hdv, arr_size, idD_length]
  have hd1 : (dv.all fun v => v.oneCell') = true := by rw [← hdv]; exact arr_one _ _
  have heq : ∀ V, Sem.run Tryz.prog (Op.equalIn 10000 24 (.agg dv) (.agg dv)) V = .ok true V := fun V => by
    rw [← hdv, eqD V _ _ (idD_length _) (idD_length _)]; simp
  have hGs : GZ.size = 18 := by rw [← hGZ]; exact grV_size (by rw [zD16, arr_size]; rfl)
  obtain ⟨cs, hcs⟩ : ∃ cs, genV 1 D = cs := ⟨_, rfl⟩
  obtain ⟨X1, hX1⟩ : ∃ X, X = arrV .u8 (key4 1) := ⟨_, rfl⟩
  obtain ⟨Y1, hY1⟩ : ∃ Y, Y = (Vd.cells ⟨key4 1, 1⟩).toArray := ⟨_, rfl⟩
  obtain ⟨p, hp⟩ : ∃ p, w.heap.size = p := ⟨_, rfl⟩
  obtain ⟨W1, hW1⟩ : ∃ W1, w.alloc (.cells (v1e.flatMap Vd.cells).toArray 50) = W1 := ⟨_, rfl⟩
  have HB1 := Lib.hid (show ∀ w, Sem.run Tryz.prog (Instr.build 24 #[(0, .int .u8 1)]) w = .ok (.agg X1) w from fun w => by rw [hX1]; exact key_run w 1)
  have HBV := Lib.hid (show ∀ w, Sem.run Tryz.prog (Instr.build 50 #[(0, .agg X1), (1, .int .i64 1)]) w = .ok (.agg Y1) w from fun w => by rw [hX1, hY1]; exact vd_run w 1 1)
  have HBR := Lib.hid (show Sem.run Tryz.prog (Instr.buildSlice 22 1 #[(0, .agg Y1)]) w = .ok (.slice (some ⟨p, 0, none⟩) 1 1) W1 by rw [hY1, ← hW1, ← hp]; exact v1e_row w)
  have g1 : w.grownBy W1 none := by rw [← hW1]; exact World.grownBy_alloc _ _ none
  have hV1 : VdsAt W1 (some ⟨p, 0, none⟩) v1e := by rw [← hW1, ← hp]; exact vds_new w v1e v1e_ok _
  have HF := Lib.hid (first_is W1 E (hR.grown g1 (by simp)) ⟨g1.cell he.1 (by simp), by have := he.2; have := g1.size; omega⟩ es ⟨g1.cell hes.1 (by simp), by have := hes.2; have := g1.size; omega⟩ (some ⟨p, 0, none⟩) 1 1 v1e rfl hV1 v1e_ok (by omega))
  have HRG := Lib.hid (fun W : World => rgenesis_is W 1 D hD16 hD1 cs hcs.symm)
  have HRI := Lib.hid (fun W : World => rid_gen W 1 (by omega) (by omega) (List.replicate 16 0) zD_dig cs (by rw [← hcs, ← hD]; rfl) dv hdv.symm)
  have HX := Lib.hid g1
  have HS := Lib.hid (And.intro (show (Tryz.prog.info? 24).map (·.size) = some dv.size by rw [hd16]; exact sz_Dg) (And.intro (show D.size = dv.size by rw [hd16, hD16]) (And.intro hd1 (And.intro hd16 (And.intro hdv hGs)))))
  clear he hes hR hGZ hD hD16 hD1 hd16 hd1 hdv hGs hcs hX1 hY1 hW1 hV1 g1 hp
  go_enter Tryz.func4, Tryz.ntmps4
  go_wp2_with (first
    | (refine wpList_build_at (by rfl) 24 #[(0, Operand.const (Value.int .u8 1))] rfl _ (by kernel_rfl) (.agg X1) (HB1.out _) ?_)
    | (refine wpList_build_at (by rfl) 50 #[(0, Operand.tmp 6), (1, Operand.const (Value.int .i64 1))] rfl _ (by kernel_rfl) (.agg Y1) (HBV.out _) ?_)
    | (refine wpList_row_at (by rfl) 22 1 #[(0, Operand.tmp 7)] rfl _ (by kernel_rfl) _ _ HBR.out ?_))
  refine HF.out.mono ?_
  rintro e w2 ⟨g2, ⟨_, A', c', rfl, hown⟩ | ⟨hr, _⟩⟩
  · obtain ⟨gv, hgv⟩ : ∃ gv, grV 1 (.slice A' 1 c') dv = gv := ⟨_, rfl⟩
    rw [HS.out.2.2.2.2.1, hgv]
    have hgs : gv.size = 18 := by rw [← hgv]; exact grV_size HS.out.2.2.2.1
    obtain ⟨q, hq⟩ : ∃ q, w2.heap.size = q := ⟨_, rfl⟩
    obtain ⟨W3, hW3⟩ : ∃ W3, (w2.alloc (.cells GZ 26)).setRow q gv = W3 := ⟨_, rfl⟩
    have bn : Blk (w2.alloc (.cells GZ 26)) q 26 GZ := by rw [← hq]; exact Blk.new w2 26 GZ
    have b3 : Blk W3 q 26 gv := by rw [← hW3]; exact bn.row _
    have g3 : w2.grownBy W3 none := by rw [← hW3]; exact grown_row (World.grownBy_alloc _ _ none) (.inl (by rw [hq]; exact Nat.le_refl _)) _
    have H3 := Lib.hid (And.intro bn (And.intro hW3 (And.intro b3 (And.intro (grown_trans HX.out (grown_trans g2 g3)) (And.intro hgv (And.intro (show (Tryz.prog.info? 26).map (·.size) = some gv.size by rw [hgs]; exact sz_Gre) (And.intro (show GZ.size = gv.size by rw [hgs, HS.out.2.2.2.2.2]) (show (gv.all fun v => v.oneCell') = true by rw [← hgv]; exact grV_one HS.out.2.2.1))))))))
    clear bn hW3 b3 g3 g2 hgv hgs hown
    go_upto_region 2 with (refine wpList_store_row rfl 26 _ _ rfl (q) gv rfl rfl 26 _ H3.out.1 (H3.out.2.2.2.2.2.1) (H3.out.2.2.2.2.2.2.1) H3.out.2.2.2.2.2.2.2 ?_)
    rw [H3.out.2.1]
    clear hq
    go_wp2_with fail
    refine (HRG.out W3).mono ?_
    rintro e w4 ⟨rfl, g4⟩
    have H4 := Lib.hid g4
    clear g4
    go_wp2_with fail
    refine (HRI.out w4).mono ?_
    rintro e w5 ⟨rfl, g5⟩
    obtain ⟨q5, hq5⟩ : ∃ q, w5.heap.size = q := ⟨_, rfl⟩
    obtain ⟨W6, hW6⟩ : ∃ W6, (w5.alloc (.cells D 24)).setRow q5 dv = W6 := ⟨_, rfl⟩
    have bn : Blk (w5.alloc (.cells D 24)) q5 24 D := by rw [← hq5]; exact Blk.new w5 24 D
    have b6 : Blk W6 q5 24 dv := by rw [← hW6]; exact bn.row _
    have g6 : w5.grownBy W6 none := by rw [← hW6]; exact grown_row (World.grownBy_alloc _ _ none) (.inl (by rw [hq5]; exact Nat.le_refl _)) _
    have g36 := grown_trans H4.out (grown_trans g5 g6)
    have bg : Blk W6 q 26 (grV 1 (.slice A' 1 c') dv) := by rw [H3.out.2.2.2.2.1]; exact H3.out.2.2.1.grown g36 (by simp)
    obtain ⟨k0, k1, k2⟩ := gr_cells HS.out.2.2.2.1 bg
    have H6 := Lib.hid (And.intro bn (And.intro hW6 (And.intro k2 (And.intro (range_blk0 b6) (grown_trans H3.out.2.2.2.1 g36)))))
    clear bn hW6 b6 g6 g36 g5 bg k2
    go_upto_region 3 with (refine wpList_store_row rfl 24 _ _ rfl (q5) dv rfl rfl 24 _ H6.out.1 (HS.out.1) (HS.out.2.1) HS.out.2.2.1 ?_)
    rw [H6.out.2.1]
    clear hq5
    go_wp2_with (first
      | (refine wpList_load_mid_want (by rfl) 24 _ rfl (q) 2 rfl dv.toList _ H6.out.2.2.1 Tryz.underlying24 rfl (by rw [Array.length_toList]; exact HS.out.1) ?_; rw [Array.toArray_toList])
      | (refine wpList_load_mid_want (by rfl) 24 _ rfl (q5) 0 rfl dv.toList _ H6.out.2.2.2.1 Tryz.underlying24 rfl (by rw [Array.length_toList]; exact HS.out.1) ?_; rw [Array.toArray_toList]))
    go_ret
    exact ⟨rfl, H6.out.2.2.2.2⟩
  · rw [v1e_right] at hr
    exact absurd hr (by simp)
end Go.Proofs.YtpdfkgmgmndcfaaGreatDoor
/-
  slices.Equal over validators; powers.Same and the document's.
-/

namespace Go.Proofs.YtpdfkgmgmndcfaaGreatDoor
open Go.RowKit

set_option maxRecDepth 100000 in
set_option maxHeartbeats 1000000 in
theorem rsame_is (w : World) (A1 A2 : Option Addr) (c1 c2 : Nat) (V U : List Vd) (hV : VdsAt w A1 V) (hU : VdsAt w A2 U) (okV : keysOk V) (okU : keysOk U) (hl : V.length < 1000) :
    Calls Tryz.prog 18 #[.slice A1 V.length c1, .slice A2 U.length c2] w fun e w' => e = .returned (.bool (sameS V U)) ∧ w.grownBy w' none := by
  by_cases hn : V.length = U.length
  · rw [← hn]
    have HL := Lib.hid hn
    clear hn
    go_enter Tryz.func18, Tryz.ntmps18
    go_wp2_with fail
    go_loopw [13] (fun i wr => ∃ k : Nat, k ≤ V.length ∧ i = .int .i64 (k : Int) ∧ (∀ j (h1 : j < V.length) (h2 : j < U.length), j < k → V[j].key = U[j].key ∧ V[j].p = U[j].p) ∧ w.grownBy wr none) (fun i _ => V.length - (intOf i).toNat)
    case atStart => exact ⟨0, by omega, rfl, fun j _ _ h => absurd h (by omega), World.grownBy.refl w none⟩
    case round =>
      obtain ⟨k, hkl, hi, hno, hK⟩ := hrel
      obtain ⟨I, hI⟩ : ∃ I : Int, I = (k : Int) := ⟨_, rfl⟩
      rw [← hI] at hi
      subst hi
      by_cases hlt : k < V.length
      · have hn := HL.out
        have hlt2 : k < U.length := by omega
        obtain ⟨b1, off1, rfl, hc1⟩ := hV (by rintro rfl; simp at hlt)
        obtain ⟨b2, off2, rfl, hc2⟩ := hU (by rintro rfl; simp at hlt2)
        have d1 : decide (I < (V.length : Int)) = true := by simp; omega
        have hIV : I < (V.length : Int) := by omega
        have hI0 : 0 ≤ I ∧ I < 1000 := by omega
        have hkI : I.toNat = k := by omega
        have r1 := range_kept (hc1 k hlt) hK
        have r2 := range_kept (hc2 k hlt2) hK
        have hx := okV _ (List.getElem_mem hlt)
        have hy := okU _ (List.getElem_mem hlt2)
        obtain ⟨x, hxe⟩ : ∃ x, x = V[k] := ⟨_, rfl⟩
        obtain ⟨y, hye⟩ : ∃ y, y = U[k] := ⟨_, rfl⟩
        rw [← hxe] at r1 hx
        rw [← hye] at r2 hy
        rw [← hkI] at r1 r2
        have p1 := vd_power hx r1
        have p2 := vd_power hy r2
        have q1 := vd_range r1
        have q2 := vd_range r2
        have heq : ∀ w, Sem.run Tryz.prog (Op.equalIn 10000 24 (.agg (arrV .u8 x.key)) (.agg (arrV .u8 y.key))) w = .ok (decide (x.key = y.key)) w := fun w => eqD w x.key y.key hx hy
        obtain ⟨px, hpx⟩ : ∃ px, px = x.p := ⟨_, rfl⟩
        obtain ⟨py, hpy⟩ : ∃ py, py = y.p := ⟨_, rfl⟩
        rw [← hpx] at p1
        rw [← hpy] at p2
        obtain ⟨r, hr⟩ : ∃ r, r = decide (x.key = y.key) := ⟨_, rfl⟩
        rw [← hr] at heq
        have i1 := keySize hx
        have i2 := keySize hy
        obtain ⟨cx, hcx⟩ : ∃ cx, cx = x.key.map (Value.int .u8) := ⟨_, rfl⟩
        obtain ⟨cy, hcy⟩ : ∃ cy, cy = y.key.map (Value.int .u8) := ⟨_, rfl⟩
        unfold arrV at heq
        rw [← hcx] at q1 i1 heq
        rw [← hcy] at q2 i2 heq
        have HR := Lib.hid (And.intro q1 q2)
        have HI := Lib.hid (And.intro i1 i2)
        have HN := Lib.hid (And.intro hno (And.intro hK (And.intro hl (And.intro hI hn))))
        have HX := Lib.hid (show ∃ (h1 : k < V.length) (h2 : k < U.length), r = (decide (V[k].key = U[k].key)) ∧ px = V[k].p ∧ py = U[k].p from ⟨hlt, hlt2, by rw [hr, hxe, hye], by rw [hpx, hxe], by rw [hpy, hye]⟩)
        clear r1 r2 q1 q2 i1 i2 hxe hye hx hy hno hc1 hc2 okV okU hK hV hU hkl hl hI hkI hn hlt hlt2 hcx hcy hr hpx hpy
        go_wp2_with fail
        cases r with
        | true =>
          refine wp_region_quiet_lit (by kernel_rfl) (by kernel_rfl) ?_
          repeat (first
            | go_big_quiet_skip
            | (go_big_quiet_want; first
                | (refine quiet_load_mid 24 _ rfl b1 (off1 + I.toNat * 17) rfl cx _ (fun W hW => by obtain ⟨n, rfl⟩ := hW; exact HR.out.1) Tryz.underlying24 rfl HI.out.1 ?_; simp only [Act.put, List.setIfInBounds_toArray, List.set_cons_zero, List.set_cons_succ]; go_big_quiet_on)
                | (refine quiet_load_mid 24 _ rfl b2 (off2 + I.toNat * 17) rfl cy _ (fun W hW => by obtain ⟨n, rfl⟩ := hW; exact HR.out.2) Tryz.underlying24 rfl HI.out.2 ?_; simp only [Act.put, List.setIfInBounds_toArray, List.set_cons_zero, List.set_cons_succ]; go_big_quiet_on)
                | (go_big_quiet_op; go_big_quiet_on)))
          refine wpQuiet_nil ?_
          intro W hW
          obtain ⟨n, rfl⟩ := hW
          by_cases hp : px = py
          · have hp' : (px != py) = false := by simpa using hp
            have HP := Lib.hid hp
            clear hp
            go_wp2_with fail
            go_roundw
            case rel =>
              obtain ⟨n1, n2, n3, n4, n5⟩ := HN.out
              obtain ⟨x1, x2, x3, x4, x5⟩ := HX.out
              have := HP.out
              refine ⟨k + 1, by omega, by rw [n4]; rfl, fun j h1 h2 hjk => ?_, ⟨n2.os, n2.tape, n2.output, n2.size, n2.block⟩⟩
              by_cases hjk' : j < k
              · exact n1 j h1 h2 hjk'
              · obtain rfl : j = k := by omega
                exact ⟨by simpa using x3.symm, by rw [← x4, ← x5, this]⟩
            case measure => obtain ⟨n1, n2, n3, n4, n5⟩ := HN.out; obtain ⟨x1, x2, x3⟩ := HX.out; simp [intOf]; omega
          · have hp' : (px != py) = true := by simpa using hp
            have HP := Lib.hid hp
            clear hp
            go_wp2_with fail
            go_ret
            obtain ⟨n1, n2, n3, n4, n5⟩ := HN.out
            obtain ⟨x1, x2, x3, x4, x5⟩ := HX.out
            refine ⟨?_, ⟨n2.os, n2.tape, n2.output, n2.size, n2.block⟩⟩
            rw [sameS_not x1 x2 (by rintro ⟨e1, e2⟩; exact HP.out (by rw [x4, x5, e2]))]
            rfl
        | false =>
          refine wp_region_quiet_lit (by kernel_rfl) (by kernel_rfl) ?_
          repeat (first
            | go_big_quiet_skip
            | (go_big_quiet_want; first
                | (refine quiet_load_mid 24 _ rfl b1 (off1 + I.toNat * 17) rfl cx _ (fun W hW => by obtain ⟨n, rfl⟩ := hW; exact HR.out.1) Tryz.underlying24 rfl HI.out.1 ?_; simp only [Act.put, List.setIfInBounds_toArray, List.set_cons_zero, List.set_cons_succ]; go_big_quiet_on)
                | (refine quiet_load_mid 24 _ rfl b2 (off2 + I.toNat * 17) rfl cy _ (fun W hW => by obtain ⟨n, rfl⟩ := hW; exact HR.out.2) Tryz.underlying24 rfl HI.out.2 ?_; simp only [Act.put, List.setIfInBounds_toArray, List.set_cons_zero, List.set_cons_succ]; go_big_quiet_on)
                | (go_big_quiet_op; go_big_quiet_on)))
          refine wpQuiet_nil ?_
          intro W hW
          obtain ⟨n, rfl⟩ := hW
          go_wp2_with fail
          go_ret
          obtain ⟨n1, n2, n3, n4, n5⟩ := HN.out
          obtain ⟨x1, x2, x3, x4, x5⟩ := HX.out
          refine ⟨?_, ⟨n2.os, n2.tape, n2.output, n2.size, n2.block⟩⟩
          rw [sameS_not x1 x2 (by rintro ⟨e1, e2⟩; simp [e1] at x3)]
          rfl
      · have d1 : decide (I < (V.length : Int)) = false := by simp; omega
        have hs : sameS V U = true := sameS_all HL.out fun j h1 h2 => hno j h1 h2 (by omega)
        have HN := Lib.hid (And.intro hs hK)
        clear hno hkl hI hlt hs hK
        go_wp2_with fail
        go_ret
        exact ⟨by rw [HN.out.1]; rfl, HN.out.2⟩
  · have d0 : ((V.length : Int) != (U.length : Int)) = true := by simp; omega
    rw [sameS_len hn]
    clear hn
    go_enter Tryz.func18, Tryz.ntmps18
    go_wp2_with fail
    go_ret
    exact ⟨rfl, World.grownBy.refl w none⟩
end Go.Proofs.YtpdfkgmgmndcfaaGreatDoor
