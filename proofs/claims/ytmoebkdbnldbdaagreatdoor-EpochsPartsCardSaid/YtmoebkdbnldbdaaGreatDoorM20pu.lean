/-
  Several texts in one: EpC, PwEf, EpG, Err.
-/
import Derived.Test.YtmoebkdbnldbdaaGreatDoorM20ps
import Derived.Test.YtmoebkdbnldbdaaGreatDoorM20pt
import Derived.Test.YtmoebkdbnldbdaaGreatDoorM20pq
import Derived.Test.YtmoebkdbnldbdaaGreatDoorM20pa
import Derived.LaidEql
import Derived.Stop.Asserts
import Derived.RowKitTokens
/-
  The document's first block of an epoch; the chapter's example.
-/
namespace Go.Proofs.YtmoebkdbnldbdaaGreatDoor
open Go.RowKit

def v1e : List Vd := [⟨key4 1, 1⟩]
theorem v1e_ok : keysOk v1e := by intro x hx; simp [v1e] at hx; rcases hx with rfl; rfl
theorem v1e_right : rightS v1e = true := by kernel_rfl
theorem v1e_row (w : World) : Sem.run Tryz.prog (Instr.buildSlice 22 1 #[(0, .agg (Vd.cells ⟨key4 1, 1⟩).toArray)]) w = .ok (.slice (some ⟨w.heap.size, 0, none⟩) 1 1) (w.alloc (.cells (v1e.flatMap Vd.cells).toArray 41)) := by kernel_rfl
theorem gr_cells {w : World} {b : Nat} {e : Int} {vs : Value} {G : Array Value} (hG : G.size = 16) {t : TypeId} (h : Blk w b t (grV e vs G)) : w.cell? ⟨b, 0, none⟩ = some (.int .i64 e) ∧ w.cell? ⟨b, 1, none⟩ = some vs ∧ w.rangeAt b 2 G.toList := by
  have r := range_blk0 h
  have e1 : (grV e vs G).toList = [.int .i64 e, vs] ++ (G.toList ++ []) := by simp [grV]
  rw [e1] at r
  refine ⟨by have := r 0 (.int .i64 e) rfl; simpa using this, by have := r 1 vs rfl; simpa using this, ?_⟩
  have := range_seg r
  simpa using this
set_option maxRecDepth 100000 in
set_option maxHeartbeats 1000000 in
theorem rgenesis_is (w : World) (a : Int) (D : Array Value) (hD : D.size = 16) (h1 : (D.all fun v => v.oneCell') = true) (cs : Array Value) (hcs : cs = genV a D) :
    Calls Tryz.prog 10 #[.int .i64 a, .agg D] w fun e w' => e = .returned (.agg cs) ∧ w.grownBy w' none := by
  obtain ⟨Z, hZ⟩ : ∃ Z, zBk = Z := ⟨_, rfl⟩
  have hz : ∀ w, Sem.run Tryz.prog (zeroValue 49) w = .ok (.agg Z) w := fun w => by rw [← hZ]; exact zbk_run w
  have HBB := Lib.hid (show ∀ w, Sem.run Tryz.prog (Instr.build 49 #[(0, .int .i64 a), (2, .agg D)]) w = .ok (.agg cs) w from fun w => by rw [hcs]; exact ep_bk_build w a D hD)
  have hcz : cs.size = 39 := by rw [hcs]; exact genV_size' a hD
  have hc1 : (cs.all fun v => v.oneCell') = true := by rw [hcs]; exact genV_one h1
  have hZz : Z.size = 39 := by rw [← hZ]; exact genV_size' 0 (by rw [zD16, arr_size]; rfl)
  obtain ⟨W1, hW1⟩ : ∃ W1, (w.alloc (.cells D 24)).alloc (.cells Z 49) = W1 := ⟨_, rfl⟩
  have g1 : w.grownBy W1 none := by rw [← hW1]; exact grown_trans (World.grownBy_alloc _ _ none) (World.grownBy_alloc _ _ none)
  have bd : Blk W1 w.heap.size 24 D := by rw [← hW1]; exact (Blk.new w _ _).alloc _
  have bz : Blk W1 (w.heap.size + 1) 49 Z := by
    have := Blk.new (w.alloc (.cells D 24)) 49 Z
    rw [← hW1]; simpa using this
  have HX := Lib.hid (And.intro (range_blk0 bd) (And.intro bz g1))
  have HS := Lib.hid (And.intro (show (Tryz.prog.info? 24).map (·.size) = some D.size by rw [hD]; exact sz_Dg) (And.intro (show (Tryz.prog.info? 49).map (·.size) = some cs.size by rw [hcz]; exact sz_Bke) (And.intro (show Z.size = cs.size by rw [hcz, hZz]) hc1)))
  have HW := Lib.hid hW1
  clear hcs hcz hc1 hZz hZ g1 bd bz hW1 hD h1
  go_enter Tryz.func10, Tryz.ntmps10
  go_upto_region 1 with (fail)
  rw [HW.out]
  go_wp2_with (first
    | (refine wpList_build_at (by rfl) 49 #[(0, Operand.tmp 5), (2, Operand.tmp 6)] rfl _ (by kernel_rfl) (.agg cs) (HBB.out _) ?_)
    | (refine wpList_load_mid rfl 24 _ rfl (w.heap.size) 0 rfl D.toList _ HX.out.1 Tryz.underlying24 rfl (by rw [Array.length_toList]; exact HS.out.1) ?_; rw [Array.toArray_toList])
    | (refine wpList_store_row rfl 49 _ _ rfl (w.heap.size + 1) cs rfl rfl 49 _ HX.out.2.1 (HS.out.2.1) (HS.out.2.2.1) HS.out.2.2.2 ?_))
  refine bodyPost_ret (results_cell_e rfl _ _ _ ⟨w.heap.size + 1, 0, none⟩ (.agg cs) rfl (run_loadVar_row _ (w.heap.size + 1) 49 49 _ (0, 0) _ (HX.out.2.1.row _) Tryz.underlying49 rfl HS.out.2.1)) rfl ?_
  exact ⟨rfl, grown_row HX.out.2.2 (.inl (by omega)) _⟩
set_option maxRecDepth 100000 in
set_option maxHeartbeats 2000000 in
theorem alive20 (w : World) (E : Nat → Addr) (hR : Rounds w) (he : ErrAt w w.heap.size 1 (E 0)) (es : Addr) (hes : ErrAt w w.heap.size 10 es) :
    Calls Tryz.prog 4 #[] w fun e w' => e = .returned (.bool true) ∧ w.grownBy w' none := by
  obtain ⟨GZ, hGZ⟩ : ∃ Z, zGr = Z := ⟨_, rfl⟩
  have hgz : ∀ w, Sem.run Tryz.prog (zeroValue 26) w = .ok (.agg GZ) w := fun w => by rw [← hGZ]; exact zgr_run w
  obtain ⟨D, hD⟩ : ∃ Z, zD16 = Z := ⟨_, rfl⟩
  have hz : ∀ w, Sem.run Tryz.prog (zeroValue 24) w = .ok (.agg D) w := fun w => by rw [← hD]; exact z16run w
  have hD16 : D.size = 16 := by rw [← hD, zD16, arr_size]; rfl
  have hD1 : (D.all fun v => v.oneCell') = true := by rw [← hD]; exact arr_one _ _
  obtain ⟨dv, hdv⟩ : ∃ dv, arrV .u8 (idD (genB 1 (List.replicate 16 0))) = dv := ⟨_, rfl⟩
  have hd16 : dv.size = 16 := by rw [← hdv, arr_size, idD_length]
  have hd1 : (dv.all fun v => v.oneCell') = true := by rw [← hdv]; exact arr_one _ _
  have heq : ∀ V, Sem.run Tryz.prog (Op.equalIn 10000 24 (.agg dv) (.agg dv)) V = .ok true V := fun V => by
    rw [← hdv, eqD V _ _ (idD_length _) (idD_length _)]; simp
  have hGs : GZ.size = 18 := by rw [← hGZ]; exact grV_size (by rw [zD16, arr_size]; rfl)
  obtain ⟨cs, hcs⟩ : ∃ cs, genV 1 D = cs := ⟨_, rfl⟩
  obtain ⟨X1, hX1⟩ : ∃ X, X = arrV .u8 (key4 1) := ⟨_, rfl⟩
  obtain ⟨Y1, hY1⟩ : ∃ Y, Y = (Vd.cells ⟨key4 1, 1⟩).toArray := ⟨_, rfl⟩
  obtain ⟨p, hp⟩ : ∃ p, w.heap.size = p := ⟨_, rfl⟩
  obtain ⟨W1, hW1⟩ : ∃ W1, w.alloc (.cells (v1e.flatMap Vd.cells).toArray 41) = W1 := ⟨_, rfl⟩
  have HB1 := Lib.hid (show ∀ w, Sem.run Tryz.prog (Instr.build 24 #[(0, .int .u8 1)]) w = .ok (.agg X1) w from fun w => by rw [hX1]; exact key_run w 1)
  have HBV := Lib.hid (show ∀ w, Sem.run Tryz.prog (Instr.build 41 #[(0, .agg X1), (1, .int .i64 1)]) w = .ok (.agg Y1) w from fun w => by rw [hX1, hY1]; exact vd_run w 1 1)
  have HBR := Lib.hid (show Sem.run Tryz.prog (Instr.buildSlice 22 1 #[(0, .agg Y1)]) w = .ok (.slice (some ⟨p, 0, none⟩) 1 1) W1 by rw [hY1, ← hW1, ← hp]; exact v1e_row w)
  have g1 : w.grownBy W1 none := by rw [← hW1]; exact World.grownBy_alloc _ _ none
  have hV1 : VdsAt W1 (some ⟨p, 0, none⟩) v1e := by rw [← hW1, ← hp]; exact vds_new w v1e v1e_ok _
  have HF := Lib.hid (first_is W1 E (hR.grown g1 (by simp)) ⟨g1.cell he.1 (by simp), by have := he.2; have := g1.size; omega⟩ es ⟨g1.cell hes.1 (by simp), by have := hes.2; have := g1.size; omega⟩ (some ⟨p, 0, none⟩) 1 1 v1e rfl hV1 v1e_ok (by omega))
  have HRG := Lib.hid (fun W : World => rgenesis_is W 1 D hD16 hD1 cs hcs.symm)
  have HRI := Lib.hid (fun W : World => rid_gen W 1 (by omega) (by omega) (List.replicate 16 0) zD_dig cs (by rw [← hcs, ← hD]; rfl) dv hdv.symm)
  have HX := Lib.hid g1
  have HS := Lib.hid (And.intro (show (Tryz.prog.info? 24).map (·.size) = some dv.size by rw [hd16]; exact sz_Dg) (And.intro (show D.size = dv.size by rw [hd16, hD16]) (And.intro hd1 (And.intro hd16 (And.intro hdv hGs)))))
  clear he hes hR hGZ hD hD16 hD1 hd16 hd1 hdv hGs hcs hX1 hY1 hW1 hV1 g1 hp
  go_enter Tryz.func4, Tryz.ntmps4
  go_wp2_with (first
    | (refine wpList_build_at (by rfl) 24 #[(0, Operand.const (Value.int .u8 1))] rfl _ (by kernel_rfl) (.agg X1) (HB1.out _) ?_)
    | (refine wpList_build_at (by rfl) 41 #[(0, Operand.tmp 6), (1, Operand.const (Value.int .i64 1))] rfl _ (by kernel_rfl) (.agg Y1) (HBV.out _) ?_)
    | (refine wpList_row_at (by rfl) 22 1 #[(0, Operand.tmp 7)] rfl _ (by kernel_rfl) _ _ HBR.out ?_))
  refine HF.out.mono ?_
  rintro e w2 ⟨g2, ⟨_, A', c', rfl, hown⟩ | ⟨hr, _⟩⟩
  · obtain ⟨gv, hgv⟩ : ∃ gv, grV 1 (.slice A' 1 c') dv = gv := ⟨_, rfl⟩
    rw [HS.out.2.2.2.2.1, hgv]
    have hgs : gv.size = 18 := by rw [← hgv]; exact grV_size HS.out.2.2.2.1
    obtain ⟨q, hq⟩ : ∃ q, w2.heap.size = q := ⟨_, rfl⟩
    obtain ⟨W3, hW3⟩ : ∃ W3, (w2.alloc (.cells GZ 26)).setRow q gv = W3 := ⟨_, rfl⟩
    have bn : Blk (w2.alloc (.cells GZ 26)) q 26 GZ := by rw [← hq]; exact Blk.new w2 26 GZ
    have b3 : Blk W3 q 26 gv := by rw [← hW3]; exact bn.row _
    have g3 : w2.grownBy W3 none := by rw [← hW3]; exact grown_row (World.grownBy_alloc _ _ none) (.inl (by rw [hq]; exact Nat.le_refl _)) _
    have H3 := Lib.hid (And.intro bn (And.intro hW3 (And.intro b3 (And.intro (grown_trans HX.out (grown_trans g2 g3)) (And.intro hgv (And.intro (show (Tryz.prog.info? 26).map (·.size) = some gv.size by rw [hgs]; exact sz_Gre) (And.intro (show GZ.size = gv.size by rw [hgs, HS.out.2.2.2.2.2]) (show (gv.all fun v => v.oneCell') = true by rw [← hgv]; exact grV_one HS.out.2.2.1))))))))
    clear bn hW3 b3 g3 g2 hgv hgs hown
    go_upto_region 2 with (refine wpList_store_row rfl 26 _ _ rfl (q) gv rfl rfl 26 _ H3.out.1 (H3.out.2.2.2.2.2.1) (H3.out.2.2.2.2.2.2.1) H3.out.2.2.2.2.2.2.2 ?_)
    rw [H3.out.2.1]
    clear hq
    go_wp2_with fail
    refine (HRG.out W3).mono ?_
    rintro e w4 ⟨rfl, g4⟩
    have H4 := Lib.hid g4
    clear g4
    go_wp2_with fail
    refine (HRI.out w4).mono ?_
    rintro e w5 ⟨rfl, g5⟩
    obtain ⟨q5, hq5⟩ : ∃ q, w5.heap.size = q := ⟨_, rfl⟩
    obtain ⟨W6, hW6⟩ : ∃ W6, (w5.alloc (.cells D 24)).setRow q5 dv = W6 := ⟨_, rfl⟩
    have bn : Blk (w5.alloc (.cells D 24)) q5 24 D := by rw [← hq5]; exact Blk.new w5 24 D
    have b6 : Blk W6 q5 24 dv := by rw [← hW6]; exact bn.row _
    have g6 : w5.grownBy W6 none := by rw [← hW6]; exact grown_row (World.grownBy_alloc _ _ none) (.inl (by rw [hq5]; exact Nat.le_refl _)) _
    have g36 := grown_trans H4.out (grown_trans g5 g6)
    have bg : Blk W6 q 26 (grV 1 (.slice A' 1 c') dv) := by rw [H3.out.2.2.2.2.1]; exact H3.out.2.2.1.grown g36 (by simp)
    obtain ⟨k0, k1, k2⟩ := gr_cells HS.out.2.2.2.1 bg
    have H6 := Lib.hid (And.intro bn (And.intro hW6 (And.intro k2 (And.intro (range_blk0 b6) (grown_trans H3.out.2.2.2.1 g36)))))
    clear bn hW6 b6 g6 g36 g5 bg k2
    go_upto_region 3 with (refine wpList_store_row rfl 24 _ _ rfl (q5) dv rfl rfl 24 _ H6.out.1 (HS.out.1) (HS.out.2.1) HS.out.2.2.1 ?_)
    rw [H6.out.2.1]
    clear hq5
    go_wp2_with (first
      | (refine wpList_load_mid_want (by rfl) 24 _ rfl (q) 2 rfl dv.toList _ H6.out.2.2.1 Tryz.underlying24 rfl (by rw [Array.length_toList]; exact HS.out.1) ?_; rw [Array.toArray_toList])
      | (refine wpList_load_mid_want (by rfl) 24 _ rfl (q5) 0 rfl dv.toList _ H6.out.2.2.2.1 Tryz.underlying24 rfl (by rw [Array.length_toList]; exact HS.out.1) ?_; rw [Array.toArray_toList]))
    go_ret
    exact ⟨rfl, H6.out.2.2.2.2⟩
  · rw [v1e_right] at hr
    exact absurd hr (by simp)
end Go.Proofs.YtmoebkdbnldbdaaGreatDoor
/-
  slices.Equal over validators; powers.Same and the document's.
-/

namespace Go.Proofs.YtmoebkdbnldbdaaGreatDoor
open Go.RowKit

set_option maxRecDepth 100000 in
set_option maxHeartbeats 1000000 in
theorem rsame_is (w : World) (A1 A2 : Option Addr) (c1 c2 : Nat) (V U : List Vd) (hV : VdsAt w A1 V) (hU : VdsAt w A2 U) (okV : keysOk V) (okU : keysOk U) (hl : V.length < 1000) :
    Calls Tryz.prog 14 #[.slice A1 V.length c1, .slice A2 U.length c2] w fun e w' => e = .returned (.bool (sameS V U)) ∧ w.grownBy w' none := by
  by_cases hn : V.length = U.length
  · rw [← hn]
    have HL := Lib.hid hn
    clear hn
    go_enter Tryz.func14, Tryz.ntmps14
    go_wp2_with fail
    go_loopw [13] (fun i wr => ∃ k : Nat, k ≤ V.length ∧ i = .int .i64 (k : Int) ∧ (∀ j (h1 : j < V.length) (h2 : j < U.length), j < k → V[j].key = U[j].key ∧ V[j].p = U[j].p) ∧ w.grownBy wr none) (fun i _ => V.length - (intOf i).toNat)
    case atStart => exact ⟨0, by omega, rfl, fun j _ _ h => absurd h (by omega), World.grownBy.refl w none⟩
    case round =>
      obtain ⟨k, hkl, hi, hno, hK⟩ := hrel
      obtain ⟨I, hI⟩ : ∃ I : Int, I = (k : Int) := ⟨_, rfl⟩
      rw [← hI] at hi
      subst hi
      by_cases hlt : k < V.length
      · have hn := HL.out
        have hlt2 : k < U.length := by omega
        obtain ⟨b1, off1, rfl, hc1⟩ := hV (by rintro rfl; simp at hlt)
        obtain ⟨b2, off2, rfl, hc2⟩ := hU (by rintro rfl; simp at hlt2)
        have d1 : decide (I < (V.length : Int)) = true := by simp; omega
        have hIV : I < (V.length : Int) := by omega
        have hI0 : 0 ≤ I ∧ I < 1000 := by omega
        have hkI : I.toNat = k := by omega
        have r1 := range_kept (hc1 k hlt) hK
        have r2 := range_kept (hc2 k hlt2) hK
        have hx := okV _ (List.getElem_mem hlt)
        have hy := okU _ (List.getElem_mem hlt2)
        obtain ⟨x, hxe⟩ : ∃ x, x = V[k] := ⟨_, rfl⟩
        obtain ⟨y, hye⟩ : ∃ y, y = U[k] := ⟨_, rfl⟩
        rw [← hxe] at r1 hx
        rw [← hye] at r2 hy
        rw [← hkI] at r1 r2
        have p1 := vd_power hx r1
        have p2 := vd_power hy r2
        have q1 := vd_range r1
        have q2 := vd_range r2
        have heq : ∀ w, Sem.run Tryz.prog (Op.equalIn 10000 24 (.agg (arrV .u8 x.key)) (.agg (arrV .u8 y.key))) w = .ok (decide (x.key = y.key)) w := fun w => eqD w x.key y.key hx hy
        obtain ⟨px, hpx⟩ : ∃ px, px = x.p := ⟨_, rfl⟩
        obtain ⟨py, hpy⟩ : ∃ py, py = y.p := ⟨_, rfl⟩
        rw [← hpx] at p1
        rw [← hpy] at p2
        obtain ⟨r, hr⟩ : ∃ r, r = decide (x.key = y.key) := ⟨_, rfl⟩
        rw [← hr] at heq
        have i1 := keySize hx
        have i2 := keySize hy
        obtain ⟨cx, hcx⟩ : ∃ cx, cx = x.key.map (Value.int .u8) := ⟨_, rfl⟩
        obtain ⟨cy, hcy⟩ : ∃ cy, cy = y.key.map (Value.int .u8) := ⟨_, rfl⟩
        unfold arrV at heq
        rw [← hcx] at q1 i1 heq
        rw [← hcy] at q2 i2 heq
        have HR := Lib.hid (And.intro q1 q2)
        have HI := Lib.hid (And.intro i1 i2)
        have HN := Lib.hid (And.intro hno (And.intro hK (And.intro hl (And.intro hI hn))))
        have HX := Lib.hid (show ∃ (h1 : k < V.length) (h2 : k < U.length), r = (decide (V[k].key = U[k].key)) ∧ px = V[k].p ∧ py = U[k].p from ⟨hlt, hlt2, by rw [hr, hxe, hye], by rw [hpx, hxe], by rw [hpy, hye]⟩)
        clear r1 r2 q1 q2 i1 i2 hxe hye hx hy hno hc1 hc2 okV okU hK hV hU hkl hl hI hkI hn hlt hlt2 hcx hcy hr hpx hpy
        go_wp2_with fail
        cases r with
        | true =>
          refine wp_region_quiet_lit (by kernel_rfl) (by kernel_rfl) ?_
          repeat (first
            | go_big_quiet_skip
            | (go_big_quiet_want; first
                | (refine quiet_load_mid 24 _ rfl b1 (off1 + I.toNat * 17) rfl cx _ (fun W hW => by obtain ⟨n, rfl⟩ := hW; exact HR.out.1) Tryz.underlying24 rfl HI.out.1 ?_; simp only [Act.put, List.setIfInBounds_toArray, List.set_cons_zero, List.set_cons_succ]; go_big_quiet_on)
                | (refine quiet_load_mid 24 _ rfl b2 (off2 + I.toNat * 17) rfl cy _ (fun W hW => by obtain ⟨n, rfl⟩ := hW; exact HR.out.2) Tryz.underlying24 rfl HI.out.2 ?_; simp only [Act.put, List.setIfInBounds_toArray, List.set_cons_zero, List.set_cons_succ]; go_big_quiet_on)
                | (go_big_quiet_op; go_big_quiet_on)))
          refine wpQuiet_nil ?_
          intro W hW
          obtain ⟨n, rfl⟩ := hW
          by_cases hp : px = py
          · have hp' : (px != py) = false := by simpa using hp
            have HP := Lib.hid hp
            clear hp
            go_wp2_with fail
            go_roundw
            case rel =>
              obtain ⟨n1, n2, n3, n4, n5⟩ := HN.out
              obtain ⟨x1, x2, x3, x4, x5⟩ := HX.out
              have := HP.out
              refine ⟨k + 1, by omega, by rw [n4]; rfl, fun j h1 h2 hjk => ?_, ⟨n2.os, n2.tape, n2.output, n2.size, n2.block⟩⟩
              by_cases hjk' : j < k
              · exact n1 j h1 h2 hjk'
              · obtain rfl : j = k := by omega
                exact ⟨by simpa using x3.symm, by rw [← x4, ← x5, this]⟩
            case measure => obtain ⟨n1, n2, n3, n4, n5⟩ := HN.out; obtain ⟨x1, x2, x3⟩ := HX.out; simp [intOf]; omega
          · have hp' : (px != py) = true := by simpa using hp
            have HP := Lib.hid hp
            clear hp
            go_wp2_with fail
            go_ret
            obtain ⟨n1, n2, n3, n4, n5⟩ := HN.out
            obtain ⟨x1, x2, x3, x4, x5⟩ := HX.out
            refine ⟨?_, ⟨n2.os, n2.tape, n2.output, n2.size, n2.block⟩⟩
            rw [sameS_not x1 x2 (by rintro ⟨e1, e2⟩; exact HP.out (by rw [x4, x5, e2]))]
            rfl
        | false =>
          refine wp_region_quiet_lit (by kernel_rfl) (by kernel_rfl) ?_
          repeat (first
            | go_big_quiet_skip
            | (go_big_quiet_want; first
                | (refine quiet_load_mid 24 _ rfl b1 (off1 + I.toNat * 17) rfl cx _ (fun W hW => by obtain ⟨n, rfl⟩ := hW; exact HR.out.1) Tryz.underlying24 rfl HI.out.1 ?_; simp only [Act.put, List.setIfInBounds_toArray, List.set_cons_zero, List.set_cons_succ]; go_big_quiet_on)
                | (refine quiet_load_mid 24 _ rfl b2 (off2 + I.toNat * 17) rfl cy _ (fun W hW => by obtain ⟨n, rfl⟩ := hW; exact HR.out.2) Tryz.underlying24 rfl HI.out.2 ?_; simp only [Act.put, List.setIfInBounds_toArray, List.set_cons_zero, List.set_cons_succ]; go_big_quiet_on)
                | (go_big_quiet_op; go_big_quiet_on)))
          refine wpQuiet_nil ?_
          intro W hW
          obtain ⟨n, rfl⟩ := hW
          go_wp2_with fail
          go_ret
          obtain ⟨n1, n2, n3, n4, n5⟩ := HN.out
          obtain ⟨x1, x2, x3, x4, x5⟩ := HX.out
          refine ⟨?_, ⟨n2.os, n2.tape, n2.output, n2.size, n2.block⟩⟩
          rw [sameS_not x1 x2 (by rintro ⟨e1, e2⟩; simp [e1] at x3)]
          rfl
      · have d1 : decide (I < (V.length : Int)) = false := by simp; omega
        have hs : sameS V U = true := sameS_all HL.out fun j h1 h2 => hno j h1 h2 (by omega)
        have HN := Lib.hid (And.intro hs hK)
        clear hno hkl hI hlt hs hK
        go_wp2_with fail
        go_ret
        exact ⟨by rw [HN.out.1]; rfl, HN.out.2⟩
  · have d0 : ((V.length : Int) != (U.length : Int)) = true := by simp; omega
    rw [sameS_len hn]
    clear hn
    go_enter Tryz.func14, Tryz.ntmps14
    go_wp2_with fail
    go_ret
    exact ⟨rfl, World.grownBy.refl w none⟩
end Go.Proofs.YtmoebkdbnldbdaaGreatDoor
/-
  The document's grounds: First, Next, Same.
-/
namespace Go.Proofs.YtmoebkdbnldbdaaGreatDoor
open Go.RowKit

theorem zrg_run (w : World) : Sem.run Tryz.prog (zeroValue 36) w = .ok (.agg zGr) w := zero_run3 w (by kernel_rfl)
theorem sz_Rge : (Tryz.prog.info? 36).map (·.size) = some 18 := by kernel_rfl
theorem zgr_szG : zGr.size = 18 := grV_size (by rw [zD16, arr_size]; rfl)
set_option maxRecDepth 100000 in
theorem ep_rg_build (w : World) (e : Int) (A : Option Addr) (n c : Nat) (D : Array Value) (h : D.size = 16) : Sem.run Tryz.prog (Instr.build 36 #[(0, .int .i64 e), (1, .slice A n c), (2, .agg D)]) w = .ok (.agg (grV e (.slice A n c) D)) w := by
  obtain ⟨a0, a1, a2, a3, a4, a5, a6, a7, a8, a9, a10, a11, a12, a13, a14, a15, rfl⟩ := arr16e D h
  refine run_build w 36 _ _ ?_
  kernel_rfl
set_option maxRecDepth 100000 in
set_option maxHeartbeats 2000000 in
theorem rgsame_is (w : World) (e1 e2 : Int) (A1 A2 : Option Addr) (n1 c1 n2 c2 : Nat) (V1 V2 : List Vd) (hn1 : V1.length = n1) (hn2 : V2.length = n2) (hV1 : VdsAt w A1 V1) (hV2 : VdsAt w A2 V2) (ok1 : keysOk V1) (ok2 : keysOk V2) (hl : n1 < 1000) (G1 G2 : List Int) (h1 : G1.length = 16) (h2 : G2.length = 16)
    (x y : Array Value) (hx : x = grV e1 (.slice A1 n1 c1) (arrV .u8 G1)) (hy : y = grV e2 (.slice A2 n2 c2) (arrV .u8 G2)) :
    Calls Tryz.prog 7 #[.agg x, .agg y] w fun e w' => e = .returned (.bool (decide (e1 = e2) && (decide (G1 = G2) && sameS V1 V2))) ∧ w.grownBy w' none := by
  obtain ⟨D1, hD1⟩ : ∃ D, arrV .u8 G1 = D := ⟨_, rfl⟩
  obtain ⟨D2, hD2⟩ : ∃ D, arrV .u8 G2 = D := ⟨_, rfl⟩
  have s1 : D1.size = 16 := by rw [← hD1, arr_size, h1]
  have s2 : D2.size = 16 := by rw [← hD2, arr_size, h2]
  obtain ⟨d, hd⟩ : ∃ d, decide (G1 = G2) = d := ⟨_, rfl⟩
  have heq : ∀ V, Sem.run Tryz.prog (Op.equalIn 10000 24 (.agg D1) (.agg D2)) V = .ok d V := fun V => by rw [← hD1, ← hD2, ← hd]; exact eqD V _ _ h1 h2
  rw [hd]
  obtain ⟨W1, hW1⟩ : ∃ W1, (w.alloc (.cells x 36)).alloc (.cells y 36) = W1 := ⟨_, rfl⟩
  have g1 : w.grownBy W1 none := by rw [← hW1]; exact grown_trans (World.grownBy_alloc _ _ none) (World.grownBy_alloc _ _ none)
  have bx : Blk W1 w.heap.size 36 (grV e1 (.slice A1 n1 c1) D1) := by rw [← hW1, hx, hD1]; exact (Blk.new w _ _).alloc _
  have bY : Blk W1 (w.heap.size + 1) 36 (grV e2 (.slice A2 n2 c2) D2) := by
    have := Blk.new (w.alloc (.cells x 36)) 36 y
    rw [hW1, hy, hD2] at this; simpa using this
  obtain ⟨k0, k1, k2⟩ := gr_cells s1 bx
  obtain ⟨m0, m1, m2⟩ := gr_cells s2 bY
  have HS := Lib.hid (show Calls Tryz.prog 14 #[.slice A1 n1 c1, .slice A2 n2 c2] W1 fun e w' => e = .returned (.bool (sameS V1 V2)) ∧ W1.grownBy w' none from by rw [← hn1, ← hn2]; exact rsame_is W1 A1 A2 c1 c2 V1 V2 (hV1.grown g1) (hV2.grown g1) ok1 ok2 (by omega))
  have HL := Lib.hid (And.intro k2 (And.intro m2 (And.intro (show (Tryz.prog.info? 24).map (·.size) = some D1.size by rw [s1]; exact sz_Dg) (show (Tryz.prog.info? 24).map (·.size) = some D2.size by rw [s2]; exact sz_Dg))))
  have HW := Lib.hid hW1
  have HG := Lib.hid g1
  clear hD1 hD2 s1 s2 hd hW1 g1 bx bY k2 m2 hx hy hV1 hV2 ok1 ok2 h1 h2 hn1 hn2
  by_cases he : e1 = e2
  · subst he
    have q1 : (e1 == e1) = true := by simp
    have q2 : decide (e1 = e1) = true := by simp
    rw [q2, Bool.true_and]
    cases d
    · rw [Bool.false_and]
      go_enter Tryz.func7, Tryz.ntmps7
      go_upto_region 1 with (fail)
      rw [HW.out]
      go_wp2_with (first
        | (refine wpList_load_mid_want (by rfl) 24 _ rfl (w.heap.size) 2 rfl D1.toList _ HL.out.1 Tryz.underlying24 rfl (by rw [Array.length_toList]; exact HL.out.2.2.1) ?_; rw [Array.toArray_toList])
        | (refine wpList_load_mid_want (by rfl) 24 _ rfl (w.heap.size + 1) 2 rfl D2.toList _ HL.out.2.1 Tryz.underlying24 rfl (by rw [Array.length_toList]; exact HL.out.2.2.2) ?_; rw [Array.toArray_toList]))
      go_ret
      exact ⟨rfl, HG.out⟩
    · rw [Bool.true_and]
      go_enter Tryz.func7, Tryz.ntmps7
      go_upto_region 1 with (fail)
      rw [HW.out]
      go_wp2_with (first
        | (refine wpList_load_mid_want (by rfl) 24 _ rfl (w.heap.size) 2 rfl D1.toList _ HL.out.1 Tryz.underlying24 rfl (by rw [Array.length_toList]; exact HL.out.2.2.1) ?_; rw [Array.toArray_toList])
        | (refine wpList_load_mid_want (by rfl) 24 _ rfl (w.heap.size + 1) 2 rfl D2.toList _ HL.out.2.1 Tryz.underlying24 rfl (by rw [Array.length_toList]; exact HL.out.2.2.2) ?_; rw [Array.toArray_toList]))
      refine HS.out.mono ?_
      rintro e w2 ⟨rfl, g2⟩
      have H2 := Lib.hid g2
      clear g2
      go_wp2_with fail
      go_ret
      exact ⟨rfl, grown_trans HG.out H2.out⟩
  · have q1 : (e1 == e2) = false := by simpa using he
    have q2 : decide (e1 = e2) = false := by simpa using he
    rw [q2, Bool.false_and]
    clear he q2
    go_enter Tryz.func7, Tryz.ntmps7
    go_upto_region 1 with (fail)
    rw [HW.out]
    go_wp2_with fail
    go_ret
    exact ⟨rfl, HG.out⟩
end Go.Proofs.YtmoebkdbnldbdaaGreatDoor
/-
  errors.Is and quoratenum.Num over the errors of package api: what they answer, nothing turned.
-/
namespace Go.Proofs.YtmoebkdbnldbdaaGreatDoor
open Go.RowKit Go.Extern.Stop Go.Stop Go.Extern

/-! ### errors.Is -/
theorem isTypeOf (v : Value) (w : World) : (Extern.ReflectliteType.typeOf #[.iface 207 v]).run Tryz.prog w = .ok (.iface 91 (.agg #[.pointer (some ⟨19, 207, none⟩)])) w := by kernel_rfl
theorem callTypeOf (v : Value) (w : World) : (callFunc 22 #[.iface 207 v]).run Tryz.prog w = .ok (.value (.iface 91 (.agg #[.pointer (some ⟨19, 207, none⟩)]))) w := by
  rw [@run_callFunc_extern Tryz.prog 22 _ Extern.ReflectliteType.typeOf Tryz.func22 (by kernel_rfl) (by kernel_rfl) (by kernel_rfl) (by kernel_rfl), isTypeOf]; rfl
theorem callComparable (w : World) : (callFunc 144 #[.agg #[.pointer (some ⟨19, 207, none⟩)]]).run Tryz.prog w = .ok (.value (.bool true)) w := by kernel_rfl
theorem isMethod (v : Value) (w : World) : (Go.method 346 91 v "Comparable").run Tryz.prog w = .ok (144, v) w := by kernel_rfl
theorem isComp : (Tryz.prog.info? 207).map (·.comparable) = some true := by kernel_rfl
theorem isSize : (Tryz.prog.info? 234).map (·.size) = some 1 := by kernel_rfl
theorem noIsE (v : Value) (xT : TypeId) (w : World) : (Instr.typeAssert (.iface 207 v) xT 93 true).run Tryz.prog w = .ok (.tuple #[.nilIface, .bool false]) w := run_typeAssert_lacksB Tryz.underlying93 (by kernel_rfl) (by kernel_rfl) v xT w
theorem noUnwrapE (v : Value) (xT : TypeId) (w : World) : (Instr.typeAssert (.iface 207 v) xT 96 true).run Tryz.prog w = .ok (.tuple #[.nilIface, .bool false]) w := run_typeAssert_lacksB Tryz.underlying96 (by kernel_rfl) (by kernel_rfl) v xT w
theorem noUnwrapsE (v : Value) (xT : TypeId) (w : World) : (Instr.typeAssert (.iface 207 v) xT 98 true).run Tryz.prog w = .ok (.tuple #[.nilIface, .bool false]) w := run_typeAssert_lacksB Tryz.underlying98 (by kernel_rfl) (by kernel_rfl) v xT w

set_option maxRecDepth 100000 in
theorem is_same (a : Addr) (w : World) :
    Calls Tryz.prog 13 #[errV a, errV a] w fun e w' => e = .returned (.bool true) ∧ w' = w := by
  obtain ⟨i, hi, hcmp⟩ := Option.map_eq_some_iff.1 isComp
  obtain ⟨j, hj, hjs⟩ := Option.map_eq_some_iff.1 isSize
  have tT := callTypeOf
  have cT := callComparable
  have mR := isMethod
  have heq := run_eql_iface_ptr_same (P := Tryz.prog) w a Tryz.underlying31 Tryz.underlying207 hi hcmp hj
  go_enter Tryz.func13, Tryz.ntmps13
  go_wp2
  refine wp_loop_rounds 1 ?_
  rw [rounds_succ]
  go_wp2
  go_ret
  exact ⟨rfl, rfl⟩

set_option maxRecDepth 100000 in
theorem is_other (a b : Addr) (ca cb : Array Value) (ta tb : TypeId) (w : World) (hne : a ≠ b) (ha : w.heap[a.block]? = some (.cells ca ta (0, 0))) (hb : w.heap[b.block]? = some (.cells cb tb (0, 0))) :
    Calls Tryz.prog 13 #[errV a, errV b] w fun e w' => e = .returned (.bool false) ∧ w' = w := by
  obtain ⟨i, hi, hcmp⟩ := Option.map_eq_some_iff.1 isComp
  obtain ⟨j, hj, hjs⟩ := Option.map_eq_some_iff.1 isSize
  have tT := callTypeOf
  have cT := callComparable
  have mR := isMethod
  have nE := noIsE
  have uE := noUnwrapE
  have vE := noUnwrapsE
  have heq := run_eql_iface_ptr_other (P := Tryz.prog) w Tryz.underlying31 Tryz.underlying207 hi hcmp hj (by rw [hjs]; decide) hne ha hb
  clear ha hb
  go_enter Tryz.func13, Tryz.ntmps13
  go_wp2
  refine wp_loop_rounds 1 ?_
  rw [rounds_succ]
  go_wp2
  go_ret
  exact ⟨rfl, rfl⟩

/-! ### The errors of package api, in the order of their numbers -/
def gix : List Nat := [1, 2, 3, 4, 5, 6, 7, 0, 8, 9, 10, 11, 12, 13, 14, 15, 16, 17]

/-- Error number k + 1 is the value of the k-th variable, a pointer to E k; all of it lies below B. -/
structure ErrEnv (w : World) (B : Nat) (E : Nat → Addr) : Prop where
  var : ∀ i, i < 18 → ErrAt w B (gix.getD i 0) (E i)
  row : ∀ i, i < 18 → (E i).block < B ∧ ∃ c t, w.heap[(E i).block]? = some (.cells c t (0, 0))
  inj : ∀ i j, i < 18 → j < 18 → E i = E j → i = j
theorem ErrEnv.below {w w' : World} {B B' : Nat} {E : Nat → Addr} (h : ErrEnv w B E) (hb : Below B' w w') (hB : B ≤ B') : ErrEnv w' B E :=
  ⟨fun i hi => (h.var i hi).below hb hB, fun i hi => ⟨(h.row i hi).1, by obtain ⟨c, t, hc⟩ := (h.row i hi).2; exact ⟨c, t, (hb.block _ (Nat.lt_of_lt_of_le (h.row i hi).1 hB)).trans hc⟩⟩, h.inj⟩
theorem ErrEnv.grown {w w' : World} {B : Nat} {E : Nat → Addr} {row : Option Nat} (h : ErrEnv w B E) (hb : w.grownBy w' row) (hr : ∀ g, row = some g → B ≤ g) : ErrEnv w' B E :=
  ⟨fun i hi => (h.var i hi).grown hb hr, fun i hi => ⟨(h.row i hi).1, by
    obtain ⟨c, t, hc⟩ := (h.row i hi).2
    exact ⟨c, t, (hb.block _ (Array.getElem?_eq_some_iff.1 hc).1 (by intro e; have := hr _ e.symm; have := (h.row i hi).1; omega)).trans hc⟩⟩, h.inj⟩
theorem ErrEnv.alloc {w : World} {B : Nat} {E : Nat → Addr} (h : ErrEnv w B E) (o : Obj) : ErrEnv (w.alloc o) B E := h.grown (World.grownBy_alloc w o none) (fun _ e => by simp at e)

set_option maxHeartbeats 400000 in
theorem num_nil (w : World) : Calls Tryz.prog 6 #[.nilIface] w fun e w' => e = .returned (.int .i64 0) ∧ w = w' := by
  go_enter Tryz.func6, Tryz.ntmps6
  go_wp2
  go_ret
  exact ⟨rfl, rfl⟩

theorem list18 (f : Nat → Value) (i : Nat) (h : i < 18) : (#[f 0, f 1, f 2, f 3, f 4, f 5, f 6, f 7, f 8, f 9, f 10, f 11, f 12, f 13, f 14, f 15, f 16, f 17] : Array Value)[i]? = some (f i) := by
  have : i = 0 ∨ i = 1 ∨ i = 2 ∨ i = 3 ∨ i = 4 ∨ i = 5 ∨ i = 6 ∨ i = 7 ∨ i = 8 ∨ i = 9 ∨ i = 10 ∨ i = 11 ∨ i = 12 ∨ i = 13 ∨ i = 14 ∨ i = 15 ∨ i = 16 ∨ i = 17 := by omega
  rcases this with rfl | rfl | rfl | rfl | rfl | rfl | rfl | rfl | rfl | rfl | rfl | rfl | rfl | rfl | rfl | rfl | rfl | rfl <;> rfl

end Go.Proofs.YtmoebkdbnldbdaaGreatDoor
