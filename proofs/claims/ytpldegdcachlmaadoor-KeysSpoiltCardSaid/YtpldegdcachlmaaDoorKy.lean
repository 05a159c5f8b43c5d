/-
  KeysVerifies, walked.
-/
import Derived.Test.YtpldegdcachlmaaDoorKa
import Derived.Test.YtpldegdcachlmaaDoorKq
import Derived.Test.YtpldegdcachlmaaDoorKr
import Derived.Test.YtpldegdcachlmaaDoorBaseA
import Derived.Test.YtpldegdcachlmaaDoorTrT4
namespace Go.Proofs.YtpldegdcachlmaaDoor
open Go.RowKit

theorem verifies_long (w : World) (hR : Rounds w) (B : Nat) (E : Nat → Addr) (he : ErrEnv w B E) (rt dd : Array Value) (lf : Int) (A1 A2 : Option Addr) (n1 c1 n2 c2 : Nat) (hn : 100 < n1 ∨ 20 < n2) :
    Calls Tryd.prog 4 #[.agg rt, .agg dd, .agg (sigV lf (.slice A1 n1 c1) (.slice A2 n2 c2))] w fun e w' => e = .returned (.bool true) ∧ w.grownBy w' none := by
  have hg := grown_trans (grown_trans (World.grownBy_alloc w (.cells rt 23) none) (World.grownBy_alloc _ (.cells dd 23) none)) (World.grownBy_alloc _ (.cells #[.int .i64 lf, .slice A1 n1 c1, .slice A2 n2 c2] 30) none)
  have HA := Lib.hid (fun (z : World) (hz : w.grownBy z none) => keys_alive z (hR.grown hz (by simp)) B E (he.grown hz (by simp)))
  have b2 := Blk.new ((w.alloc (.cells rt 23)).alloc (.cells dd 23)) 30 #[.int .i64 lf, .slice A1 n1 c1, .slice A2 n2 c2]
  simp only [World.size_alloc] at b2
  have HG := Lib.hid (And.intro hg b2)
  simp only [sigV]
  clear hR he hg b2
  by_cases h1 : 100 < n1
  · have d1 : 100 < (n1 : Int) := by omega
    have d1b : decide (100 < (n1 : Int)) = true := by simp; omega
    clear hn h1
    go_enter Tryd.func4, Tryd.ntmps4
    go_wp2_with fail
    refine (HA.out _ HG.out.1).mono ?_
    rintro e w1 ⟨rfl, hk1⟩
    have b3 := HG.out.2.grown hk1 (by simp)
    have g1 := b3.cell 1
    have g2 := b3.cell 2
    simp only [List.getElem?_toArray, List.getElem?_cons_zero, List.getElem?_cons_succ] at g1 g2
    have HK := Lib.hid (grown_trans HG.out.1 hk1)
    clear hk1 b3
    go_wp2_with fail
    go_ret
    exact ⟨rfl, HK.out⟩
  · have d1 : ¬ 100 < (n1 : Int) := by omega
    have d1b : decide (100 < (n1 : Int)) = false := by simp; omega
    have d2 : 20 < (n2 : Int) := by omega
    clear hn h1
    go_enter Tryd.func4, Tryd.ntmps4
    go_wp2_with fail
    refine (HA.out _ HG.out.1).mono ?_
    rintro e w1 ⟨rfl, hk1⟩
    have b3 := HG.out.2.grown hk1 (by simp)
    have g1 := b3.cell 1
    have g2 := b3.cell 2
    simp only [List.getElem?_toArray, List.getElem?_cons_zero, List.getElem?_cons_succ] at g1 g2
    have HK := Lib.hid (grown_trans HG.out.1 hk1)
    clear hk1 b3
    go_wp2_with fail
    go_ret
    exact ⟨rfl, HK.out⟩

set_option maxRecDepth 100000 in
set_option maxHeartbeats 4000000 in
theorem verifies_core (w : World) (hR : Rounds w) (B : Nat) (E : Nat → Addr) (he : ErrEnv w B E) (rt dd : Array Value) (hrt : rt.size = 16) (hdd : dd.size = 16) (lf : Int) (A1 A2 : Option Addr) (n1 c1 n2 c2 : Nat) (h1 : n1 ≤ 100) (h2 : n2 ≤ 20) (r : Bool)
    (SV : ∀ z, w.grownBy z none → Calls Tryd.prog 18 #[.agg rt, .agg dd, .agg (sigV lf (.slice A1 n1 c1) (.slice A2 n2 c2))] z fun e w' => e = .returned (.bool r) ∧ z.grownBy w' none)
    (SR : ∀ z, w.grownBy z none → Calls Tryd.prog 19 #[.agg rt, .agg dd, .agg (sigV lf (.slice A1 n1 c1) (.slice A2 n2 c2))] z fun e w' => e = .returned (.bool r) ∧ z.grownBy w' none)
    (SS : ∀ z, w.grownBy z none → Calls Tryd.prog 20 #[.agg (sigV lf (.slice A1 n1 c1) (.slice A2 n2 c2)), .agg (sigV lf (.slice A1 n1 c1) (.slice A2 n2 c2))] z fun e w' => e = .returned (.bool true) ∧ z.grownBy w' none) :
    Calls Tryd.prog 4 #[.agg rt, .agg dd, .agg (sigV lf (.slice A1 n1 c1) (.slice A2 n2 c2))] w fun e w' => e = .returned (.bool true) ∧ w.grownBy w' none := by
  have hg := grown_trans (grown_trans (World.grownBy_alloc w (.cells rt 23) none) (World.grownBy_alloc _ (.cells dd 23) none)) (World.grownBy_alloc _ (.cells #[.int .i64 lf, .slice A1 n1 c1, .slice A2 n2 c2] 30) none)
  have HA := Lib.hid (fun (z : World) (hz : w.grownBy z none) => keys_alive z (hR.grown hz (by simp)) B E (he.grown hz (by simp)))
  have b2 := Blk.new ((w.alloc (.cells rt 23)).alloc (.cells dd 23)) 30 #[.int .i64 lf, .slice A1 n1 c1, .slice A2 n2 c2]
  have b1 := (Blk.new (w.alloc (.cells rt 23)) 23 dd).alloc (.cells #[.int .i64 lf, .slice A1 n1 c1, .slice A2 n2 c2] 30)
  have b0 := ((Blk.new w 23 rt).alloc (.cells dd 23)).alloc (.cells #[.int .i64 lf, .slice A1 n1 c1, .slice A2 n2 c2] 30)
  simp only [World.size_alloc] at b1 b2
  have HG := Lib.hid (And.intro hg (And.intro b0 (And.intro b1 b2)))
  have HS := Lib.hid (And.intro hrt hdd)
  have d1 : ¬ 100 < (n1 : Int) := by omega
  have d1b : decide (100 < (n1 : Int)) = false := by simp; omega
  have d2 : ¬ 20 < (n2 : Int) := by omega
  have K1 := Lib.hid SV
  have K2 := Lib.hid SR
  have K3 := Lib.hid SS
  simp only [sigV]
  clear hR he hg b0 b1 b2 hrt hdd h1 h2 SV SR SS
  go_enter Tryd.func4, Tryd.ntmps4
  go_wp2_with fail
  refine (HA.out _ HG.out.1).mono ?_
  rintro e w1 ⟨rfl, hk1⟩
  have H1 := Lib.hid (show Blk w1 w.heap.size 23 rt ∧ Blk w1 (w.heap.size + 1) 23 dd ∧ Blk w1 (w.heap.size + 1 + 1) 30 #[.int .i64 lf, .slice A1 n1 c1, .slice A2 n2 c2] ∧ w.grownBy w1 none from
    ⟨HG.out.2.1.grown hk1 (by simp), HG.out.2.2.1.grown hk1 (by simp), HG.out.2.2.2.grown hk1 (by simp), grown_trans HG.out.1 hk1⟩)
  have g1 := H1.out.2.2.1.cell 1
  have g2 := H1.out.2.2.1.cell 2
  simp only [List.getElem?_toArray, List.getElem?_cons_zero, List.getElem?_cons_succ] at g1 g2
  clear hk1
  go_wp2_with fail
  clear g1 g2
  have V1 := Lib.hid (show ∀ z : Gr w1, Sem.run Tryd.prog (Instr.loadAt 23 (.pointer (some ⟨w.heap.size, 0, none⟩))) z.1 = .ok (.agg rt) z.1 from fun z => row_load _ rt HS.out.1 z.1 (H1.out.1.grown z.2 (by simp)))
  have V2 := Lib.hid (show ∀ z : Gr w1, Sem.run Tryd.prog (Instr.loadAt 23 (.pointer (some ⟨w.heap.size + 1, 0, none⟩))) z.1 = .ok (.agg dd) z.1 from fun z => row_load _ dd HS.out.2 z.1 (H1.out.2.1.grown z.2 (by simp)))
  have V3 := Lib.hid (show ∀ z : Gr w1, Sem.run Tryd.prog (Instr.loadAt 30 (.pointer (some ⟨w.heap.size + 1 + 1, 0, none⟩))) z.1 = .ok (.agg (sigV lf (.slice A1 n1 c1) (.slice A2 n2 c2))) z.1 from fun z => sig_row _ _ rfl z.1 (H1.out.2.2.1.grown z.2 (by simp)))
  have S1 := Lib.hid (show ∀ z : Gr w1, _ from fun z => K1.out z.1 (grown_trans H1.out.2.2.2 z.2))
  have S2 := Lib.hid (show ∀ z : Gr w1, _ from fun z => K2.out z.1 (grown_trans H1.out.2.2.2 z.2))
  have S3 := Lib.hid (show ∀ z : Gr w1, _ from fun z => K3.out z.1 (grown_trans H1.out.2.2.2 z.2))
  have hrr : (r == r) = true := by simp
  refine wp_region_grown (by kernel_rfl) (by kernel_rfl) ?_
  repeat (first
    | (refine wpQuiet_load_row 23 _ ⟨w.heap.size, 0, none⟩ (.agg rt) (by rfl) rfl rfl (by rintro _ ⟨z, rfl⟩; exact V1.out z) ?_; simp only [Act.put, List.setIfInBounds_toArray, List.set_cons_zero, List.set_cons_succ])
    | (refine wpQuiet_load_row 23 _ ⟨w.heap.size + 1, 0, none⟩ (.agg dd) (by rfl) rfl rfl (by rintro _ ⟨z, rfl⟩; exact V2.out z) ?_; simp only [Act.put, List.setIfInBounds_toArray, List.set_cons_zero, List.set_cons_succ])
    | (refine wpQuiet_load_row 30 _ ⟨w.heap.size + 1 + 1, 0, none⟩ (.agg (sigV lf (.slice A1 n1 c1) (.slice A2 n2 c2))) (by rfl) rfl rfl (by rintro _ ⟨z, rfl⟩; exact V3.out z) ?_; simp only [Act.put, List.setIfInBounds_toArray, List.set_cons_zero, List.set_cons_succ])
    | go_big_quiet_step (first
    | (go_at_call 18; with_reducible exact Calls.grown _ (S1.out _))
    | (go_at_call 19; with_reducible exact Calls.grown _ (S2.out _))
    | (go_at_call 20; with_reducible exact Calls.grown _ (S3.out _))))
  refine wpQuiet_nil ?_
  rintro w7 ⟨⟨_, k7⟩, rfl⟩
  go_wp2_with fail
  go_ret
  exact ⟨rfl, grown_trans H1.out.2.2.2 k7⟩

/-- A row of digests that came in, as memory has it. -/
def RowIn (w : World) (A : Option Addr) (n : Nat) (ps : List (List Int)) : Prop := ps.length = n ∧ (∀ p ∈ ps, isDig p) ∧ (n = 0 ∨ ∃ b off, A = some ⟨b, off, none⟩ ∧ DigsAt w b off ps)
theorem eq_self (w : World) (A : Option Addr) (n c : Nat) (ps : List (List Int)) (hn : n ≤ 1000) (h : RowIn w A n ps) (z : World) (hz : w.grownBy z none) :
    Calls Tryd.prog 35 #[.slice A n c, .slice A n c] z fun e w' => e = .returned (.bool true) ∧ z.grownBy w' none := by
  obtain ⟨hl, hd, h0 | ⟨b, off, rfl, hD⟩⟩ := h
  · subst h0; exact eqs_none z A A c c
  · exact eqs_same z b off c b off c n ps ps hl hl hn hd hd (hD.grown hz) (hD.grown hz) true (by simp)

theorem verifies_main (w : World) (hR : Rounds w) (B : Nat) (E : Nat → Addr) (he : ErrEnv w B E) (hB : 4 ≤ w.heap.size) (root d : List Int) (hroot : isDig root) (hd : isDig d) (rt dd : Array Value) (hrt : rt = arrV .u8 root) (hdd : dd = arrV .u8 d) (lf : Int) (A1 A2 : Option Addr) (n1 c1 n2 c2 : Nat) (h1 : n1 ≤ 100) (h2 : n2 ≤ 20) (cs ps : List (List Int)) (hC : RowIn w A1 n1 cs) (hP : RowIn w A2 n2 ps) :
    Calls Tryd.prog 4 #[.agg rt, .agg dd, .agg (sigV lf (.slice A1 n1 c1) (.slice A2 n2 c2))] w fun e w' => e = .returned (.bool true) ∧ w.grownBy w' none := by
  have hr16 : rt.size = 16 := by rw [hrt, arr_size, hroot.1]
  have hd16 : dd.size = 16 := by rw [hdd, arr_size, hd.1]
  obtain ⟨Z, hZ⟩ : ∃ Z, Z = arrV .u8 (List.replicate 16 0) := ⟨_, rfl⟩
  have hZ16 : Z.size = 16 := by rw [hZ]; rfl
  have hZ1 : (Z.all fun v => v.oneCell') = true := by rw [hZ]; exact arr_one _ _
  have SS : ∀ z, w.grownBy z none → Calls Tryd.prog 20 #[.agg (sigV lf (.slice A1 n1 c1) (.slice A2 n2 c2)), .agg (sigV lf (.slice A1 n1 c1) (.slice A2 n2 c2))] z fun e w' => e = .returned (.bool true) ∧ z.grownBy w' none := fun z hz => by
    have h := ksame_is z lf lf A1 A2 A1 A2 n1 c1 n2 c2 n1 c1 n2 c2 true true (fun y hy => eq_self w A1 n1 c1 cs (by omega) hC y (grown_trans hz hy)) (fun y hy => eq_self w A2 n2 c2 ps (by omega) hP y (grown_trans hz hy))
    simpa using h
  by_cases hneg : lf < 0
  · exact verifies_core w hR B E he rt dd hr16 hd16 lf A1 A2 n1 c1 n2 c2 h1 h2 false
      (fun z hz => verify_a z rt dd hr16 hd16 lf A1 A2 n1 c1 n2 c2 Z hZ16 hZ1 (E 0) (fun y hy => recover_no y B (E 0) ((he.grown (grown_trans hz hy) (by simp)).var 0 (by omega)) lf (.inl hneg) A1 n1 c1 dd hd16 Z hZ))
      (fun z _ => right_neg z rt dd lf A1 A2 n1 c1 n2 c2 hneg) SS
  by_cases hbig : 32 ≤ lf
  · exact verifies_core w hR B E he rt dd hr16 hd16 lf A1 A2 n1 c1 n2 c2 h1 h2 false
      (fun z hz => verify_a z rt dd hr16 hd16 lf A1 A2 n1 c1 n2 c2 Z hZ16 hZ1 (E 0) (fun y hy => recover_no y B (E 0) ((he.grown (grown_trans hz hy) (by simp)).var 0 (by omega)) lf (.inr hbig) A1 n1 c1 dd hd16 Z hZ))
      (fun z _ => right_big z rt dd lf A1 A2 n1 c1 n2 c2 hbig) SS
  have hlf : 0 ≤ lf ∧ lf < 32 := by omega
  by_cases h68 : n1 = 68
  · subst h68
    obtain ⟨cl, cd, c0 | ⟨b1, o1, rfl, hD1⟩⟩ := hC
    · omega
    obtain ⟨xs, hxs⟩ : ∃ xs, xs = arrV .u8 (recC lf cs d) := ⟨_, rfl⟩
    have hxd : isDig (recC lf cs d) := by rw [recC]; exact pubC_dig _ _
    have hx16 : xs.size = 16 := by rw [hxs, arr_size, hxd.1]
    have hx1 : (xs.all fun v => v.oneCell') = true := by rw [hxs]; exact arr_one _ _
    have R1 : ∀ z, w.grownBy z none → ∀ y, z.grownBy y none → Calls Tryd.prog 31 #[.int .i64 lf, .slice (some ⟨b1, o1, none⟩) 68 c1, .agg dd] y fun e w' => e = .returned (.tuple #[.agg xs, .nilIface]) ∧ y.grownBy w' none := fun z hz y hy => by
      rw [hdd]
      exact recover_ok y (hR.grown (grown_trans hz hy) (by simp)) lf hlf b1 o1 c1 cs cl cd (hD1.grown (grown_trans hz hy)) d hd xs hxs
    by_cases h5 : n2 = 5
    · subst h5
      obtain ⟨pl, pd, p0 | ⟨b2, o2, rfl, hD2⟩⟩ := hP
      · omega
      obtain ⟨ts, hts⟩ : ∃ ts, ts = arrV .u8 (climbC (recC lf cs d) lf ps 5) := ⟨_, rfl⟩
      have htd := climbC_dig hxd lf ps 5
      have ht16 : ts.size = 16 := by rw [hts, arr_size, htd.1]
      have ht1 : (ts.all fun v => v.oneCell') = true := by rw [hts]; exact arr_one _ _
      have hq : ∀ V, Sem.run Tryd.prog (Op.equalIn 10000 23 (.agg ts) (.agg rt)) V = .ok (decide (climbC (recC lf cs d) lf ps 5 = root)) V := fun V => by
        rw [hts, hrt]; exact eqD V _ _ htd.1 hroot.1
      exact verifies_core w hR B E he rt dd hr16 hd16 lf _ _ 68 c1 5 c2 h1 h2 _
        (fun z hz => verify_c z rt dd hr16 hd16 lf _ _ 68 c1 5 c2 xs ts hx16 hx1 ht16 ht1 _ hq (R1 z hz) (fun y hy => climb_ok y (hR.grown (grown_trans hz hy) (by simp)) _ hxd lf hlf b2 o2 c2 ps pl pd (hD2.grown (grown_trans hz hy)) xs ts hxs hts))
        (fun z hz => right_ok z rt dd hr16 hd16 lf hlf _ _ c1 c2 xs ts _ hq (fun y hy => by rw [hdd]; exact rrecover_is y lf b1 o1 c1 cs cl cd (hD1.grown (grown_trans hz hy)) d hd xs hxs) (fun y hy => rclimb_is y _ hxd lf hlf b2 o2 c2 ps pl pd (hD2.grown (grown_trans hz hy)) xs ts hxs hts)) SS
    · exact verifies_core w hR B E he rt dd hr16 hd16 lf _ A2 68 c1 n2 c2 h1 h2 false
        (fun z hz => verify_b z rt dd hr16 hd16 lf _ A2 68 c1 n2 c2 xs Z hx16 hx1 hZ16 hZ1 (E 3) (R1 z hz) (fun y hy => climb_form y B (E 3) ((he.grown (grown_trans hz hy) (by simp)).var 3 (by omega)) lf hlf A2 n2 c2 h5 xs hx16 Z hZ))
        (fun z _ => right_form2 z rt dd lf _ A2 68 c1 n2 c2 hlf rfl h5) SS
  · exact verifies_core w hR B E he rt dd hr16 hd16 lf A1 A2 n1 c1 n2 c2 h1 h2 false
      (fun z hz => verify_a z rt dd hr16 hd16 lf A1 A2 n1 c1 n2 c2 Z hZ16 hZ1 (E 3) (fun y hy => recover_form y B (E 3) ((he.grown (grown_trans hz hy) (by simp)).var 3 (by omega)) lf hlf A1 n1 c1 h68 (by have := (grown_trans hz hy).size; omega) dd hd16 Z hZ))
      (fun z _ => right_form1 z rt dd lf A1 A2 n1 c1 n2 c2 hlf h68) SS
end Go.Proofs.YtpldegdcachlmaaDoor
