/-
  ProofsGenesis, walked.
-/
import Derived.Test.YtlokjbjpmhfkhaaDoorPf3
namespace Go.Proofs.YtlokjbjpmhfkhaaDoor
open Go.RowKit

def tZ : Array Value := toC 0 0 qZ (tcC 0 0 (.slice none 0 0)) sZ
theorem tz_run (w : World) : Sem.run Tryd.prog (zeroValue 58) w = .ok (.agg tZ) w := zero_run w (by kernel_rfl)
set_option maxRecDepth 100000 in
theorem to_build (w : World) (e : Int) (D : Array Value) (h : D.size = 16) : Sem.run Tryd.prog (Instr.build 58 #[(0, .int .i64 e), (1, .int .i64 2), (2, .agg (qcC e 0 D (.slice none 0 0)))]) w = .ok (.agg (toC e 2 (qcC e 0 D (.slice none 0 0)) (tcC 0 0 (.slice none 0 0)) sZ)) w := by
  obtain ⟨a0, a1, a2, a3, a4, a5, a6, a7, a8, a9, a10, a11, a12, a13, a14, a15, rfl⟩ := arr16p D h
  refine run_build w 58 _ _ ?_
  kernel_rfl
theorem to_size {e r : Int} {q : Array Value} (h : q.size = 19) : (toC e r q (tcC 0 0 (.slice none 0 0)) sZ).size = 28 := by simp [toC, tcC, sZ, h]
theorem to_one {e r : Int} {q : Array Value} (h : (q.all fun v => v.oneCell') = true) : ((toC e r q (tcC 0 0 (.slice none 0 0)) sZ).all fun v => v.oneCell') = true := by
  rw [Array.all_eq_true_iff_forall_mem] at h ⊢
  intro x hx
  simp only [toC, tcC, sZ, Array.mem_append, List.mem_toArray, List.mem_cons, List.not_mem_nil, or_false] at hx
  rcases hx with (rfl | rfl) | hx | (rfl | rfl | rfl) | (rfl | rfl | rfl | rfl)
  · rfl
  · rfl
  · exact h x hx
  all_goals rfl
theorem ErrEnv.moreP {w : World} {B B' : Nat} {E : Nat → Addr} (h : ErrEnv w B E) (hB : B ≤ B') : ErrEnv w B' E := ⟨fun i hi => ⟨(h.var i hi).1, Nat.lt_of_lt_of_le (h.var i hi).2 hB⟩, fun i hi => ⟨Nat.lt_of_lt_of_le (h.row i hi).1 hB, (h.row i hi).2⟩, h.inj⟩
theorem turn_0 (V : List Vd) (e : Int) : turnN V e 0 0 ≠ 0 := by
  unfold turnN
  split
  · assumption
  · rw [if_pos (by omega)]; omega
theorem row_loadT (V : World) (g o : Nat) (ty : TypeId) (cs : Array Value) (d : TypeDesc) (h : V.rangeAt g o cs.toList) (hu : Tryd.prog.underlying ty = some d) (hd : d.isRow = true) (hi : (Tryd.prog.info? ty).map (·.size) = some cs.size) : Sem.run Tryd.prog (Instr.loadAt ty (.pointer (some ⟨g, o, none⟩))) V = .ok (.agg cs) V := by
  have := run_loadAt_mid (P := Tryd.prog) V g o ty cs.toList d h hu hd (by rw [Array.length_toList]; exact hi)
  rwa [Array.toArray_toList] at this
set_option maxRecDepth 100000 in
set_option maxHeartbeats 4000000 in
theorem genesis_any (w : World) (E : Nat → Addr) (he : ErrEnv w w.heap.size E) (A : Option Addr) (n c : Nat) (V : List Vd) (hn : V.length = n) (hV : VdsAt w A V) (ok : keysOk V) (ep : Int) (l0 l1 : List Int) (h0 : l0.length = 16) (h1 : l1.length = 16) (tw : Array Value) (htw : tw = arrV .u8 (l0 ++ l1)) :
    Calls Tryd.prog 5 #[.slice A n c, .int .i64 ep, .agg tw] w fun e w' => e = .returned (.bool true) ∧ w.grownBy w' none := by
  subst hn
  have hgz := gz_run
  have hqz := qz_run
  have htz := tz_run
  obtain ⟨GZ, hGZ⟩ : ∃ Z, gZ = Z := ⟨_, rfl⟩
  obtain ⟨QZ, hQZ⟩ : ∃ Z, qZ = Z := ⟨_, rfl⟩
  obtain ⟨TZ, hTZ⟩ : ∃ Z, tZ = Z := ⟨_, rfl⟩
  rw [hGZ] at hgz
  rw [hQZ] at hqz
  rw [hTZ] at htz
  have hGs : GZ.size = 18 := by rw [← hGZ]; rfl
  have hQs : QZ.size = 19 := by rw [← hQZ]; rfl
  have hTs : TZ.size = 28 := by rw [← hTZ]; rfl
  obtain ⟨D0, hD0⟩ : ∃ D, D = arrV .u8 l0 := ⟨_, rfl⟩
  obtain ⟨D1, hD1⟩ : ∃ D, D = arrV .u8 l1 := ⟨_, rfl⟩
  have s0 : D0.size = 16 := by rw [hD0, arr_size, h0]
  have s1 : D1.size = 16 := by rw [hD1, arr_size, h1]
  have o0 : (D0.all fun v => v.oneCell') = true := by rw [hD0]; exact arr_one_p _ _
  have o1 : (D1.all fun v => v.oneCell') = true := by rw [hD1]; exact arr_one_p _ _
  obtain ⟨q, hq⟩ : ∃ q, w.heap.size = q := ⟨_, rfl⟩
  obtain ⟨W1, hW1⟩ : ∃ W1, w.alloc (.cells tw 56) = W1 := ⟨_, rfl⟩
  have gW1 : w.grownBy W1 none := by rw [← hW1]; exact World.grownBy_alloc _ _ none
  have bt : Blk W1 q 56 tw := by rw [← hW1, ← hq]; exact Blk.new _ _ _
  have rt : ∀ Y : World, Blk Y q 56 tw → Y.rangeAt q 0 D0.toList ∧ Y.rangeAt q 16 D1.toList := fun Y hY => by
    have r := range_blk hY
    have e1 : tw.toList = [] ++ (D0.toList ++ (D1.toList ++ [])) := by rw [htw, hD0, hD1]; simp [arrV]
    rw [e1] at r
    refine ⟨by have := range_part r; rwa [Nat.zero_add] at this, ?_⟩
    have r2 : Y.rangeAt q 0 (D0.toList ++ (D1.toList ++ [])) := r
    have := range_part r2
    rwa [Nat.zero_add, Array.length_toList, s0] at this
  have HAL := Lib.hid (alive_is W1 W1.heap.size E ((he.grown gW1 (fun _ e => by cases e)).moreP gW1.size))
  have HX := Lib.hid (And.intro he (And.intro hV (And.intro ok (And.intro gW1 (And.intro bt rt)))))
  have HD := Lib.hid (And.intro hD0 (And.intro hD1 (And.intro s0 (And.intro s1 (And.intro o0 (And.intro o1 (And.intro h0 h1)))))))
  have HZ := Lib.hid (And.intro hGs (And.intro hQs hTs))
  have HW := Lib.hid (And.intro hW1 hq)
  clear he hV ok gW1 bt rt hD0 hD1 s0 s1 o0 o1 h0 h1 hGs hQs hTs hGZ hQZ hTZ hW1 hq htw
  go_enter Tryd.func5, Tryd.ntmps5
  go_upto_region 1 with (fail)
  rw [HW.out.1, HW.out.2]
  go_wp2_with fail
  refine HAL.out.mono ?_
  clear HAL
  rintro e w2 ⟨rfl, g2⟩
  have H2 := Lib.hid (And.intro (grown_trans HX.out.2.2.2.1 g2) (HX.out.2.2.2.2.1.grown g2 (by simp)))
  clear g2
  by_cases h20 : 20 < V.length
  · have d1 : decide ((20 : Int) < (V.length : Int)) = true := by simp; omega
    go_wp2_with fail
    go_ret
    exact ⟨rfl, H2.out.1⟩
  have d1 : decide ((20 : Int) < (V.length : Int)) = false := by simp; omega
  have hl : V.length < 1000 := by omega
  have HL := Lib.hid hl
  clear h20 hl
  obtain ⟨g, hg⟩ : ∃ g, w2.heap.size = g := ⟨_, rfl⟩
  obtain ⟨gv, hgv⟩ : ∃ gv, gv = grC ep (.slice A V.length c) D0 := ⟨_, rfl⟩
  obtain ⟨W3, hW3⟩ : ∃ W3, (w2.alloc (.cells GZ 34)).setRow g gv = W3 := ⟨_, rfl⟩
  obtain ⟨qq, hqq⟩ : ∃ qq, W3.heap.size = qq := ⟨_, rfl⟩
  obtain ⟨qv, hqv⟩ : ∃ qv, qv = qcC ep 0 D0 (.slice none 0 0) := ⟨_, rfl⟩
  obtain ⟨W4, hW4⟩ : ∃ W4, (W3.alloc (.cells QZ 39)).setRow qq qv = W4 := ⟨_, rfl⟩
  have HBG := Lib.hid (show ∀ w, Sem.run Tryd.prog (Instr.build 34 #[(0, .int .i64 ep), (1, .slice A V.length c), (2, .agg D0)]) w = .ok (.agg gv) w from fun w => by rw [hgv]; exact gr_build w ep _ _ c D0 HD.out.2.2.1)
  have HBQ := Lib.hid (show ∀ w, Sem.run Tryd.prog (Instr.build 39 #[(0, .int .i64 ep), (2, .agg D0)]) w = .ok (.agg qv) w from fun w => by rw [hqv]; exact qc_build w ep D0 HD.out.2.2.1)
  have g3 : w2.grownBy W3 none := by rw [← hW3]; exact grown_row (World.grownBy_alloc _ _ none) (.inl (by rw [hg]; exact Nat.le_refl _)) _
  have g4 : W3.grownBy W4 none := by rw [← hW4]; exact grown_row (World.grownBy_alloc _ _ none) (.inl (by rw [hqq]; exact Nat.le_refl _)) _
  have bg : Blk W3 g 34 gv := by rw [← hW3, ← hg]; exact (Blk.new w2 34 GZ).row _
  have bq : Blk W4 qq 39 qv := by rw [← hW4, ← hqq]; exact (Blk.new W3 39 QZ).row _
  have hvd : ∀ Y : World, w.grownBy Y none → VdsAt Y A V := fun Y hY hne => by
    obtain ⟨b, off, eA, hc⟩ := HX.out.2.1 hne
    exact ⟨b, off, eA, fun k hk => range_kept (hc k hk) hY⟩
  have HQC := Lib.hid (fun (Y : World) (hY : w.grownBy Y none) (L : List Int) (hL : L.length = 16) (D : Array Value) (hD : D = arrV .u8 L) (q2 : Array Value) (h2 : q2 = qcC ep 0 D (.slice none 0 0)) => qc0_is Y (HX.out.1.grown hY (fun _ e => by cases e)) (hvd _ hY) HX.out.2.2.1 HL.out HD.out.1 HD.out.2.2.2.2.2.2.1 gv hgv ep L hL D hD none 0 0 q2 h2)
  have HTO := Lib.hid (fun (Y : World) (hY : w.grownBy Y none) (o2 : Array Value) (ho : o2 = toC ep 2 qv (tcC 0 0 (.slice none 0 0)) sZ) => timeout_bad Y (HX.out.1.grown hY (fun _ e => by cases e)) (hvd _ hY) HX.out.2.2.1 HL.out HD.out.1 HD.out.2.2.2.2.2.2.1 gv hgv l0 HD.out.2.2.2.2.2.2.1 D0 HD.out.1 none 0 0 0 0 (.slice none 0 0) (turn_0 V ep) sZ qv _ o2 hqv rfl ho (by rw [ho]; exact to_size (by rw [hqv]; exact qcC_size HD.out.2.2.1)))
  have HG := Lib.hid (And.intro (show gv.size = 18 by rw [hgv]; exact grC_size HD.out.2.2.1) (And.intro (show qv.size = 19 by rw [hqv]; exact qcC_size HD.out.2.2.1) (And.intro (show (gv.all fun v => v.oneCell') = true by rw [hgv]; exact gr_one HD.out.2.2.2.2.1) (And.intro (show (qv.all fun v => v.oneCell') = true by rw [hqv]; exact qc_one HD.out.2.2.2.2.1) (And.intro hg (And.intro hW3 (And.intro hqq (And.intro hW4 hqv))))))))
  have H4 := Lib.hid (And.intro (grown_trans H2.out.1 (grown_trans g3 g4)) (And.intro (H2.out.2.grown (grown_trans g3 g4) (by simp)) (And.intro (bg.grown g4 (by simp)) bq)))
  have H3 := Lib.hid (H2.out.2.grown g3 (by simp))
  clear hg hgv hW3 hqq hqv hW4 g3 g4 bg bq hvd
  go_upto_region 6 with (first
    | (refine wpList_load_mid rfl 32 _ rfl q 0 rfl D0.toList _ (HX.out.2.2.2.2.2 _ H2.out.2).1 Tryd.underlying32 rfl (by rw [Array.length_toList, HD.out.2.2.1]; exact info16p) ?_)
    | (refine wpList_build_at (by rfl) 34 #[(0, Operand.tmp 17), (1, Operand.tmp 18), (2, Operand.tmp 20)] rfl _ (by kernel_rfl) (.agg gv) (HBG.out _) ?_)
    | (refine wpList_store_row rfl 34 _ _ rfl w2.heap.size gv rfl rfl 34 _ (heap_alloc_new w2 _) (by rw [HG.out.1]; exact info18) (by rw [HG.out.1, HZ.out.1]) HG.out.2.2.1 ?_))
  rw [HG.out.2.2.2.2.1, HG.out.2.2.2.2.2.1]
  go_upto_region 7 with (first
    | (refine wpList_load_mid rfl 32 _ rfl q 0 rfl D0.toList _ (HX.out.2.2.2.2.2 _ H3.out).1 Tryd.underlying32 rfl (by rw [Array.length_toList, HD.out.2.2.1]; exact info16p) ?_)
    | (refine wpList_build_at (by rfl) 39 #[(0, Operand.tmp 22), (2, Operand.tmp 24)] rfl _ (by kernel_rfl) (.agg qv) (HBQ.out _) ?_)
    | (refine wpList_store_row rfl 39 _ _ rfl W3.heap.size qv rfl rfl 39 _ (heap_alloc_new W3 _) (by rw [HG.out.2.1]; exact info19) (by rw [HG.out.2.1, HZ.out.2.1]) HG.out.2.2.2.1 ?_))
  rw [HG.out.2.2.2.2.2.2.1, HG.out.2.2.2.2.2.2.2.1]
  go_wp2_with (first
    | (refine wpList_load_row rfl 34 _ rfl g rfl 34 gv (0, 0) _ H4.out.2.2.1 Tryd.underlying34 rfl (by rw [HG.out.1]; exact info18) ?_)
    | (refine wpList_load_row rfl 39 _ rfl qq rfl 39 qv (0, 0) _ H4.out.2.2.2 Tryd.underlying39 rfl (by rw [HG.out.2.1]; exact info19) ?_))
  refine (HQC.out W4 H4.out.1 l0 HD.out.2.2.2.2.2.2.1 D0 HD.out.1 qv HG.out.2.2.2.2.2.2.2.2).mono ?_
  rintro e w5 ⟨rfl, g5⟩
  have H5 := Lib.hid (And.intro (grown_trans H4.out.1 g5) (And.intro (H4.out.2.1.grown g5 (by simp)) (And.intro (H4.out.2.2.1.grown g5 (by simp)) (H4.out.2.2.2.grown g5 (by simp)))))
  clear g5
  by_cases hr : rightS V = false
  · have hE : evOf E (firstN V ep ep l0 l0 0) = errV (E 10) := by
      rw [show firstN V ep ep l0 l0 0 = 11 by simp [firstN, beginN, hr]]; rfl
    rw [hE]
    clear hE hr
    go_wp2_with fail
    refine (num_err w5 w.heap.size E 10 (by omega) (HX.out.1.grown H5.out.1 (fun _ e => by cases e))).mono ?_
    rintro e w6 ⟨rfl, g6⟩
    have H6 := Lib.hid (grown_trans H5.out.1 g6)
    clear g6
    go_wp2_with fail
    go_ret
    exact ⟨rfl, H6.out⟩
  · have hr1 : rightS V = true := by simpa using hr
    have hE : evOf E (firstN V ep ep l0 l0 0) = .nilIface := by
      rw [show firstN V ep ep l0 l0 0 = 0 by simp [firstN, beginN, hr1]]; rfl
    rw [hE]
    have HRS := Lib.hid hr1
    clear hE hr hr1
    go_wp2_with fail
    refine (num_nil w5).mono ?_
    rintro e w6 ⟨rfl, rfl⟩
    obtain ⟨oo, hoo⟩ : ∃ oo, w5.heap.size = oo := ⟨_, rfl⟩
    obtain ⟨ov, hov⟩ : ∃ ov, ov = qcC ep 0 D1 (.slice none 0 0) := ⟨_, rfl⟩
    obtain ⟨W7, hW7⟩ : ∃ W7, (w5.alloc (.cells QZ 39)).setRow oo ov = W7 := ⟨_, rfl⟩
    obtain ⟨tt, htt⟩ : ∃ tt, W7.heap.size = tt := ⟨_, rfl⟩
    obtain ⟨tv, htv⟩ : ∃ tv, tv = toC ep 2 qv (tcC 0 0 (.slice none 0 0)) sZ := ⟨_, rfl⟩
    obtain ⟨W8, hW8⟩ : ∃ W8, (W7.alloc (.cells TZ 58)).setRow tt tv = W8 := ⟨_, rfl⟩
    have HBO := Lib.hid (show ∀ w, Sem.run Tryd.prog (Instr.build 39 #[(0, .int .i64 ep), (2, .agg D1)]) w = .ok (.agg ov) w from fun w => by rw [hov]; exact qc_build w ep D1 HD.out.2.2.2.1)
    have HBT := Lib.hid (show ∀ w, Sem.run Tryd.prog (Instr.build 58 #[(0, .int .i64 ep), (1, .int .i64 2), (2, .agg qv)]) w = .ok (.agg tv) w from fun w => by rw [htv, HG.out.2.2.2.2.2.2.2.2]; exact to_build w ep D0 HD.out.2.2.1)
    have g7 : w5.grownBy W7 none := by rw [← hW7]; exact grown_row (World.grownBy_alloc _ _ none) (.inl (by rw [hoo]; exact Nat.le_refl _)) _
    have g8 : W7.grownBy W8 none := by rw [← hW8]; exact grown_row (World.grownBy_alloc _ _ none) (.inl (by rw [htt]; exact Nat.le_refl _)) _
    have bo : Blk W7 oo 39 ov := by rw [← hW7, ← hoo]; exact (Blk.new w5 39 QZ).row _
    have bt : Blk W8 tt 58 tv := by rw [← hW8, ← htt]; exact (Blk.new W7 58 TZ).row _
    have HO := Lib.hid (And.intro (show ov.size = 19 by rw [hov]; exact qcC_size HD.out.2.2.2.1) (And.intro (show tv.size = 28 by rw [htv]; exact to_size HG.out.2.1) (And.intro (show (ov.all fun v => v.oneCell') = true by rw [hov]; exact qc_one HD.out.2.2.2.2.2.1) (And.intro (show (tv.all fun v => v.oneCell') = true by rw [htv]; exact to_one HG.out.2.2.2.1) (And.intro hoo (And.intro hW7 (And.intro htt (And.intro hW8 (And.intro hov htv)))))))))
    have H7 := Lib.hid (And.intro (H5.out.2.1.grown g7 (by simp)) (H5.out.2.2.2.grown g7 (by simp)))
    have g78 := grown_trans g7 g8
    have H8 := Lib.hid (And.intro (grown_trans H5.out.1 g78) (And.intro (H5.out.2.1.grown g78 (by simp)) (And.intro (H5.out.2.2.1.grown g78 (by simp)) (And.intro (bo.grown g8 (by simp)) bt))))
    clear hoo hov hW7 htt htv hW8 g7 g8 g78 bo bt
    go_upto_region 11 with (first
      | (refine wpList_load_mid rfl 32 _ rfl q 16 rfl D1.toList _ (HX.out.2.2.2.2.2 _ H5.out.2.1).2 Tryd.underlying32 rfl (by rw [Array.length_toList, HD.out.2.2.2.1]; exact info16p) ?_)
      | (refine wpList_build_at (by rfl) 39 #[(0, Operand.tmp 32), (2, Operand.tmp 34)] rfl _ (by kernel_rfl) (.agg ov) (HBO.out _) ?_)
      | (refine wpList_store_row rfl 39 _ _ rfl w5.heap.size ov rfl rfl 39 _ (heap_alloc_new w5 _) (by rw [HO.out.1]; exact info19) (by rw [HO.out.1, HZ.out.2.1]) HO.out.2.2.1 ?_))
    rw [HO.out.2.2.2.2.1, HO.out.2.2.2.2.2.1]
    go_upto_region 12 with (first
      | (refine wpList_load_row rfl 39 _ rfl qq rfl 39 qv (0, 0) _ H7.out.2 Tryd.underlying39 rfl (by rw [HG.out.2.1]; exact info19) ?_)
      | (refine wpList_build_at (by rfl) 58 #[(0, Operand.tmp 36), (1, Operand.const (Value.int .i64 2)), (2, Operand.tmp 37)] rfl _ (by kernel_rfl) (.agg tv) (HBT.out _) ?_)
      | (refine wpList_store_row rfl 58 _ _ rfl W7.heap.size tv rfl rfl 58 _ (heap_alloc_new W7 _) (by rw [HO.out.2.1]; exact info28) (by rw [HO.out.2.1, HZ.out.2.2]) HO.out.2.2.2.1 ?_))
    rw [HO.out.2.2.2.2.2.2.1, HO.out.2.2.2.2.2.2.2.1]
    clear hgz hqz htz
    try simp only [Act.put, List.setIfInBounds_toArray, List.set_cons_zero, List.set_cons_succ]
    have V1 := Lib.hid (show ∀ z : Gr W8, Sem.run Tryd.prog (Instr.loadAt 34 (.pointer (some ⟨g, 0, none⟩))) z.1 = .ok (.agg gv) z.1 from fun z => row_loadT z.1 g 0 34 gv _ (range_blk (H8.out.2.2.1.grown z.2 (by simp))) Tryd.underlying34 rfl (by rw [HG.out.1]; exact info18))
    have V2 := Lib.hid (show ∀ z : Gr W8, Sem.run Tryd.prog (Instr.loadAt 39 (.pointer (some ⟨oo, 0, none⟩))) z.1 = .ok (.agg ov) z.1 from fun z => row_loadT z.1 oo 0 39 ov _ (range_blk (H8.out.2.2.2.1.grown z.2 (by simp))) Tryd.underlying39 rfl (by rw [HO.out.1]; exact info19))
    have V3 := Lib.hid (show ∀ z : Gr W8, Sem.run Tryd.prog (Instr.loadAt 32 (.pointer (some ⟨q, 0, none⟩))) z.1 = .ok (.agg D0) z.1 from fun z => row_loadT z.1 q 0 32 D0 _ (HX.out.2.2.2.2.2 _ (H8.out.2.1.grown z.2 (by simp))).1 Tryd.underlying32 rfl (by rw [HD.out.2.2.1]; exact info16p))
    have V4 := Lib.hid (show ∀ z : Gr W8, Sem.run Tryd.prog (Instr.loadAt 32 (.pointer (some ⟨q, 16, none⟩))) z.1 = .ok (.agg D1) z.1 from fun z => row_loadT z.1 q 16 32 D1 _ (HX.out.2.2.2.2.2 _ (H8.out.2.1.grown z.2 (by simp))).2 Tryd.underlying32 rfl (by rw [HD.out.2.2.2.1]; exact info16p))
    have V5 := Lib.hid (show ∀ z : Gr W8, Sem.run Tryd.prog (Instr.loadAt 58 (.pointer (some ⟨tt, 0, none⟩))) z.1 = .ok (.agg tv) z.1 from fun z => row_loadT z.1 tt 0 58 tv _ (range_blk (H8.out.2.2.2.2.grown z.2 (by simp))) Tryd.underlying58 rfl (by rw [HO.out.2.1]; exact info28))
    have htn : toN V ep l0 l0 0 0 0 ≠ 0 := by
      unfold toN
      split
      · assumption
      · split
        · assumption
        · exact turn_0 V ep
    obtain ⟨a, ha⟩ := evOf_pos E htn
    have T2 := Lib.hid (show ∀ z : Gr W8, Calls Tryd.prog 14 #[.agg gv, .agg tv] z.1 fun e w' => e = .returned (errV a) ∧ z.1.grownBy w' none from fun z => by
      have h := HTO.out z.1 (grown_trans H8.out.1 z.2) tv HO.out.2.2.2.2.2.2.2.2.2
      rw [ha] at h
      exact h)
    clear ha htn
    have heq : ∀ V, Sem.run Tryd.prog (Op.equalIn 10000 32 (.agg D0) (.agg D1)) V = .ok (decide (l0 = l1)) V := fun V => by
      rw [HD.out.1, HD.out.2.1]
      exact eq_arr V 9998 Tryd.underlying32 (by kernel_rfl) Tryd.underlying5 (by kernel_rfl) (by kernel_rfl) l0 l1 HD.out.2.2.2.2.2.2.1 HD.out.2.2.2.2.2.2.2
    have hQ := fun (z : Gr W8) => HQC.out z.1 (grown_trans H8.out.1 z.2) l1 HD.out.2.2.2.2.2.2.2 D1 HD.out.2.1 ov HO.out.2.2.2.2.2.2.2.2.1
    by_cases h01 : l0 = l1
    · rw [decide_eq_true h01] at heq
      have T1 := Lib.hid (show ∀ z : Gr W8, Calls Tryd.prog 12 #[.agg gv, .agg ov] z.1 fun e w' => e = .returned .nilIface ∧ z.1.grownBy w' none from fun z => by
        have h := hQ z
        rw [show firstN V ep ep l1 l0 0 = 0 by simp [firstN, beginN, HRS.out, h01]] at h
        exact h)
      clear hQ h01
      refine wp_region_grown (by kernel_rfl) (by kernel_rfl) ?_
      repeat (first
        | (refine wpQuiet_load_row 34 _ ⟨g, 0, none⟩ (.agg gv) (by rfl) rfl rfl (by rintro _ ⟨z, rfl⟩; exact V1.out z) ?_; simp only [Act.put, List.setIfInBounds_toArray, List.set_cons_zero, List.set_cons_succ])
        | (refine wpQuiet_load_row 39 _ ⟨oo, 0, none⟩ (.agg ov) (by rfl) rfl rfl (by rintro _ ⟨z, rfl⟩; exact V2.out z) ?_; simp only [Act.put, List.setIfInBounds_toArray, List.set_cons_zero, List.set_cons_succ])
        | (refine wpQuiet_load_row 32 _ ⟨q, 0, none⟩ (.agg D0) (by rfl) rfl rfl (by rintro _ ⟨z, rfl⟩; exact V3.out z) ?_; simp only [Act.put, List.setIfInBounds_toArray, List.set_cons_zero, List.set_cons_succ])
        | (refine wpQuiet_load_row 32 _ ⟨q, 16, none⟩ (.agg D1) (by rfl) rfl rfl (by rintro _ ⟨z, rfl⟩; exact V4.out z) ?_; simp only [Act.put, List.setIfInBounds_toArray, List.set_cons_zero, List.set_cons_succ])
        | (refine wpQuiet_load_row 58 _ ⟨tt, 0, none⟩ (.agg tv) (by rfl) rfl rfl (by rintro _ ⟨z, rfl⟩; exact V5.out z) ?_; simp only [Act.put, List.setIfInBounds_toArray, List.set_cons_zero, List.set_cons_succ])
        | go_big_quiet_step (first
        | (go_at_call 12; with_reducible exact Calls.grown _ (T1.out _))
        | (go_at_call 14; with_reducible exact Calls.grown _ (T2.out _))))
      refine wpQuiet_nil ?_
      rintro w9 ⟨⟨_, k9⟩, rfl⟩
      have H9 := Lib.hid (grown_trans H8.out.1 k9)
      clear k9 heq
      go_wp2_with fail
      go_ret
      exact ⟨rfl, H9.out⟩
    · rw [decide_eq_false h01] at heq
      have T1 := Lib.hid (show ∀ z : Gr W8, Calls Tryd.prog 12 #[.agg gv, .agg ov] z.1 fun e w' => e = .returned (errV (E 11)) ∧ z.1.grownBy w' none from fun z => by
        have h := hQ z
        rw [show firstN V ep ep l1 l0 0 = 12 by simp [firstN, beginN, HRS.out, Ne.symm h01]] at h
        exact h)
      clear hQ h01
      refine wp_region_grown (by kernel_rfl) (by kernel_rfl) ?_
      repeat (first
        | (refine wpQuiet_load_row 34 _ ⟨g, 0, none⟩ (.agg gv) (by rfl) rfl rfl (by rintro _ ⟨z, rfl⟩; exact V1.out z) ?_; simp only [Act.put, List.setIfInBounds_toArray, List.set_cons_zero, List.set_cons_succ])
        | (refine wpQuiet_load_row 39 _ ⟨oo, 0, none⟩ (.agg ov) (by rfl) rfl rfl (by rintro _ ⟨z, rfl⟩; exact V2.out z) ?_; simp only [Act.put, List.setIfInBounds_toArray, List.set_cons_zero, List.set_cons_succ])
        | (refine wpQuiet_load_row 32 _ ⟨q, 0, none⟩ (.agg D0) (by rfl) rfl rfl (by rintro _ ⟨z, rfl⟩; exact V3.out z) ?_; simp only [Act.put, List.setIfInBounds_toArray, List.set_cons_zero, List.set_cons_succ])
        | (refine wpQuiet_load_row 32 _ ⟨q, 16, none⟩ (.agg D1) (by rfl) rfl rfl (by rintro _ ⟨z, rfl⟩; exact V4.out z) ?_; simp only [Act.put, List.setIfInBounds_toArray, List.set_cons_zero, List.set_cons_succ])
        | (refine wpQuiet_load_row 58 _ ⟨tt, 0, none⟩ (.agg tv) (by rfl) rfl rfl (by rintro _ ⟨z, rfl⟩; exact V5.out z) ?_; simp only [Act.put, List.setIfInBounds_toArray, List.set_cons_zero, List.set_cons_succ])
        | go_big_quiet_step (first
        | (go_at_call 12; with_reducible exact Calls.grown _ (T1.out _))
        | (go_at_call 14; with_reducible exact Calls.grown _ (T2.out _))))
      refine wpQuiet_nil ?_
      rintro w9 ⟨⟨_, k9⟩, rfl⟩
      have H9 := Lib.hid (grown_trans H8.out.1 k9)
      clear k9 heq
      go_wp2_with fail
      go_ret
      exact ⟨rfl, H9.out⟩
end Go.Proofs.YtlokjbjpmhfkhaaDoor
