/-
 pieces.Fits; epochs.certified: three certificates, each of its block.
-/
import Derived.Test.YtigafnbofmiknaaGreatDoorEpR
import Derived.Test.YtigafnbofmiknaaGreatDoorW20k
namespace Go.Proofs.YtigafnbofmiknaaGreatDoor
set_option maxRecDepth 100000
set_option maxHeartbeats 10000000
open Go.RowKit

attribute [local go_sem] Oper.semAt_some

def fitsB (q : Qc) (id : List Int) (b : Bk) : Bool := decide (q.Bl = id) && (decide (q.e = b.e) && decide (q.r = b.r))
theorem sz_QCq : (Tryz.prog.info? 29).map (·.size) = some 19 := by kernel_rfl
theorem sz_CGq : (Tryz.prog.info? 35).map (·.size) = some 136 := by kernel_rfl
theorem sz_Q3q : (Tryz.prog.info? 98).map (·.size) = some 57 := by kernel_rfl
theorem u5 {w : World} {q : Qc} (h : q.At w) : q.val.size = 19 := by simp [Qc.val, h.1.1]
theorem zb3 (q : Qc) : (q.val.all fun v => v.oneCell') = true := by
 have h1 : ((arrV .u8 q.Bl).all fun v => v.oneCell') = true := zu _ _
 simp only [Qc.val, Array.all_append, h1, Bool.true_and]
 simp [Value.oneCell']
theorem qc_parts {w : World} {q : Qc} {g o : Nat} (hP : q.Bl.length = 16) (r : w.rangeAt g o q.val.toList) : w.cell? ⟨g, o, none⟩ = some (.int .i64 q.e) /\ w.cell? ⟨g, o + 1, none⟩ = some (.int .i64 q.r) /\ w.rangeAt g (o + 2) (arrV .u8 q.Bl).toList := by
 have e1 : q.val.toList = [.int .i64 q.e, .int .i64 q.r] ++ ((arrV .u8 q.Bl).toList ++ [.slice q.A q.L.length q.c]) := by simp [Qc.val]
 rw [e1] at r
 exact ⟨by have := r 0 (.int .i64 q.e) rfl; simpa using this, by have := r 1 (.int .i64 q.r) rfl; simpa using this, by have := zx r; simpa using this⟩
theorem zbh {w : World} {b : Bk} {g o : Nat} (r : w.rangeAt g o b.val.toList) : w.cell? ⟨g, o, none⟩ = some (.int .i64 b.e) /\ w.cell? ⟨g, o + 1, none⟩ = some (.int .i64 b.r) := by
 have e1 : b.val.toList = .int .i64 b.e :: .int .i64 b.r :: ((arrV .u8 b.P).toList ++ (b.q.val.toList ++ [.slice b.A b.T.length b.c, .slice b.A2 b.V.length b.c2])) := by simp [Bk.val]
 rw [e1] at r
 exact ⟨by have := r 0 (.int .i64 b.e) rfl; simpa using this, by have := r 1 (.int .i64 b.r) rfl; simpa using this⟩
theorem ue (T : TypeId) (b o : Nat) (cs : Array Value) (d : TypeDesc) (hu : Tryz.prog.underlying T = some d) (hd : d.isRow = true) (hi : (Tryz.prog.info? T).map (·.size) = some cs.size) (z : World) (h : z.rangeAt b o cs.toList) : Sem.run Tryz.prog (Instr.loadAt T (.pointer (some ⟨b, o, none⟩))) z = .ok (.agg cs) z := by
 have := run_loadAt_mid (P := Tryz.prog) z b o T cs.toList d h hu hd (by rw [Array.length_toList]; exact hi)
 rwa [Array.toArray_toList] at this
theorem ze6 (w : World) (q : Qc) (hq : isDig q.Bl) (qv : Array Value) (hqv : qv = q.val) (id : List Int) (hid : id.length = 16) (dv : Array Value) (hdv : dv = arrV .u8 id) (b : Bk) (bv : Array Value) (hbv : bv = b.val) :
    Calls Tryz.prog 37 #[.agg qv, .agg dv, .agg bv] w fun e w' => e = .returned (.bool (fitsB q id b)) /\ w.grownBy w' none := by
 obtain ⟨W1, hW1⟩ : ∃ W1, ((w.alloc (.cells qv 29)).alloc (.cells dv 24)).alloc (.cells bv 32) = W1 := ⟨_, rfl⟩
 have g1 : w.grownBy W1 none := by rw [<- hW1]; exact za (za (gQ) (gQ)) (gQ)
 have b1 : Blk W1 w.heap.size 29 q.val := by rw [<- hW1, <- hqv]; exact ((Blk.new w _ _).alloc _).alloc _
 have b2 : Blk W1 (w.heap.size + 1) 24 dv := by
  have := (Blk.new (w.alloc (.cells qv 29)) 24 dv).alloc (.cells bv 32)
  rw [<- hW1]; simpa using this
 have b3 : Blk W1 (w.heap.size + 2) 32 b.val := by
  have := Blk.new ((w.alloc (.cells qv 29)).alloc (.cells dv 24)) 32 bv
  rw [<- hW1, <- hbv]; simpa using this
 obtain ⟨k0, k1, k2⟩ := qc_parts hq.1 (zd b1)
 obtain ⟨m0, m1⟩ := zbh (zd b3)
 rw [Nat.zero_add] at k1 k2 m1
 obtain ⟨qd, hqd⟩ : ∃ v, arrV .u8 q.Bl = v := ⟨_, rfl⟩
 have heq : ∀ V, Sem.run Tryz.prog (Op.equalIn 10000 24 (.agg qd) (.agg dv)) V = .ok (decide (q.Bl = id)) V := fun V => by rw [<- hqd, hdv]; exact eqD V _ _ hq.1 hid
 rw [hqd] at k2
 obtain ⟨d, hd⟩ : ∃ d, decide (q.Bl = id) = d := ⟨_, rfl⟩
 rw [hd] at heq
 obtain ⟨e1, he1⟩ : ∃ v, q.e = v := ⟨_, rfl⟩
 obtain ⟨e2, he2⟩ : ∃ v, b.e = v := ⟨_, rfl⟩
 obtain ⟨r1, hr1⟩ : ∃ v, q.r = v := ⟨_, rfl⟩
 obtain ⟨r2, hr2⟩ : ∃ v, b.r = v := ⟨_, rfl⟩
 unfold fitsB
 rw [hd, he1, he2, hr1, hr2]
 rw [he1] at k0
 rw [hr1] at k1
 rw [he2] at m0
 rw [hr2] at m1
 have HL := hQ_ (aQ k2 (aQ (zd b2) (aQ (show (Tryz.prog.info? 24).map (·.size) = some qd.size by rw [<- hqd, zf, hq.1]; exact sz_Dg) (show (Tryz.prog.info? 24).map (·.size) = some dv.size by rw [hdv, zf, hid]; exact sz_Dg))))
 have HW := hQ_ hW1
 have HG := hQ_ g1
 clear k2 hqd hd he1 he2 hr1 hr2 g1 b1 b2 b3 hW1 hq hqv hid hdv hbv
 cases d
 · rw [Bool.false_and]
   go_enter Tryz.func37, Tryz.ntmps37
   go_upto_region 1 with (fail)
   rw [HW.out]
   go_wp2_with (first
    | (refine wpList_load_mid rfl 24 _ rfl (w.heap.size) 2 rfl qd.toList _ HL.out.1 Tryz.underlying24 rfl (by rw [Array.length_toList]; exact HL.out.2.2.1) ?_; rw [Array.toArray_toList])
    | (refine wpList_load_mid rfl 24 _ rfl (w.heap.size + 1) 0 rfl dv.toList _ HL.out.2.1 Tryz.underlying24 rfl (by rw [Array.length_toList]; exact HL.out.2.2.2) ?_; rw [Array.toArray_toList]))
   go_ret
   exact ⟨rfl, HG.out⟩
 · rw [Bool.true_and]
   by_cases he : e1 = e2
   · subst he
     have q1 : (e1 == e1) = true := by simp
     have q2 : decide (e1 = e1) = true := by simp
     rw [q2, Bool.true_and]
     by_cases hr : r1 = r2
     · subst hr
       have q3 : (r1 == r1) = true := by simp
       have q4 : decide (r1 = r1) = true := by simp
       rw [q4]
       go_enter Tryz.func37, Tryz.ntmps37
       go_upto_region 1 with (fail)
       rw [HW.out]
       go_wp2_with (first
        | (refine wpList_load_mid rfl 24 _ rfl (w.heap.size) 2 rfl qd.toList _ HL.out.1 Tryz.underlying24 rfl (by rw [Array.length_toList]; exact HL.out.2.2.1) ?_; rw [Array.toArray_toList])
        | (refine wpList_load_mid rfl 24 _ rfl (w.heap.size + 1) 0 rfl dv.toList _ HL.out.2.1 Tryz.underlying24 rfl (by rw [Array.length_toList]; exact HL.out.2.2.2) ?_; rw [Array.toArray_toList]))
       go_ret
       exact ⟨rfl, HG.out⟩
     · have q3 : (r1 == r2) = false := by simpa using hr
       have q4 : decide (r1 = r2) = false := by simpa using hr
       rw [q4]
       clear hr
       go_enter Tryz.func37, Tryz.ntmps37
       go_upto_region 1 with (fail)
       rw [HW.out]
       go_wp2_with (first
        | (refine wpList_load_mid rfl 24 _ rfl (w.heap.size) 2 rfl qd.toList _ HL.out.1 Tryz.underlying24 rfl (by rw [Array.length_toList]; exact HL.out.2.2.1) ?_; rw [Array.toArray_toList])
        | (refine wpList_load_mid rfl 24 _ rfl (w.heap.size + 1) 0 rfl dv.toList _ HL.out.2.1 Tryz.underlying24 rfl (by rw [Array.length_toList]; exact HL.out.2.2.2) ?_; rw [Array.toArray_toList]))
       go_ret
       exact ⟨rfl, HG.out⟩
   · have q1 : (e1 == e2) = false := by simpa using he
     have q2 : decide (e1 = e2) = false := by simpa using he
     rw [q2, Bool.false_and]
     clear he
     go_enter Tryz.func37, Tryz.ntmps37
     go_upto_region 1 with (fail)
     rw [HW.out]
     go_wp2_with (first
      | (refine wpList_load_mid rfl 24 _ rfl (w.heap.size) 2 rfl qd.toList _ HL.out.1 Tryz.underlying24 rfl (by rw [Array.length_toList]; exact HL.out.2.2.1) ?_; rw [Array.toArray_toList])
      | (refine wpList_load_mid rfl 24 _ rfl (w.heap.size + 1) 0 rfl dv.toList _ HL.out.2.1 Tryz.underlying24 rfl (by rw [Array.length_toList]; exact HL.out.2.2.2) ?_; rw [Array.toArray_toList]))
     go_ret
     exact ⟨rfl, HG.out⟩
theorem arr19 (sd : Array Value) (h : sd.size = 19) : ∃ a0 a1 a2 a3 a4 a5 a6 a7 a8 a9 a10 a11 a12 a13 a14 a15 a16 a17 a18 : Value, sd = #[a0, a1, a2, a3, a4, a5, a6, a7, a8, a9, a10, a11, a12, a13, a14, a15, a16, a17, a18] := by
 obtain ⟨l⟩ := sd
 have h : l.length = 19 := h
 match l, h with
 | [a0, a1, a2, a3, a4, a5, a6, a7, a8, a9, a10, a11, a12, a13, a14, a15, a16, a17, a18], _ => exact ⟨a0, a1, a2, a3, a4, a5, a6, a7, a8, a9, a10, a11, a12, a13, a14, a15, a16, a17, a18, rfl⟩
theorem q3_build (w : World) (X Y Z : Array Value) (h1 : X.size = 19) (h2 : Y.size = 19) (h3 : Z.size = 19) : Sem.run Tryz.prog (Instr.build 98 #[(0, .agg X), (1, .agg Y), (2, .agg Z)]) w = .ok (.agg (X ++ (Y ++ Z))) w := by
 obtain ⟨a0, a1, a2, a3, a4, a5, a6, a7, a8, a9, a10, a11, a12, a13, a14, a15, a16, a17, a18, rfl⟩ := arr19 X h1
 obtain ⟨b0, b1, b2, b3, b4, b5, b6, b7, b8, b9, b10, b11, b12, b13, b14, b15, b16, b17, b18, rfl⟩ := arr19 Y h2
 obtain ⟨c0, c1, c2, c3, c4, c5, c6, c7, c8, c9, c10, c11, c12, c13, c14, c15, c16, c17, c18, rfl⟩ := arr19 Z h3
 refine run_build w 98 _ _ ?_
 kernel_rfl
def certN (qf : Qc -> Nat) (x y z : Bk) (q : Qc) : Nat :=
 if fitsB y.q (idD x) x = false then 12 else if fitsB z.q (idD y) y = false then 12 else if fitsB q (idD z) z = false then 12
 else if qf y.q ≠ 0 then qf y.q else if qf z.q ≠ 0 then qf z.q else qf q
def cgV (x y z : Bk) (q : Qc) : Array Value := x.val ++ (y.val ++ (z.val ++ q.val))
theorem zes {w : World} {x y z : Bk} {q : Qc} {g : Nat} {t : TypeId} (hx : x.val.size = 39) (hy : y.val.size = 39) (hz : z.val.size = 39) (h : Blk w g t (cgV x y z q)) : w.rangeAt g 0 x.val.toList /\ w.rangeAt g 39 y.val.toList /\ w.rangeAt g 78 z.val.toList /\ w.rangeAt g 117 q.val.toList := by
 have r := zd h
 have e0 : (cgV x y z q).toList = [] ++ (x.val.toList ++ (y.val.toList ++ (z.val.toList ++ q.val.toList))) := by simp [cgV]
 have e1 : (cgV x y z q).toList = x.val.toList ++ (y.val.toList ++ (z.val.toList ++ q.val.toList)) := by simp [cgV]
 have e2 : (cgV x y z q).toList = (x.val.toList ++ y.val.toList) ++ (z.val.toList ++ q.val.toList) := by simp [cgV]
 have e3 : (cgV x y z q).toList = (x.val.toList ++ (y.val.toList ++ z.val.toList)) ++ (q.val.toList ++ []) := by simp [cgV]
 refine ⟨?_, ?_, ?_, ?_⟩
 · have := r; rw [e0] at this; have := zx this; simpa using this
 · have := r; rw [e1] at this; have := zx this; simpa [hx] using this
 · have := r; rw [e2] at this; have := zx this; simpa [hx, hy] using this
 · have := r; rw [e3] at this; have := zx this; simpa [hx, hy, hz] using this
theorem bk_qc {w : World} {b : Bk} {g o : Nat} (hP : b.P.length = 16) (r : w.rangeAt g o b.val.toList) : w.rangeAt g (o + 18) b.q.val.toList := by
 have e1 : b.val.toList = ([.int .i64 b.e, .int .i64 b.r] ++ (arrV .u8 b.P).toList) ++ (b.q.val.toList ++ [.slice b.A b.T.length b.c, .slice b.A2 b.V.length b.c2]) := by simp [Bk.val]
 rw [e1] at r
 have := zx r
 simpa [arrV, hP] using this
theorem zq3_run : ∃ Z : Array Value, Z.size = 57 /\ ∀ w : World, Sem.run Tryz.prog (zeroValue 98) w = .ok (.agg Z) w :=
 ⟨Qc.val ⟨0, 0, List.replicate 16 0, none, 0, []⟩ ++ (Qc.val ⟨0, 0, List.replicate 16 0, none, 0, []⟩ ++ Qc.val ⟨0, 0, List.replicate 16 0, none, 0, []⟩), rfl, fun w => vu w (by kernel_rfl)⟩
theorem zq_run : ∃ Z : Array Value, Z.size = 19 /\ ∀ w : World, Sem.run Tryz.prog (zeroValue 29) w = .ok (.agg Z) w :=
 ⟨Qc.val ⟨0, 0, List.replicate 16 0, none, 0, []⟩, rfl, fun w => vu w (by kernel_rfl)⟩
theorem certified_is (w : World) (E : Nat -> Addr) (hep : ErrAt w w.heap.size 11 (E 11)) (gv : Array Value) (hgs : gv.size = 18) (qf : Qc -> Nat)
    (PQ : Qc -> Prop) (HQC : ∀ (W : World), w.grownBy W none -> ∀ (p : Qc), PQ p -> p.At W -> ∀ pv : Array Value, pv = p.val -> Calls Tryz.prog 38 #[.agg gv, .agg pv] W fun e w' => e = .returned (evOf E (qf p)) /\ W.grownBy w' none)
    (x y z : Bk) (q : Qc) (hPQ : PQ y.q /\ PQ z.q /\ PQ q) (hx : x.At w) (hy : y.At w) (hzz : z.At w) (hq : q.At w) (cv : Array Value) (hcv : cgV x y z q = cv) (ids : Array Value) (hids : arrV .u8 (idD x ++ (idD y ++ idD z)) = ids) :
    Calls Tryz.prog 21 #[.agg gv, .agg cv, .agg ids] w fun e w' => e = .returned (evOf E (certN qf x y z q)) /\ w.grownBy w' none := by
 obtain ⟨ZQ3, hZ3, hz3⟩ := zq3_run
 obtain ⟨ZQ, hZ1, hz1⟩ := zq_run
 obtain ⟨q1, hq1⟩ : ∃ v, y.q.val = v := ⟨_, rfl⟩
 obtain ⟨q2, hq2⟩ : ∃ v, z.q.val = v := ⟨_, rfl⟩
 obtain ⟨q3, hq3⟩ : ∃ v, q.val = v := ⟨_, rfl⟩
 have s1 : q1.size = 19 := by rw [<- hq1]; exact u5 hy.2.1
 have s2 : q2.size = 19 := by rw [<- hq2]; exact u5 hzz.2.1
 have s3 : q3.size = 19 := by rw [<- hq3]; exact u5 hq
 have o1 : (q1.all fun v => v.oneCell') = true := by rw [<- hq1]; exact zb3 _
 have o2 : (q2.all fun v => v.oneCell') = true := by rw [<- hq2]; exact zb3 _
 have o3 : (q3.all fun v => v.oneCell') = true := by rw [<- hq3]; exact zb3 _
 obtain ⟨cs, hcs⟩ : ∃ v, q1 ++ (q2 ++ q3) = v := ⟨_, rfl⟩
 have scs : cs.size = 57 := by rw [<- hcs]; simp [s1, s2, s3]
 have ocs : (cs.all fun v => v.oneCell') = true := by rw [<- hcs]; simp only [Array.all_append, o1, o2, o3, Bool.true_and]
 have HBQ := hQ_ (show ∀ w, Sem.run Tryz.prog (Instr.build 98 #[(0, .agg q1), (1, .agg q2), (2, .agg q3)]) w = .ok (.agg cs) w from fun w => by rw [<- hcs]; exact q3_build w q1 q2 q3 s1 s2 s3)
 have ix0 : ∀ V, Sem.run Tryz.prog (Instr.index 98 (.agg cs) (.int .i64 0)) V = .ok (.agg q1) V := fun V => zad V Tryz.underlying98 Tryz.underlying29 sz_QCq cs q1 0 0 rfl (by omega) (by rw [<- hcs]; simp [s1])
 have ix1 : ∀ V, Sem.run Tryz.prog (Instr.index 98 (.agg cs) (.int .i64 1)) V = .ok (.agg q2) V := fun V => zad V Tryz.underlying98 Tryz.underlying29 sz_QCq cs q2 1 1 rfl (by omega) (by
  have e1 : q1.toList.drop 19 = [] := List.drop_eq_nil_of_le (by simp [s1])
  rw [<- hcs]; simp [s1, s2, List.drop_append, List.take_append, e1])
 have ix2 : ∀ V, Sem.run Tryz.prog (Instr.index 98 (.agg cs) (.int .i64 2)) V = .ok (.agg q3) V := fun V => zad V Tryz.underlying98 Tryz.underlying29 sz_QCq cs q3 2 2 rfl (by omega) (by
  have e1 : q1.toList.drop 38 = [] := List.drop_eq_nil_of_le (by simp [s1])
  have e2 : q3.toList.take 19 = q3.toList := List.take_of_length_le (by simp [s3])
  rw [<- hcs]; simp [s1, s2, List.drop_append, e1, e2])
 have sx := vn hx
 have sy := vn hy
 have szz := vn hzz
 obtain ⟨xv, hxv⟩ : ∃ v, x.val = v := ⟨_, rfl⟩
 obtain ⟨yv, hyv⟩ : ∃ v, y.val = v := ⟨_, rfl⟩
 obtain ⟨zv, hzv⟩ : ∃ v, z.val = v := ⟨_, rfl⟩
 obtain ⟨da, hda⟩ : ∃ c, arrV .u8 (idD x) = c := ⟨_, rfl⟩
 obtain ⟨db, hdb⟩ : ∃ c, arrV .u8 (idD y) = c := ⟨_, rfl⟩
 obtain ⟨dc, hdc⟩ : ∃ c, arrV .u8 (idD z) = c := ⟨_, rfl⟩
 have la := z7 x
 have lb := z7 y
 have lc := z7 z
 obtain ⟨W1, hW1⟩ : ∃ W1, ((w.alloc (.cells gv 26)).alloc (.cells cv 35)).alloc (.cells ids 64) = W1 := ⟨_, rfl⟩
 have g1 : w.grownBy W1 none := by rw [<- hW1]; exact za (za (gQ) (gQ)) (gQ)
 have bg : Blk W1 w.heap.size 26 gv := by rw [<- hW1]; exact ((Blk.new w _ _).alloc _).alloc _
 have bc : Blk W1 (w.heap.size + 1) 35 (cgV x y z q) := by
  have := (Blk.new (w.alloc (.cells gv 26)) 35 cv).alloc (.cells ids 64)
  rw [hcv, <- hW1]; simpa using this
 have bi : Blk W1 (w.heap.size + 2) 64 (arrV .u8 (idD x ++ (idD y ++ idD z))) := by
  have := Blk.new ((w.alloc (.cells gv 26)).alloc (.cells cv 35)) 64 ids
  rw [hids, <- hW1]; simpa using this
 obtain ⟨rx, ry, rz, rq⟩ := zes sx sy szz bc
 have ry2 := bk_qc hy.1.1 ry
 have rz2 := bk_qc hzz.1.1 rz
 have i0 := zc0 [] (idD y ++ idD z) (idD x) (o := 0) rfl (show Blk W1 (w.heap.size + 2) 64 (arrV .u8 ([] ++ (idD x ++ (idD y ++ idD z)))) from bi)
 have i1 := zc0 (idD x) (idD z) (idD y) (o := 16) la bi
 have i2 := zc0 (idD x ++ idD y) [] (idD z) (o := 32) (by simp [la, lb]) (by rw [List.append_nil, List.append_assoc]; exact bi)
 rw [hxv] at rx sx
 rw [hyv] at ry sy
 rw [hzv] at rz szz
 rw [hq1] at ry2
 rw [hq2] at rz2
 rw [hq3] at rq
 rw [hda] at i0
 rw [hdb] at i1
 rw [hdc] at i2
 have HR := hQ_ (aQ rx (aQ ry (aQ rz (aQ rq (aQ ry2 (aQ rz2 (aQ i0 (aQ i1 (aQ i2 (aQ (zd bg) g1))))))))))
 have HF0 := hQ_ (fun (W : World) => ze6 W y.q hy.2.1.1 q1 hq1.symm (idD x) la da hda.symm x xv hxv.symm)
 have HF1 := hQ_ (fun (W : World) => ze6 W z.q hzz.2.1.1 q2 hq2.symm (idD y) lb db hdb.symm y yv hyv.symm)
 have HF2 := hQ_ (fun (W : World) => ze6 W q hq.1 q3 hq3.symm (idD z) lc dc hdc.symm z zv hzv.symm)
 have HQ0 := hQ_ (fun (W : World) (hW : w.grownBy W none) => HQC W hW y.q hPQ.1 (hy.grown hW).2.1 q1 hq1.symm)
 have HQ1 := hQ_ (fun (W : World) (hW : w.grownBy W none) => HQC W hW z.q hPQ.2.1 (hzz.grown hW).2.1 q2 hq2.symm)
 have HQ2 := hQ_ (fun (W : World) (hW : w.grownBy W none) => HQC W hW q hPQ.2.2 (hq.grown hW) q3 hq3.symm)
 have szq : ∀ v : Array Value, v.size = 19 -> (Tryz.prog.info? 29).map (·.size) = some v.size := fun v h => by rw [h]; exact sz_QCq
 have szb : ∀ v : Array Value, v.size = 39 -> (Tryz.prog.info? 32).map (·.size) = some v.size := fun v h => by rw [h]; exact sz_Bke
 have szd : ∀ v : Array Value, v.size = 16 -> (Tryz.prog.info? 24).map (·.size) = some v.size := fun v h => by rw [h]; exact sz_Dg
 have HSQ := hQ_ (aQ (szq q1 s1) (aQ (szq q2 s2) (aQ (szq q3 s3) (aQ o1 (aQ o2 (aQ o3 (aQ (show ZQ.size = q1.size by rw [s1, hZ1]) (aQ (show ZQ.size = q2.size by rw [s2, hZ1]) (show ZQ.size = q3.size by rw [s3, hZ1])))))))))
 have HSB := hQ_ (aQ (szb xv sx) (aQ (szb yv sy) (szb zv szz)))
 have HSD := hQ_ (aQ (szd da (by rw [<- hda, zf, la])) (aQ (szd db (by rw [<- hdb, zf, lb])) (szd dc (by rw [<- hdc, zf, lc]))))
 have HSC := hQ_ (aQ (show (Tryz.prog.info? 98).map (·.size) = some cs.size by rw [scs]; exact sz_Q3q) (aQ (show ZQ3.size = cs.size by rw [scs, hZ3]) (aQ ocs (show (Tryz.prog.info? 26).map (·.size) = some gv.size by rw [hgs]; exact sz_Gre))))
 have HPE := hQ_ (fun (W : World) (hW : w.grownBy W none) => show W.cell? ⟨11, 0, none⟩ = some (errV (E 11)) from hW.cell hep.1 (by simp))
 obtain ⟨f0, hf0⟩ : ∃ b, fitsB y.q (idD x) x = b := ⟨_, rfl⟩
 obtain ⟨f1, hf1⟩ : ∃ b, fitsB z.q (idD y) y = b := ⟨_, rfl⟩
 obtain ⟨f2, hf2⟩ : ∃ b, fitsB q (idD z) z = b := ⟨_, rfl⟩
 rw [hf0] at HF0
 rw [hf1] at HF1
 rw [hf2] at HF2
 obtain ⟨N, hN⟩ : ∃ n, certN qf x y z q = n := ⟨_, rfl⟩
 rw [hN]
 have HN := hQ_ hN
 have HW := hQ_ hW1
 clear hZ3 hZ1 hq1 hq2 hq3 s1 s2 s3 o1 o2 o3 hcs scs ocs sx sy szz hxv hyv hzv hda hdb hdc la lb lc g1 bg bc bi rx ry rz rq ry2 rz2 i0 i1 i2 szq szb szd hN hW1 hx hy hzz hq HQC hPQ hcv hids hgs hep
 go_enter Tryz.func21, Tryz.ntmps21
 go_upto_region 1 with (fail)
 rw [HW.out]
 obtain ⟨q4, hq4⟩ : ∃ q, W1.heap.size = q := ⟨_, rfl⟩
 obtain ⟨W4, hW4⟩ : ∃ W, (W1.alloc (.cells ZQ3 98)).setRow q4 cs = W := ⟨_, rfl⟩
 have bn4 : Blk (W1.alloc (.cells ZQ3 98)) q4 98 ZQ3 := by rw [<- hq4]; exact Blk.new W1 98 ZQ3
 have b4 : Blk W4 q4 98 cs := by rw [<- hW4]; exact bn4.row _
 have g4 : W1.grownBy W4 none := by rw [<- hW4]; exact zc (gQ) (.inl (by rw [hq4]; exact Nat.le_refl _)) _
 have HP4 := hQ_ (aQ bn4 hW4)
 have HB4 := hQ_ b4
 clear bn4 hW4 b4
 have HGg4 := hQ_ g4
 clear g4
 go_upto_region 2 with (first
  | (refine wpList_load_mid rfl 29 _ rfl (w.heap.size + 1) 57 rfl q1.toList _ HR.out.2.2.2.2.1 Tryz.underlying29 rfl (by rw [Array.length_toList]; exact HSQ.out.1) ?_; rw [Array.toArray_toList])
  | (refine wpList_load_mid rfl 29 _ rfl (w.heap.size + 1) 96 rfl q2.toList _ HR.out.2.2.2.2.2.1 Tryz.underlying29 rfl (by rw [Array.length_toList]; exact HSQ.out.2.1) ?_; rw [Array.toArray_toList])
  | (refine wpList_load_mid rfl 29 _ rfl (w.heap.size + 1) 117 rfl q3.toList _ HR.out.2.2.2.1 Tryz.underlying29 rfl (by rw [Array.length_toList]; exact HSQ.out.2.2.1) ?_; rw [Array.toArray_toList])
  | (refine yg (by rfl) 98 #[(0, Operand.tmp 16), (1, Operand.tmp 20), (2, Operand.tmp 22)] rfl _ (by kernel_rfl) (.agg cs) (HBQ.out _) ?_)
  | (refine wpList_store_row rfl 98 _ _ rfl (q4) cs rfl rfl 98 _ HP4.out.1 (HSC.out.1) (HSC.out.2.1) HSC.out.2.2.1 ?_))
 rw [HP4.out.2]
 clear hq4
 go_wp2_with (refine wpList_load_mid rfl 98 _ rfl (q4) 0 rfl cs.toList _ (zd HB4.out) Tryz.underlying98 rfl (by rw [Array.length_toList]; exact HSC.out.1) ?_; rw [Array.toArray_toList])
 refine wp_loop_rounds 4 ?_
 rw [rounds_succ]
 obtain ⟨q10, hq10⟩ : ∃ q, W4.heap.size = q := ⟨_, rfl⟩
 obtain ⟨W10, hW10⟩ : ∃ W, (W4.alloc (.cells ZQ 29)).setRow q10 q1 = W := ⟨_, rfl⟩
 have bn10 : Blk (W4.alloc (.cells ZQ 29)) q10 29 ZQ := by rw [<- hq10]; exact Blk.new W4 29 ZQ
 have b10 : Blk W10 q10 29 q1 := by rw [<- hW10]; exact bn10.row _
 have g10 : W4.grownBy W10 none := by rw [<- hW10]; exact zc (gQ) (.inl (by rw [hq10]; exact Nat.le_refl _)) _
 have HP10 := hQ_ (aQ bn10 hW10)
 have HB10 := hQ_ b10
 clear bn10 hW10 b10
 have HGg10 := hQ_ g10
 clear g10
 go_upto_region 5 with (refine wpList_store_row rfl 29 _ _ rfl (q10) q1 rfl rfl 29 _ HP10.out.1 (HSQ.out.1) (HSQ.out.2.2.2.2.2.2.1) HSQ.out.2.2.2.1 ?_)
 rw [HP10.out.2]
 clear hq10
 have L1 := hQ_ (fun z : Gr W10 => ue 29 q10 0 q1 _ Tryz.underlying29 rfl HSQ.out.1 z.1 (ze (zd HB10.out) z.2))
 have L2 := hQ_ (fun z : Gr W10 => ue 24 (w.heap.size + 2) 0 da _ Tryz.underlying24 rfl HSD.out.1 z.1 (ze (ze HR.out.2.2.2.2.2.2.1 (za HGg4.out HGg10.out)) z.2))
 have L3 := hQ_ (fun z : Gr W10 => ue 32 (w.heap.size + 1) 0 xv _ Tryz.underlying32 rfl HSB.out.1 z.1 (ze (ze HR.out.1 (za HGg4.out HGg10.out)) z.2))
 have S1 := hQ_ (fun z : Gr W10 => HF0.out z.1)
 refine zj (by kernel_rfl) (by kernel_rfl) ?_
 repeat (first
  | go_big_quiet_skip
  | (refine zy 29 _ ⟨q10, 0, none⟩ (.agg q1) (by rfl) rfl rfl (by rintro _ ⟨z, rfl⟩; exact L1.out z) ?_; simp only [Act.put, List.setIfInBounds_toArray, List.set_cons_zero, List.set_cons_succ])
  | (refine zy 24 _ ⟨w.heap.size + 2, 0, none⟩ (.agg da) (by rfl) rfl rfl (by rintro _ ⟨z, rfl⟩; exact L2.out z) ?_; simp only [Act.put, List.setIfInBounds_toArray, List.set_cons_zero, List.set_cons_succ])
  | (refine zy 32 _ ⟨w.heap.size + 1, 0, none⟩ (.agg xv) (by rfl) rfl rfl (by rintro _ ⟨z, rfl⟩; exact L3.out z) ?_; simp only [Act.put, List.setIfInBounds_toArray, List.set_cons_zero, List.set_cons_succ])
  | go_big_quiet_step (first
  | (go_at_call 37; with_reducible exact Calls.grown _ (S1.out _))))
 refine wpQuiet_nil ?_
 rintro w11 ⟨⟨_, g11⟩, rfl⟩
 clear L1 L2 L3 S1
 have HGg11 := hQ_ g11
 clear g11
 cases hc0 : f0 with
 | false =>
  subst hc0
  have ce := HPE.out w11 (za HR.out.2.2.2.2.2.2.2.2.2.2 (za (za HGg4.out HGg10.out) HGg11.out))
  have hnn : N = 12 := by rw [<- HN.out]; unfold certN; simp [hf0]
  subst hnn
  go_wp2_with fail
  go_ret
  exact ⟨rfl, za HR.out.2.2.2.2.2.2.2.2.2.2 (za (za HGg4.out HGg10.out) HGg11.out)⟩
 | true =>
  subst hc0
  have HT0 := hQ_ hf0
  clear hf0
  go_wp2_with fail
  rw [rounds_succ]
  obtain ⟨q20, hq20⟩ : ∃ q, w11.heap.size = q := ⟨_, rfl⟩
  obtain ⟨W20, hW20⟩ : ∃ W, (w11.alloc (.cells ZQ 29)).setRow q20 q2 = W := ⟨_, rfl⟩
  have bn20 : Blk (w11.alloc (.cells ZQ 29)) q20 29 ZQ := by rw [<- hq20]; exact Blk.new w11 29 ZQ
  have b20 : Blk W20 q20 29 q2 := by rw [<- hW20]; exact bn20.row _
  have g20 : w11.grownBy W20 none := by rw [<- hW20]; exact zc (gQ) (.inl (by rw [hq20]; exact Nat.le_refl _)) _
  have HP20 := hQ_ (aQ bn20 hW20)
  have HB20 := hQ_ b20
  clear bn20 hW20 b20
  have HGg20 := hQ_ g20
  clear g20
  go_upto_region 5 with (refine wpList_store_row rfl 29 _ _ rfl (q20) q2 rfl rfl 29 _ HP20.out.1 (HSQ.out.2.1) (HSQ.out.2.2.2.2.2.2.2.1) HSQ.out.2.2.2.2.1 ?_)
  rw [HP20.out.2]
  clear hq20
  have L1 := hQ_ (fun z : Gr W20 => ue 29 q20 0 q2 _ Tryz.underlying29 rfl HSQ.out.2.1 z.1 (ze (zd HB20.out) z.2))
  have L2 := hQ_ (fun z : Gr W20 => ue 24 (w.heap.size + 2) 16 db _ Tryz.underlying24 rfl HSD.out.2.1 z.1 (ze (ze HR.out.2.2.2.2.2.2.2.1 (za (za (za HGg4.out HGg10.out) HGg11.out) HGg20.out)) z.2))
  have L3 := hQ_ (fun z : Gr W20 => ue 32 (w.heap.size + 1) 39 yv _ Tryz.underlying32 rfl HSB.out.2.1 z.1 (ze (ze HR.out.2.1 (za (za (za HGg4.out HGg10.out) HGg11.out) HGg20.out)) z.2))
  have S1 := hQ_ (fun z : Gr W20 => HF1.out z.1)
  refine zj (by kernel_rfl) (by kernel_rfl) ?_
  repeat (first
   | go_big_quiet_skip
   | (refine zy 29 _ ⟨q20, 0, none⟩ (.agg q2) (by rfl) rfl rfl (by rintro _ ⟨z, rfl⟩; exact L1.out z) ?_; simp only [Act.put, List.setIfInBounds_toArray, List.set_cons_zero, List.set_cons_succ])
   | (refine zy 24 _ ⟨w.heap.size + 2, 16, none⟩ (.agg db) (by rfl) rfl rfl (by rintro _ ⟨z, rfl⟩; exact L2.out z) ?_; simp only [Act.put, List.setIfInBounds_toArray, List.set_cons_zero, List.set_cons_succ])
   | (refine zy 32 _ ⟨w.heap.size + 1, 39, none⟩ (.agg yv) (by rfl) rfl rfl (by rintro _ ⟨z, rfl⟩; exact L3.out z) ?_; simp only [Act.put, List.setIfInBounds_toArray, List.set_cons_zero, List.set_cons_succ])
   | go_big_quiet_step (first
   | (go_at_call 37; with_reducible exact Calls.grown _ (S1.out _))))
  refine wpQuiet_nil ?_
  rintro w21 ⟨⟨_, g21⟩, rfl⟩
  clear L1 L2 L3 S1
  have HGg21 := hQ_ g21
  clear g21
  cases hc1 : f1 with
  | false =>
   subst hc1
   have ce := HPE.out w21 (za HR.out.2.2.2.2.2.2.2.2.2.2 (za (za (za (za HGg4.out HGg10.out) HGg11.out) HGg20.out) HGg21.out))
   have hnn : N = 12 := by rw [<- HN.out]; unfold certN; simp [HT0.out, hf1]
   subst hnn
   go_wp2_with fail
   go_ret
   exact ⟨rfl, za HR.out.2.2.2.2.2.2.2.2.2.2 (za (za (za (za HGg4.out HGg10.out) HGg11.out) HGg20.out) HGg21.out)⟩
  | true =>
   subst hc1
   have HT1 := hQ_ hf1
   clear hf1
   go_wp2_with fail
   rw [rounds_succ]
   obtain ⟨q30, hq30⟩ : ∃ q, w21.heap.size = q := ⟨_, rfl⟩
   obtain ⟨W30, hW30⟩ : ∃ W, (w21.alloc (.cells ZQ 29)).setRow q30 q3 = W := ⟨_, rfl⟩
   have bn30 : Blk (w21.alloc (.cells ZQ 29)) q30 29 ZQ := by rw [<- hq30]; exact Blk.new w21 29 ZQ
   have b30 : Blk W30 q30 29 q3 := by rw [<- hW30]; exact bn30.row _
   have g30 : w21.grownBy W30 none := by rw [<- hW30]; exact zc (gQ) (.inl (by rw [hq30]; exact Nat.le_refl _)) _
   have HP30 := hQ_ (aQ bn30 hW30)
   have HB30 := hQ_ b30
   clear bn30 hW30 b30
   have HGg30 := hQ_ g30
   clear g30
   go_upto_region 5 with (refine wpList_store_row rfl 29 _ _ rfl (q30) q3 rfl rfl 29 _ HP30.out.1 (HSQ.out.2.2.1) (HSQ.out.2.2.2.2.2.2.2.2) HSQ.out.2.2.2.2.2.1 ?_)
   rw [HP30.out.2]
   clear hq30
   have L1 := hQ_ (fun z : Gr W30 => ue 29 q30 0 q3 _ Tryz.underlying29 rfl HSQ.out.2.2.1 z.1 (ze (zd HB30.out) z.2))
   have L2 := hQ_ (fun z : Gr W30 => ue 24 (w.heap.size + 2) 32 dc _ Tryz.underlying24 rfl HSD.out.2.2 z.1 (ze (ze HR.out.2.2.2.2.2.2.2.2.1 (za (za (za (za (za HGg4.out HGg10.out) HGg11.out) HGg20.out) HGg21.out) HGg30.out)) z.2))
   have L3 := hQ_ (fun z : Gr W30 => ue 32 (w.heap.size + 1) 78 zv _ Tryz.underlying32 rfl HSB.out.2.2 z.1 (ze (ze HR.out.2.2.1 (za (za (za (za (za HGg4.out HGg10.out) HGg11.out) HGg20.out) HGg21.out) HGg30.out)) z.2))
   have S1 := hQ_ (fun z : Gr W30 => HF2.out z.1)
   refine zj (by kernel_rfl) (by kernel_rfl) ?_
   repeat (first
    | go_big_quiet_skip
    | (refine zy 29 _ ⟨q30, 0, none⟩ (.agg q3) (by rfl) rfl rfl (by rintro _ ⟨z, rfl⟩; exact L1.out z) ?_; simp only [Act.put, List.setIfInBounds_toArray, List.set_cons_zero, List.set_cons_succ])
    | (refine zy 24 _ ⟨w.heap.size + 2, 32, none⟩ (.agg dc) (by rfl) rfl rfl (by rintro _ ⟨z, rfl⟩; exact L2.out z) ?_; simp only [Act.put, List.setIfInBounds_toArray, List.set_cons_zero, List.set_cons_succ])
    | (refine zy 32 _ ⟨w.heap.size + 1, 78, none⟩ (.agg zv) (by rfl) rfl rfl (by rintro _ ⟨z, rfl⟩; exact L3.out z) ?_; simp only [Act.put, List.setIfInBounds_toArray, List.set_cons_zero, List.set_cons_succ])
    | go_big_quiet_step (first
    | (go_at_call 37; with_reducible exact Calls.grown _ (S1.out _))))
   refine wpQuiet_nil ?_
   rintro w31 ⟨⟨_, g31⟩, rfl⟩
   clear L1 L2 L3 S1
   have HGg31 := hQ_ g31
   clear g31
   cases hc2 : f2 with
   | false =>
    subst hc2
    have ce := HPE.out w31 (za HR.out.2.2.2.2.2.2.2.2.2.2 (za (za (za (za (za (za HGg4.out HGg10.out) HGg11.out) HGg20.out) HGg21.out) HGg30.out) HGg31.out))
    have hnn : N = 12 := by rw [<- HN.out]; unfold certN; simp [HT0.out, HT1.out, hf2]
    subst hnn
    go_wp2_with fail
    go_ret
    exact ⟨rfl, za HR.out.2.2.2.2.2.2.2.2.2.2 (za (za (za (za (za (za HGg4.out HGg10.out) HGg11.out) HGg20.out) HGg21.out) HGg30.out) HGg31.out)⟩
   | true =>
    subst hc2
    have HT2 := hQ_ hf2
    clear hf2
    go_wp2_with fail
    rw [rounds_succ]
    go_wp2_with (refine wpList_load_mid rfl 98 _ rfl (q4) 0 rfl cs.toList _ (zd (HB4.out.grown (za (za (za (za (za HGg10.out HGg11.out) HGg20.out) HGg21.out) HGg30.out) HGg31.out) (by simp))) Tryz.underlying98 rfl (by rw [Array.length_toList]; exact HSC.out.1) ?_; rw [Array.toArray_toList])
    refine wp_loop_rounds 4 ?_
    rw [rounds_succ]
    obtain ⟨q40, hq40⟩ : ∃ q, w31.heap.size = q := ⟨_, rfl⟩
    obtain ⟨W40, hW40⟩ : ∃ W, (w31.alloc (.cells ZQ 29)).setRow q40 q1 = W := ⟨_, rfl⟩
    have bn40 : Blk (w31.alloc (.cells ZQ 29)) q40 29 ZQ := by rw [<- hq40]; exact Blk.new w31 29 ZQ
    have b40 : Blk W40 q40 29 q1 := by rw [<- hW40]; exact bn40.row _
    have g40 : w31.grownBy W40 none := by rw [<- hW40]; exact zc (gQ) (.inl (by rw [hq40]; exact Nat.le_refl _)) _
    have HP40 := hQ_ (aQ bn40 hW40)
    have HB40 := hQ_ b40
    clear bn40 hW40 b40
    have HGg40 := hQ_ g40
    clear g40
    go_upto_region 11 with (refine wpList_store_row rfl 29 _ _ rfl (q40) q1 rfl rfl 29 _ HP40.out.1 (HSQ.out.1) (HSQ.out.2.2.2.2.2.2.1) HSQ.out.2.2.2.1 ?_)
    rw [HP40.out.2]
    clear hq40
    go_wp2_with (first
     | (refine wpList_load_mid rfl 26 _ rfl (w.heap.size) 0 rfl gv.toList _ (ze HR.out.2.2.2.2.2.2.2.2.2.1 (za (za (za (za (za (za (za HGg4.out HGg10.out) HGg11.out) HGg20.out) HGg21.out) HGg30.out) HGg31.out) HGg40.out)) Tryz.underlying26 rfl (by rw [Array.length_toList]; exact HSC.out.2.2.2) ?_; rw [Array.toArray_toList])
     | (refine wpList_load_mid rfl 29 _ rfl (q40) 0 rfl q1.toList _ (zd HB40.out) Tryz.underlying29 rfl (by rw [Array.length_toList]; exact HSQ.out.1) ?_; rw [Array.toArray_toList]))
    refine (HQ0.out W40 (za HR.out.2.2.2.2.2.2.2.2.2.2 (za (za (za (za (za (za (za HGg4.out HGg10.out) HGg11.out) HGg20.out) HGg21.out) HGg30.out) HGg31.out) HGg40.out))).mono ?_
    rintro e w41 ⟨rfl, g41⟩
    have HGg41 := hQ_ g41
    clear g41
    cases hn0 : qf y.q with
    | succ m =>
     have hnn : N = m + 1 := by rw [<- HN.out]; unfold certN; simp [HT0.out, HT1.out, HT2.out, hn0]
     subst hnn
     clear hn0
     have hev : evOf E (m + 1) = errV (E m) := rfl
     rw [hev]
     go_wp2_with fail
     go_ret
     exact ⟨rfl, za HR.out.2.2.2.2.2.2.2.2.2.2 (za (za (za (za (za (za (za (za HGg4.out HGg10.out) HGg11.out) HGg20.out) HGg21.out) HGg30.out) HGg31.out) HGg40.out) HGg41.out)⟩
    | zero =>
     have HQN0 := hQ_ hn0
     clear hn0
     have hev : evOf E 0 = .nilIface := rfl
     rw [hev]
     clear hev
     go_wp2_with fail
     rw [rounds_succ]
     obtain ⟨q50, hq50⟩ : ∃ q, w41.heap.size = q := ⟨_, rfl⟩
     obtain ⟨W50, hW50⟩ : ∃ W, (w41.alloc (.cells ZQ 29)).setRow q50 q2 = W := ⟨_, rfl⟩
     have bn50 : Blk (w41.alloc (.cells ZQ 29)) q50 29 ZQ := by rw [<- hq50]; exact Blk.new w41 29 ZQ
     have b50 : Blk W50 q50 29 q2 := by rw [<- hW50]; exact bn50.row _
     have g50 : w41.grownBy W50 none := by rw [<- hW50]; exact zc (gQ) (.inl (by rw [hq50]; exact Nat.le_refl _)) _
     have HP50 := hQ_ (aQ bn50 hW50)
     have HB50 := hQ_ b50
     clear bn50 hW50 b50
     have HGg50 := hQ_ g50
     clear g50
     go_upto_region 11 with (refine wpList_store_row rfl 29 _ _ rfl (q50) q2 rfl rfl 29 _ HP50.out.1 (HSQ.out.2.1) (HSQ.out.2.2.2.2.2.2.2.1) HSQ.out.2.2.2.2.1 ?_)
     rw [HP50.out.2]
     clear hq50
     go_wp2_with (first
      | (refine wpList_load_mid rfl 26 _ rfl (w.heap.size) 0 rfl gv.toList _ (ze HR.out.2.2.2.2.2.2.2.2.2.1 (za (za (za (za (za (za (za (za (za HGg4.out HGg10.out) HGg11.out) HGg20.out) HGg21.out) HGg30.out) HGg31.out) HGg40.out) HGg41.out) HGg50.out)) Tryz.underlying26 rfl (by rw [Array.length_toList]; exact HSC.out.2.2.2) ?_; rw [Array.toArray_toList])
      | (refine wpList_load_mid rfl 29 _ rfl (q50) 0 rfl q2.toList _ (zd HB50.out) Tryz.underlying29 rfl (by rw [Array.length_toList]; exact HSQ.out.2.1) ?_; rw [Array.toArray_toList]))
     refine (HQ1.out W50 (za HR.out.2.2.2.2.2.2.2.2.2.2 (za (za (za (za (za (za (za (za (za HGg4.out HGg10.out) HGg11.out) HGg20.out) HGg21.out) HGg30.out) HGg31.out) HGg40.out) HGg41.out) HGg50.out))).mono ?_
     rintro e w51 ⟨rfl, g51⟩
     have HGg51 := hQ_ g51
     clear g51
     cases hn1 : qf z.q with
     | succ m =>
      have hnn : N = m + 1 := by rw [<- HN.out]; unfold certN; simp [HT0.out, HT1.out, HT2.out, HQN0.out, hn1]
      subst hnn
      clear hn1
      have hev : evOf E (m + 1) = errV (E m) := rfl
      rw [hev]
      go_wp2_with fail
      go_ret
      exact ⟨rfl, za HR.out.2.2.2.2.2.2.2.2.2.2 (za (za (za (za (za (za (za (za (za (za HGg4.out HGg10.out) HGg11.out) HGg20.out) HGg21.out) HGg30.out) HGg31.out) HGg40.out) HGg41.out) HGg50.out) HGg51.out)⟩
     | zero =>
      have HQN1 := hQ_ hn1
      clear hn1
      have hev : evOf E 0 = .nilIface := rfl
      rw [hev]
      clear hev
      go_wp2_with fail
      rw [rounds_succ]
      obtain ⟨q60, hq60⟩ : ∃ q, w51.heap.size = q := ⟨_, rfl⟩
      obtain ⟨W60, hW60⟩ : ∃ W, (w51.alloc (.cells ZQ 29)).setRow q60 q3 = W := ⟨_, rfl⟩
      have bn60 : Blk (w51.alloc (.cells ZQ 29)) q60 29 ZQ := by rw [<- hq60]; exact Blk.new w51 29 ZQ
      have b60 : Blk W60 q60 29 q3 := by rw [<- hW60]; exact bn60.row _
      have g60 : w51.grownBy W60 none := by rw [<- hW60]; exact zc (gQ) (.inl (by rw [hq60]; exact Nat.le_refl _)) _
      have HP60 := hQ_ (aQ bn60 hW60)
      have HB60 := hQ_ b60
      clear bn60 hW60 b60
      have HGg60 := hQ_ g60
      clear g60
      go_upto_region 11 with (refine wpList_store_row rfl 29 _ _ rfl (q60) q3 rfl rfl 29 _ HP60.out.1 (HSQ.out.2.2.1) (HSQ.out.2.2.2.2.2.2.2.2) HSQ.out.2.2.2.2.2.1 ?_)
      rw [HP60.out.2]
      clear hq60
      go_wp2_with (first
       | (refine wpList_load_mid rfl 26 _ rfl (w.heap.size) 0 rfl gv.toList _ (ze HR.out.2.2.2.2.2.2.2.2.2.1 (za (za (za (za (za (za (za (za (za (za (za HGg4.out HGg10.out) HGg11.out) HGg20.out) HGg21.out) HGg30.out) HGg31.out) HGg40.out) HGg41.out) HGg50.out) HGg51.out) HGg60.out)) Tryz.underlying26 rfl (by rw [Array.length_toList]; exact HSC.out.2.2.2) ?_; rw [Array.toArray_toList])
       | (refine wpList_load_mid rfl 29 _ rfl (q60) 0 rfl q3.toList _ (zd HB60.out) Tryz.underlying29 rfl (by rw [Array.length_toList]; exact HSQ.out.2.2.1) ?_; rw [Array.toArray_toList]))
      refine (HQ2.out W60 (za HR.out.2.2.2.2.2.2.2.2.2.2 (za (za (za (za (za (za (za (za (za (za (za HGg4.out HGg10.out) HGg11.out) HGg20.out) HGg21.out) HGg30.out) HGg31.out) HGg40.out) HGg41.out) HGg50.out) HGg51.out) HGg60.out))).mono ?_
      rintro e w61 ⟨rfl, g61⟩
      have HGg61 := hQ_ g61
      clear g61
      cases hn2 : qf q with
      | succ m =>
       have hnn : N = m + 1 := by rw [<- HN.out]; unfold certN; simp [HT0.out, HT1.out, HT2.out, HQN0.out, HQN1.out, hn2]
       subst hnn
       clear hn2
       have hev : evOf E (m + 1) = errV (E m) := rfl
       rw [hev]
       go_wp2_with fail
       go_ret
       exact ⟨rfl, za HR.out.2.2.2.2.2.2.2.2.2.2 (za (za (za (za (za (za (za (za (za (za (za (za HGg4.out HGg10.out) HGg11.out) HGg20.out) HGg21.out) HGg30.out) HGg31.out) HGg40.out) HGg41.out) HGg50.out) HGg51.out) HGg60.out) HGg61.out)⟩
      | zero =>
       have HQN2 := hQ_ hn2
       clear hn2
       have hev : evOf E 0 = .nilIface := rfl
       rw [hev]
       clear hev
       go_wp2_with fail
       rw [rounds_succ]
       go_wp2_with fail
       have hnn : N = 0 := by rw [<- HN.out]; unfold certN; simp [HT0.out, HT1.out, HT2.out, HQN0.out, HQN1.out, HQN2.out]
       subst hnn
       go_ret
       exact ⟨rfl, za HR.out.2.2.2.2.2.2.2.2.2.2 (za (za (za (za (za (za (za (za (za (za (za (za HGg4.out HGg10.out) HGg11.out) HGg20.out) HGg21.out) HGg30.out) HGg31.out) HGg40.out) HGg41.out) HGg50.out) HGg51.out) HGg60.out) HGg61.out)⟩
end Go.Proofs.YtigafnbofmiknaaGreatDoor
