/- TrD, Vf, Pf7, GdN, Ge -/
import Derived.Test.YtigafnbofmiknaaGreatDoorW20l
import Derived.Test.YtigafnbofmiknaaGreatDoorW20p
import Derived.Test.YtigafnbofmiknaaGreatDoorW20h
import Derived.Test.YtigafnbofmiknaaGreatDoorW20q
import Derived.Test.YtigafnbofmiknaaGreatDoorW20k
import Derived.Test.YtigafnbofmiknaaGreatDoorW20t
import Derived.Test.YtigafnbofmiknaaGreatDoorW20e
import Derived.Test.YtigafnbofmiknaaGreatDoorW20m
import Derived.Test.YtigafnbofmiknaaGreatDoorW20r
namespace Go.Proofs.YtigafnbofmiknaaGreatDoor
set_option maxRecDepth 100000
set_option maxHeartbeats 10000000
open Go.RowKit
section
theorem climb_form (w : World) (B : Nat) (a : Addr) (hE : ErrAt w B (gix.getD 3 0) a) (lf : Int) (hlf : 0 <= lf /\ lf < 32) (A : Option Addr) (n c : Nat) (hn68 : n ≠ 5) (ds : Array Value) (hds : ds.size = 16) (zs : Array Value) (hzs : zs = arrV .u8 (List.replicate 16 0)) :
    Calls Tryz.prog 118 #[.agg ds, .int .i64 lf, .slice A n c] w fun e w' => e = .returned (.tuple #[.agg zs, errV a]) /\ w.grownBy w' none := by
 obtain ⟨zl, hzl⟩ : ∃ l, l = zs.toList := ⟨_, rfl⟩
 have hz : zs = zl.toArray := by rw [hzl, Array.toArray_toList]
 have hz16 : ∀ w, Sem.run Tryz.prog (zeroValue 24) w = .ok (.agg zl.toArray) w := fun w => by rw [<- hz, hzs]; exact z16run w
 have hzn : zl.length = 16 := by rw [hzl, Array.length_toList, hzs]; rfl
 have hi6 : (Tryz.prog.info? 24).map (·.size) = some zl.length := by rw [hzn]; exact info16
 have ho6 : ∀ v ∈ zl, v.oneCell' = true := by rw [hzl, hzs]; simp [Value.oneCell']
 have HZ := hQ_ (aQ hz (aQ hzn (show (zs.all fun v => v.oneCell') = true by rw [hzs]; exact zu _ _)))
 have HLF := hQ_ hlf
 have HE := hQ_ hE
 have HDS := hQ_ hds
 have HZL := hQ_ hzl
 have hB0 : 3 < w.heap.size := by
  have := World.block_lt_of_cell? w _ hE.1
  simpa only [gix, List.getD_cons_zero, List.getD_cons_succ] using this
 clear hzl hzs hlf hE hds
 go_enter Tryz.func118, Tryz.ntmps118
 obtain ⟨w0, hw0⟩ : ∃ w0, w0 = (w.alloc (.cells ds 24)).alloc (.cells zl.toArray 24) := ⟨_, rfl⟩
 have HZ0 := hQ_ (show Blk w0 (w.heap.size + 1) 24 zs by rw [hw0, hz]; have := Blk.new (w.alloc (.cells ds 24)) 24 zl.toArray; rwa [World.size_alloc] at this)
 have HG0 := hQ_ (show w.grownBy w0 none by rw [hw0]; exact za (gQ) (gQ))
 have HW0 := hQ_ hw0
 clear hw0
 go_wp2_with fail
 rw [<- HW0.out]
 refine (leaf_yes w0 lf HLF.out).mono ?_
 rintro e w9 ⟨rfl, h9⟩
 rw [h9]
 clear h9
 have d68 : ¬ ((n : Int) = 5) := by omega
 go_wp2_with fail
 have hT : w0.drew.there (w.heap.size + 1) 0 16 := zw HZ0.out.drew (by rw [HZ.out.1, List.size_toArray, HZ.out.2.1]; exact Nat.le_refl _)
 have hc : w0.drew.cell? ⟨gix.getD 3 0, 0, none⟩ = some (errV a) := by
  rw [World.cell?_drew]; exact HG0.out.cell HE.out.1 (by simp)
 simp only [gix, List.getD_cons_zero, List.getD_cons_succ] at hc
 have hS := aQ hT hc
 have hgb : ¬ 3 = w.heap.size + 1 := by omega
 clear hT hc
 go_region_held3 (fun W => W.there (w.heap.size + 1) 0 16 /\ W.cell? ⟨3, 0, none⟩ = some (errV a)) (first | exact hS | assumption | exact ⟨World.there_setCells hS.1 _ _ _, (World.cell?_setCells_out _ _ _ _ _ (fun e => absurd e hgb)).trans hS.2⟩)
  (fail)
 have HB9 := hQ_ HZ0.out.drew
 have HG9 := hQ_ (show w.grownBy w0.drew none from za HG0.out (zh (World.grownBy.refl w0 none)))
 have HEQ := hQ_ (show w0.drew.setCells (w.heap.size + 1) 0 zl = w0.drew.setRow (w.heap.size + 1) zs by
  rw [HZL.out]
  exact zi (P := Tryz.prog) HB9.out (by rw [HZ.out.1, List.size_toArray, HZ.out.2.1]; exact info16) rfl HZ.out.2.2)
 rw [HEQ.out]
 go_wp2_with fail
 refine bodyPost_ret (zr rfl _ _ _ ⟨w.heap.size + 1, 0, none⟩ (.agg zs) rfl (run_loadVar_row _ (w.heap.size + 1) 24 24 zs (0, 0) _ (HB9.out.row zs) Tryz.underlying24 rfl (by rw [HZ.out.1, List.size_toArray, HZ.out.2.1]; exact info16))) rfl ?_
 exact ⟨rfl, zc HG9.out (.inl (Nat.le_succ _)) zs⟩
end
section
def vfB (root d : List Int) (lf : Int) (n1 n2 : Nat) (cs ps : List (List Int)) : Bool := decide (0 <= lf /\ lf < 32) && (decide (n1 = 68) && (decide (n2 = 5) && decide (climbC (recC lf cs d) lf ps 5 = root)))
theorem zc3 {root d : List Int} {lf : Int} {n1 n2 : Nat} {cs ps : List (List Int)} (h : ¬ (0 <= lf /\ lf < 32)) : vfB root d lf n1 n2 cs ps = false := by rw [vfB, decide_eq_false h]; rfl
theorem vfB_form1 {root d : List Int} {lf : Int} {n1 n2 : Nat} {cs ps : List (List Int)} (h : n1 ≠ 68) : vfB root d lf n1 n2 cs ps = false := by rw [vfB, decide_eq_false h]; simp
theorem vfB_form2 {root d : List Int} {lf : Int} {n1 n2 : Nat} {cs ps : List (List Int)} (h : n2 ≠ 5) : vfB root d lf n1 n2 cs ps = false := by rw [vfB, decide_eq_false h]; simp
theorem vfB_ok {root d : List Int} {lf : Int} {cs ps : List (List Int)} (h : 0 <= lf /\ lf < 32) : vfB root d lf 68 5 cs ps = decide (climbC (recC lf cs d) lf ps 5 = root) := by rw [vfB, decide_eq_true h]; simp
theorem verify_any (w : World) (hR : Rounds w) (B : Nat) (E : Nat -> Addr) (he : ErrEnv w B E) (hB : 4 <= w.heap.size) (root d : List Int) (hroot : root.length = 16) (hd : isDig d) (rt dd : Array Value) (hrt : rt = arrV .u8 root) (hdd : dd = arrV .u8 d) (lf : Int) (A1 A2 : Option Addr) (n1 c1 n2 c2 : Nat) (cs ps : List (List Int)) (hC : DigRow w A1 n1 cs) (hP : DigRow w A2 n2 ps) :
    Calls Tryz.prog 96 #[.agg rt, .agg dd, .agg (sigV lf (.slice A1 n1 c1) (.slice A2 n2 c2))] w fun e w' => e = .returned (.bool (vfB root d lf n1 n2 cs ps)) /\ w.grownBy w' none := by
 have hr16 : rt.size = 16 := by rw [hrt, zf, hroot]
 have hd16 : dd.size = 16 := by rw [hdd, zf, hd.1]
 obtain ⟨Z, hZ⟩ : ∃ Z, Z = arrV .u8 (List.replicate 16 0) := ⟨_, rfl⟩
 have hZ16 : Z.size = 16 := by rw [hZ]; rfl
 have hZ1 : (Z.all fun v => v.oneCell') = true := by rw [hZ]; exact zu _ _
 by_cases hneg : lf < 0
 · rw [zc3 (by omega)]
   exact zd1 w rt dd hr16 hd16 lf A1 A2 n1 c1 n2 c2 Z hZ16 hZ1 (E 0) (fun y hy => recover_no y B (E 0) ((he.grown hy (by simp)).var 0 (by omega)) lf (.inl hneg) A1 n1 c1 dd hd16 Z hZ)
 by_cases hbig : 32 <= lf
 · rw [zc3 (by omega)]
   exact zd1 w rt dd hr16 hd16 lf A1 A2 n1 c1 n2 c2 Z hZ16 hZ1 (E 0) (fun y hy => recover_no y B (E 0) ((he.grown hy (by simp)).var 0 (by omega)) lf (.inr hbig) A1 n1 c1 dd hd16 Z hZ)
 have hlf : 0 <= lf /\ lf < 32 := by omega
 by_cases h68 : n1 = 68
 · subst h68
   obtain ⟨cl, cd, c0 | ⟨b1, o1, rfl, hD1⟩⟩ := hC
   · omega
   obtain ⟨xs, hxs⟩ : ∃ xs, xs = arrV .u8 (recC lf cs d) := ⟨_, rfl⟩
   have hxd : isDig (recC lf cs d) := by rw [recC]; exact zed _ _
   have hx16 : xs.size = 16 := by rw [hxs, zf, hxd.1]
   have hx1 : (xs.all fun v => v.oneCell') = true := by rw [hxs]; exact zu _ _
   have R1 : ∀ y, w.grownBy y none -> Calls Tryz.prog 117 #[.int .i64 lf, .slice (some ⟨b1, o1, none⟩) 68 c1, .agg dd] y fun e w' => e = .returned (.tuple #[.agg xs, .nilIface]) /\ y.grownBy w' none := fun y hy => by
    rw [hdd]
    exact recover_ok y (hR.grown hy (by simp)) lf hlf b1 o1 c1 cs cl cd (hD1.grown hy) d hd xs hxs
   by_cases h5 : n2 = 5
   · subst h5
     obtain ⟨pl, pd, p0 | ⟨b2, o2, rfl, hD2⟩⟩ := hP
     · omega
     obtain ⟨ts, hts⟩ : ∃ ts, ts = arrV .u8 (climbC (recC lf cs d) lf ps 5) := ⟨_, rfl⟩
     have htd := zaj hxd lf ps 5
     have ht16 : ts.size = 16 := by rw [hts, zf, htd.1]
     have ht1 : (ts.all fun v => v.oneCell') = true := by rw [hts]; exact zu _ _
     have hq : ∀ V, Sem.run Tryz.prog (Op.equalIn 10000 24 (.agg ts) (.agg rt)) V = .ok (decide (climbC (recC lf cs d) lf ps 5 = root)) V := fun V => by
      rw [hts, hrt]
      exact eq_arr V 9998 Tryz.underlying24 (by kernel_rfl) Tryz.underlying5 (by kernel_rfl) (by kernel_rfl) _ _ htd.1 hroot
     rw [vfB_ok hlf]
     exact verify_c w rt dd hr16 hd16 lf _ _ 68 c1 5 c2 xs ts hx16 hx1 ht16 ht1 _ hq R1 (fun y hy => climb_ok y (hR.grown hy (by simp)) _ hxd lf hlf b2 o2 c2 ps pl pd (hD2.grown hy) xs ts hxs hts)
   · rw [vfB_form2 h5]
     exact verify_b w rt dd hr16 hd16 lf _ A2 68 c1 n2 c2 xs Z hx16 hx1 hZ16 hZ1 (E 3) R1 (fun y hy => climb_form y B (E 3) ((he.grown hy (by simp)).var 3 (by omega)) lf hlf A2 n2 c2 h5 xs hx16 Z hZ)
 · rw [vfB_form1 h68]
   exact zd1 w rt dd hr16 hd16 lf A1 A2 n1 c1 n2 c2 Z hZ16 hZ1 (E 3) (fun y hy => recover_form y B (E 3) ((he.grown hy (by simp)).var 3 (by omega)) lf hlf A1 n1 c1 h68 (by have := hy.size; omega) dd hd16 Z hZ)
end
section
attribute [local go_sem] Oper.semAt_some
def clC (who : Int) (D : Array Value) (lf : Int) (s1 s2 : Value) : Array Value := #[.int .i64 who] ++ (D ++ sigV lf s1 s2)
theorem clC_size {who lf : Int} {D : Array Value} {s1 s2 : Value} (h : D.size = 16) : (clC who D lf s1 s2).size = 20 := by simp [clC, sigV, h]
theorem ze5 : (Tryz.prog.info? 169).map (·.size) = some 20 := by kernel_rfl
theorem cl_cells {w : World} {q : Nat} {t : TypeId} {who lf : Int} {D : Array Value} {s1 s2 : Value} (hD : D.size = 16) (h : Blk w q t (clC who D lf s1 s2)) :
    w.cell? ⟨q, 0, none⟩ = some (.int .i64 who) /\ w.rangeAt q 1 D.toList /\ w.rangeAt q 17 (sigV lf s1 s2).toList := by
 have r0 := yy h
 have e1 : (clC who D lf s1 s2).toList = [.int .i64 who] ++ (D.toList ++ (sigV lf s1 s2).toList) := by simp [clC]
 have e2 : (clC who D lf s1 s2).toList = ([.int .i64 who] ++ D.toList) ++ ((sigV lf s1 s2).toList ++ []) := by simp [clC]
 refine ⟨by rw [e1] at r0; have := r0 0 _ rfl; simpa using this, ?_, ?_⟩
 · rw [e1] at r0
   have := za3 r0
   rwa [Nat.zero_add] at this
 · rw [e2] at r0
   have := za3 r0
   rw [Nat.zero_add] at this
   rwa [show ([Value.int .i64 who] ++ D.toList).length = 17 by simp [hD]] at this
def keyOf (V : List Vd) (who : Int) : List Int := (V.getD who.toNat ⟨[], 0⟩).key
def holdsB (V : List Vd) (who : Int) (d : List Int) (lf : Int) (n1 n2 : Nat) (cs ps : List (List Int)) : Bool := decide (0 <= who /\ who < (V.length : Int)) && vfB (keyOf V who) d lf n1 n2 cs ps
def holdN (b : Bool) : Nat := if b then 0 else 12
section
variable {B : Nat} {E : Nat -> Addr} {e : Int} {A : Option Addr} {c : Nat} {V : List Vd} {G : Array Value}
theorem holds_is (w : World) (hR : Rounds w) (he : ErrEnv w B E) (hB4 : 4 <= w.heap.size) (hV : VdsAt w A V) (ok : keysOk V) (hG : G.size = 16) (gv : Array Value) (hgv : gv = grC e (.slice A V.length c) G)
    (who lf : Int) (d : List Int) (hd : isDig d) (D : Array Value) (hD : D = arrV .u8 d) (A1 A2 : Option Addr) (n1 c1 n2 c2 : Nat) (cs ps : List (List Int)) (hC : DigRow w A1 n1 cs) (hP : DigRow w A2 n2 ps) (cv : Array Value) (hcv : cv = clC who D lf (.slice A1 n1 c1) (.slice A2 n2 c2)) :
    Calls Tryz.prog 75 #[.agg gv, .agg cv] w fun e' w' => e' = .returned (evOf E (holdN (holdsB V who d lf n1 n2 cs ps))) /\ w.grownBy w' none := by
 obtain ⟨q, hq⟩ : ∃ q, w.heap.size = q := ⟨_, rfl⟩
 obtain ⟨w1, hw1⟩ : ∃ w1, (w.alloc (.cells gv 26)).alloc (.cells cv 169) = w1 := ⟨_, rfl⟩
 have g1 : w.grownBy w1 none := by rw [<- hw1]; exact za (gQ) (gQ)
 have hD16 : D.size = 16 := by rw [hD, zf, hd.1]
 have b1 : Blk w1 q 26 (grC e (.slice A V.length c) G) := by rw [<- hw1, <- hq, <- hgv]; exact (Blk.new _ _ _).alloc _
 have b2 : Blk w1 (q + 1) 169 (clC who D lf (.slice A1 n1 c1) (.slice A2 n2 c2)) := by
  have h := Blk.new (w.alloc (.cells gv 26)) 169 cv
  rw [World.size_alloc, hq, hw1, hcv] at h
  exact h
 obtain ⟨x0, x1, _⟩ := y8 b1
 obtain ⟨y0, y1, y2⟩ := cl_cells hD16 b2
 obtain ⟨n, hn⟩ : ∃ n, V.length = n := ⟨_, rfl⟩
 have ve : ∀ w2, w1.grownBy w2 none -> w2.cell? ⟨11, 0, none⟩ = some (errV (E 11)) := fun w2 h => ((he.grown (za g1 h) (fun _ e => by cases e)).var 11 (by omega)).1
 have VE := hQ_ ve
 have HW := hQ_ (aQ hw1 (aQ hq g1))
 by_cases hin : 0 <= who /\ who < (n : Int)
 · have hlt : who.toNat < V.length := by omega
   have hne : V ≠ [] := fun e => by rw [e] at hlt; simp at hlt
   obtain ⟨b, off, rfl, hVc⟩ := hV hne
   have hk : keyOf V who = V[who.toNat].key := by rw [keyOf, List.getD_eq_getElem?_getD, List.getElem?_eq_getElem hlt]; rfl
   have hkl : (keyOf V who).length = 16 := by rw [hk]; exact ok _ (List.getElem_mem hlt)
   obtain ⟨K, hK⟩ : ∃ K, K = arrV .u8 (keyOf V who) := ⟨_, rfl⟩
   have hK16 : K.size = 16 := by rw [hK, zf, hkl]
   have r0 : w1.rangeAt b (off + who.toNat * 17) K.toList := by
    have := ze (zcd (hVc _ hlt)) g1
    rw [hK, hk, arrV]
    simpa using this
   have T1 := hQ_ (show ∀ z : Gr w1, Calls Tryz.prog 96 #[.agg K, .agg D, .agg (sigV lf (.slice A1 n1 c1) (.slice A2 n2 c2))] z.1 fun e w' => e = .returned (.bool (vfB (keyOf V who) d lf n1 n2 cs ps)) /\ z.1.grownBy w' none from fun z =>
    verify_any z.1 (hR.grown (za g1 z.2) (by simp)) B E (he.grown (za g1 z.2) (fun _ e => by cases e)) (Nat.le_trans hB4 (za g1 z.2).size) _ d hkl hd K D hK hD lf A1 A2 n1 c1 n2 c2 cs ps (hC.grown (za g1 z.2)) (hP.grown (za g1 z.2)))
   have V1 := hQ_ (show ∀ z : Gr w1, Sem.run Tryz.prog (Instr.loadAt 24 (.pointer (some ⟨b, off + who.toNat * 17, none⟩))) z.1 = .ok (.agg K) z.1 from fun z => ya z.1 b _ 24 K _ (ze r0 z.2) Tryz.underlying24 rfl (by rw [hK16]; exact zas))
   have V2 := hQ_ (show ∀ z : Gr w1, Sem.run Tryz.prog (Instr.loadAt 24 (.pointer (some ⟨q + 1, 1, none⟩))) z.1 = .ok (.agg D) z.1 from fun z => ya z.1 (q + 1) 1 24 D _ (ze y1 z.2) Tryz.underlying24 rfl (by rw [hD16]; exact zas))
   have V3 := hQ_ (show ∀ z : Gr w1, Sem.run Tryz.prog (Instr.loadAt 87 (.pointer (some ⟨q + 1, 17, none⟩))) z.1 = .ok (.agg (sigV lf (.slice A1 n1 c1) (.slice A2 n2 c2))) z.1 from fun z => ya z.1 (q + 1) 17 87 _ _ (ze y2 z.2) Tryz.underlying87 rfl (by kernel_rfl))
   have k0 := Gr.cell x1
   have k1 := Gr.cell y0
   obtain ⟨o, ho⟩ : ∃ o, o = off + who.toNat * 17 := ⟨_, rfl⟩
   obtain ⟨r, hr⟩ : ∃ r, r = vfB (keyOf V who) d lf n1 n2 cs ps := ⟨_, rfl⟩
   rw [<- hr] at T1
   have hres : holdN (holdsB V who d lf n1 n2 cs ps) = if r then 0 else 12 := by rw [holdsB, hn, decide_eq_true hin, <- hr]; rfl
   rw [hres]
   have d1 : decide (who < 0) = false := by simp; omega
   have d2 : decide ((n : Int) <= who) = false := by simp; omega
   have hin0 := hin.1
   have hin1 := hin.2
   rw [hn] at k0
   have HH := hQ_ (aQ hgv hcv)
   clear hR he hB4 hV ok hG hgv hd hD hC hP hcv b1 b2 x0 x1 y0 y1 y2 hlt hne hVc hk hkl hK hK16 r0 hr hres ve g1 hw1 hq hin hn
   go_enter Tryz.func75, Tryz.ntmps75
   go_upto_region 1 with (fail)
   rw [HW.out.1, HW.out.2.1]
   cases r
   all_goals
    refine zj (by kernel_rfl) (by kernel_rfl) ?_
    repeat (first
     | (refine zy 24 _ ⟨b, off + who.toNat * 17, none⟩ (.agg K) (by rfl) rfl rfl (by rintro _ ⟨z, rfl⟩; exact V1.out z) ?_; simp only [Act.put, List.setIfInBounds_toArray, List.set_cons_zero, List.set_cons_succ])
     | (refine zy 24 _ ⟨q + 1, 1, none⟩ (.agg D) (by rfl) rfl rfl (by rintro _ ⟨z, rfl⟩; exact V2.out z) ?_; simp only [Act.put, List.setIfInBounds_toArray, List.set_cons_zero, List.set_cons_succ])
     | (refine zy 87 _ ⟨q + 1, 17, none⟩ (.agg (sigV lf (.slice A1 n1 c1) (.slice A2 n2 c2))) (by rfl) rfl rfl (by rintro _ ⟨z, rfl⟩; exact V3.out z) ?_; simp only [Act.put, List.setIfInBounds_toArray, List.set_cons_zero, List.set_cons_succ])
     | go_big_quiet_step (first
     | (go_at_call 96; with_reducible exact Calls.grown _ (T1.out _))))
    refine wpQuiet_nil ?_
    rintro w7 ⟨⟨_, k7⟩, rfl⟩
    have HK := hQ_ (za HW.out.2.2 k7)
    have v7 := VE.out _ k7
    clear k7 k0 k1
    go_wp2_with fail
    go_ret
    exact ⟨rfl, HK.out⟩
 · have hres : holdN (holdsB V who d lf n1 n2 cs ps) = 12 := by rw [holdsB, hn, decide_eq_false hin]; rfl
   rw [hres]
   have k0 := Gr.cell x1
   have k1 := Gr.cell y0
   rw [hn] at k0
   have dd : decide (who < 0) = true \/ (decide (who < 0) = false /\ decide ((n : Int) <= who) = true) := by simp; omega
   have HH := hQ_ (aQ hgv hcv)
   clear hR he hB4 hV ok hG hgv hd hD hC hP hcv b1 b2 x0 x1 y0 y1 y2 hres ve g1 hw1 hq hin hn
   rcases dd with d1 | ⟨d1, d2⟩
   all_goals
    go_enter Tryz.func75, Tryz.ntmps75
    go_upto_region 1 with (fail)
    rw [HW.out.1, HW.out.2.1]
    refine zj (by kernel_rfl) (by kernel_rfl) ?_
    repeat go_big_quiet_step (fail)
    refine wpQuiet_nil ?_
    rintro w7 ⟨⟨_, k7⟩, rfl⟩
    have HK := hQ_ (za HW.out.2.2 k7)
    have v7 := VE.out _ k7
    clear k7 k0 k1
    go_wp2_with fail
    go_ret
    exact ⟨rfl, HK.out⟩
end
end
section
theorem made8 (w : World) : Sem.run Tryz.prog (Instr.makeSlice 81 (.int .i64 8) (.int .i64 8)) w = .ok (.slice (some ⟨w.heap.size, 0, none⟩) 8 8) (w.alloc (.cells #[.int .u8 0, .int .u8 0, .int .u8 0, .int .u8 0, .int .u8 0, .int .u8 0, .int .u8 0, .int .u8 0] 5)) := by
 obtain ⟨i, hi, hz0, hz1, hz2⟩ := info_parts (P := Tryz.prog) (e := 5) (z := .int .u8 0) (size := 1) (bytes := 1) (by kernel_rfl)
 have h := run_make (P := Tryz.prog) w 81 5 i _ Tryz.underlying81 hi hz0 .i64 .i64 8 8 (by omega) (Int.le_refl _) (by rw [hz2]; decide) (by omega)
 rw [hz1] at h
 have e : madeCells (Value.int .u8 0).cells (Int.toNat 8 * 1) = #[.int .u8 0, .int .u8 0, .int .u8 0, .int .u8 0, .int .u8 0, .int .u8 0, .int .u8 0, .int .u8 0] := by kernel_rfl
 rw [e] at h
 exact h
def b8 (n : Int) : List Int := [n / 72057594037927936 % 256, n / 281474976710656 % 256, n / 1099511627776 % 256, n / 4294967296 % 256, n / 16777216 % 256, n / 65536 % 256, n / 256 % 256, n % 256]
theorem b8_length (n : Int) : (b8 n).length = 8 := rfl
theorem row_bytesI (w : World) (g : Nat) (xs : List Int) {t : TypeId} (h : Blk w g t (arrV .u8 xs)) : BytesI w (some ⟨g, 0, none⟩) xs := fun _ => ⟨_, rfl, fun j hj => by
 rw [Go.WideShapes.add_plain, Nat.zero_add, h.cell]
 simp [arrV, List.getD, List.getElem?_eq_getElem hj]⟩
theorem number_is (w : World) (n : Int) (hn : -9223372036854775808 <= n /\ n < 9223372036854775808) :
    Calls Tryz.prog 99 #[.int .i64 n] w fun e w' => e = .returned (.slice (some ⟨w.heap.size, 0, none⟩) 8 8) /\ BytesI w' (some ⟨w.heap.size, 0, none⟩) (b8 n) /\ w.grownBy w' none := by
 have hm := made8 w
 go_enter Tryz.func99, Tryz.ntmps99
 go_wp2_with fail
 clear hm
 refine wp_loop_rounds 9 ?_
 rw [rounds_succ]
 go_wp2_with fail
 rw [rounds_succ]
 go_wp2_with fail
 rw [rounds_succ]
 go_wp2_with fail
 rw [rounds_succ]
 go_wp2_with fail
 rw [rounds_succ]
 go_wp2_with fail
 rw [rounds_succ]
 go_wp2_with fail
 rw [rounds_succ]
 go_wp2_with fail
 rw [rounds_succ]
 go_wp2_with fail
 rw [rounds_succ]
 go_wp2_with fail
 go_ret
 exact ⟨rfl, row_bytesI _ _ _ (Blk.new w _ _), gQ⟩
end
section
open Go.RowKit Go.Shelf
theorem Kept.next {F G : Nat -> Prop} {a b c : World} (h : Kept F a b) (k : Kept G b c) (hF : ∀ k, k < a.heap.size -> G k -> F k) : Kept F a c :=
 ⟨k.os.trans h.os, k.tape.trans h.tape, k.output.trans h.output, Nat.le_trans h.size k.size, fun i hi hn => (k.block i (Nat.lt_of_lt_of_le hi h.size) (fun hg => hn (hF i hi hg))).trans (h.block i hi hn)⟩
theorem own_cell {w : World} {base : Nat} {e : TypeId} {n g c : Nat} {cells : List Value} (h : w.ownsRow base e 1 (.slice (some ⟨g, 0, none⟩) n c) n cells) {j : Nat} {u : Value} (hj : cells[j]? = some u) : w.cell? ⟨g, j, none⟩ = some u := by
 have h3 := h.cells (g := g) rfl j u hj
 rwa [Go.WideShapes.add_plain, Nat.zero_add] at h3
theorem wpListIn_push_one {F : Fence} {m : Nat} {P : Program} (w : World) {ops : Array Oper} {rest : List Oper} {o : Oper} {a : Act} {Q : Exit -> Act -> World -> Prop}
    (hg : o.guard = none) (s x : Operand) (t : TypeId) (ho : o.op = Op.call { callee := Callee.builtin Builtin.append, args := #[s, x], argTypes := #[t, t] })
    (base : Nat) (e : TypeId) (i : TypeInfo) (z : Value) (bytes : Nat) (ht : P.underlying t = some (.slice e)) (hi : P.info? e = some i) (hz : i.zero = some z) (hsize : i.size = 1) (hby : i.bytes = bytes) (hzs : z.cells.size = 1)
    (v : Value) (n : Nat) (xs : List Value) (hs : a.eval s = v) (hown : w.ownsRow base e 1 v n xs) (ad : Addr) (c : Nat) (u : Value) (hx : a.eval x = .slice (some ad) 1 c) (hcell : w.cell? ad = some u) (hu : u.oneCell' = true) (h63 : n + 1 <= 1000000000) (hb : bytes <= 100) (hbase : base <= w.heap.size)
    (h : ∀ A' cap' w', w'.ownsRow base e 1 (.slice A' (n + 1) cap') (n + 1) (xs ++ [u]) -> w.grownBy w' v.ownBlock -> ((Value.slice A' (n + 1) cap').ownBlock = v.ownBlock \/ (Value.slice A' (n + 1) cap').ownBlock = some w.heap.size) -> wpListIn F m P ops Q rest (a.put o.dst (.slice A' (n + 1) cap')) w') : wpListIn F m P ops Q (o :: rest) a w := by
 have hcells : ∀ j v, [u][j]? = some v -> w.cell? (ad.add j) = some v := by
  intro j v hv
  rcases j with _ | j
  · simp at hv; subst hv; simpa [Addr.add] using hcell
  · simp at hv
 obtain ⟨v', w', hrun, h2, h3, _, h5⟩ := run_append_own_at (P := P) w base t o.type e i z 1 bytes ht hi hz hsize hby hzs (by omega) v n xs hown ad 1 c [u] (by simp) hcells (by intro v hv; simp at hv; subst hv; exact hu) (by unfold maxLen; omega)
  (Nat.le_trans (Nat.mul_le_mul h63 hb) (by omega)) hbase
 obtain ⟨A', cap', rfl⟩ := zch w' h2
 refine wpListIn_plain hg fun K hK' => ?_
 unfold Oper.wpIn
 refine ⟨?_, ?_⟩
 · simp [Oper.about, ho, resolve, Target.leads, Sem.run_pure]
 · rw [Oper.semAt_plain F _ _ (by rw [ho]; intro c hc'; cases hc')]
   simp [execOp, ho, resolve, invoke, builtin, hs, hx, hrun, Result.andThen]
   exact hK' _ _ (h A' cap' w' h2 h3 h5)
def Still (lo hi : Nat) (A B : World) : Prop := A.heap.size <= B.heap.size /\ ∀ b o, lo <= b -> b < hi -> A.heap[b]? = some o -> o.isCells = true -> B.heap[b]? = some o
section
variable {A B C : World} {lo hi : Nat}
theorem Still.refl (lo hi : Nat) (A : World) : Still lo hi A A := ⟨Nat.le_refl _, fun _ _ _ _ h _ => h⟩
theorem Still.trans (h : Still lo hi A B) (k : Still lo hi B C) : Still lo hi A C := ⟨Nat.le_trans h.1 k.1, fun b o h1 h2 h3 h4 => k.2 b o h1 h2 (h.2 b o h1 h2 h3 h4) h4⟩
theorem Still.put {l : Nat} {o o' : Obj} (ho : A.heap[l]? = some o) (hc : o.isCells = false) : Still lo hi A (A.putObj l o') :=
 ⟨(grownBy_putObj' A l o').size, fun b q _ _ hq hqc => ((grownBy_putObj' A l o').block b (Array.getElem?_eq_some_iff.1 hq).1 (fun e => by
  have := Option.some.inj e
  subst this
  rw [ho] at hq
  cases hq
  rw [hc] at hqc
  cases hqc)).trans hq⟩
end
theorem zbj (b j : Nat) : (⟨b, 0, none⟩ : Addr).add j = ⟨b, j, none⟩ := by
 have h : ∀ o, (⟨b, o, none⟩ : Addr).add j = ⟨b, o + j, none⟩ := fun o => by simp [Addr.add]
 have := h 0
 rwa [Nat.zero_add] at this
theorem int_info : (Tryz.prog.info? 3).map (fun i => (i.zero, i.size, i.bytes)) = some (some (.int .i64 0), 1, 8) := by kernel_rfl
theorem own_ints {w : World} {base : Nat} {e : TypeId} {n : Nat} {v : Value} {L : List Int} (h : w.ownsRow base e 1 v n (L.map (Value.int .i64))) : ∃ A cap, v = .slice A L.length cap /\ L.length <= cap /\ IntsAt w A L := by
 have hl : L.length = n := by have := h.1; simpa using this
 subst hl
 rcases h.2 with ⟨hv, h0⟩ | ⟨g, cap, cur, rfl, hb, hg, hnc, _, hsz, htake⟩
 · obtain rfl : L = [] := List.length_eq_zero_iff.1 h0
   exact ⟨none, 0, hv, Nat.le_refl _, fun h => absurd rfl h⟩
 · refine ⟨_, cap, rfl, hnc, fun _ => ⟨_, rfl, fun j hj => ?_⟩⟩
   rw [zbj, Joins.cell_of_block hg j, <- Array.getElem?_toList]
   have e1 : (cur.toList.take (L.length * 1))[j]? = cur.toList[j]? := by rw [List.getElem?_take, if_pos (by omega)]
   rw [<- e1, htake]
   simp [List.getElem?_eq_getElem hj]
end
end Go.Proofs.YtigafnbofmiknaaGreatDoor
