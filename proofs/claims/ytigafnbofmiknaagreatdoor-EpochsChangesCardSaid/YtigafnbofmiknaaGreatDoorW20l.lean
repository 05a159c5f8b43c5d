/- ChU, TrA, TrC, TrP, TrG -/
import Derived.Test.YtigafnbofmiknaaGreatDoorW20h
import Derived.Test.YtigafnbofmiknaaGreatDoorW20i
import Derived.Test.YtigafnbofmiknaaGreatDoorW20k
import Derived.Laws.MakeOwn
namespace Go.Proofs.YtigafnbofmiknaaGreatDoor
set_option maxRecDepth 100000
set_option maxHeartbeats 10000000
open Go.RowKit
section
open Go.RowKit Go.Shelf
attribute [local go_sem] Oper.semAt_some
def EndsIn (W : World) (B base : Nat) (n : Nat) (L : List Int) : Prop := ∃ v, Boxed W B 81 v /\ W.ownsRow base 5 1 v n (L.map (Value.int .u8)) /\ True
theorem EndsIn.grown {W W' : World} {B base n : Nat} {L : List Int} (h : EndsIn W B base n L) (hg : W.grownBy W' none) : EndsIn W' B base n L := by
 obtain ⟨v, h1, h2, _⟩ := h
 exact ⟨v, h1.kept hg (by simp), vt h2 hg, trivial⟩
end
section
def joinC (a b : List Int) : List Int := ofS 4 [a, b]
theorem zdp (a b : List Int) : isDig (joinC a b) := by rw [joinC]; exact zbb _ _
theorem join_is (w : World) (hR : Rounds w) (a b : List Int) (ha : isDig a) (hb : isDig b) (da db rs : Array Value) (hda : da = arrV .u8 a) (hdb : db = arrV .u8 b) (hrs : rs = arrV .u8 (joinC a b)) :
    Calls Tryz.prog 138 #[.agg da, .agg db] w fun e w' => e = .returned (.agg rs) /\ w.grownBy w' none := by
 obtain ⟨Z16, hZ16⟩ : ∃ Z, Z = arrV .u8 (List.replicate 16 0) := ⟨_, rfl⟩
 have hz16 : ∀ w, Sem.run Tryz.prog (zeroValue 24) w = .ok (.agg Z16) w := fun w => by rw [hZ16]; exact z16run w
 have hZs : Z16.size = 16 := by rw [hZ16]; rfl
 have hps : ∀ p ∈ [a, b], p.length <= 65536 := by
  intro p hp
  have : p.length = 16 := by
   simp only [List.mem_cons, List.not_mem_nil, or_false] at hp
   rcases hp with rfl | rfl
   · exact ha.1
   · exact hb.1
  omega
 have hs16 : rs.size = 16 := by rw [hrs, zf]; exact (zdp _ _).1
 have HS6 := hQ_ (aQ hs16 (aQ (show (rs.all fun x => x.oneCell') = true by rw [hrs]; exact zu _ _) hrs))
 obtain ⟨l6, hl6⟩ : ∃ l, l = rs.toList := ⟨_, rfl⟩
 have hl16 : l6.length = 16 := by rw [hl6, Array.length_toList, hs16]
 have hi6 : (Tryz.prog.info? 24).map (·.size) = some l6.length := by rw [hl16]; exact info16
 have ho6 : ∀ v ∈ l6, v.oneCell' = true := by rw [hl6, hrs]; simp [Value.oneCell']
 have HLE := hQ_ hl6
 have HL6 := hQ_ (show arrV .u8 (ofS 4 [a, b]) = l6.toArray by rw [hl6, Array.toArray_toList, hrs, joinC])
 have HD := hQ_ (aQ hda (aQ hdb (aQ hZs (aQ ha hb))))
 have HR := hQ_ hR
 have hsl := zbq
 clear hZ16 hZs hda hdb hrs hR ha hb
 go_enter Tryz.func138, Tryz.ntmps138
 go_wp2_with fail
 obtain ⟨w0, hw0⟩ : ∃ w0, w0 = ((w.alloc (.cells da 24)).alloc (.cells db 24)).alloc (.cells Z16 24) := ⟨_, rfl⟩
 rw [<- hw0]
 have s0 : w0.heap.size = w.heap.size + 3 := by rw [hw0]; simp
 have HB0 := hQ_ (show Blk w0 w.heap.size 24 da /\ Blk w0 (w.heap.size + 1) 24 db /\ Blk w0 (w.heap.size + 1 + 1) 24 Z16 /\ w.grownBy w0 none from by
  rw [hw0]
  have b1 := (Blk.new (w.alloc (.cells da 24)) 24 db).alloc (.cells Z16 24)
  have b2 := Blk.new ((w.alloc (.cells da 24)).alloc (.cells db 24)) 24 Z16
  simp only [World.size_alloc] at b1 b2
  exact ⟨((Blk.new w 24 da).alloc _).alloc _, b1, b2, za (za (World.grownBy_alloc w _ none) (gQ)) (gQ)⟩)
 clear hw0
 have W3 : w0.grownBy (w0.drew.alloc (.cells #[.slice (some ⟨w.heap.size, 0, none⟩) 16 16, .slice (some ⟨w.heap.size + 1, 0, none⟩) 16 16] 81)) none := za (zh (World.grownBy.refl w0 none)) (gQ)
 have HP := hQ_ (show PartsI (w0.drew.alloc (.cells #[.slice (some ⟨w.heap.size, 0, none⟩) 16 16, .slice (some ⟨w.heap.size + 1, 0, none⟩) 16 16] 81)) (some ⟨w0.heap.size, 0, none⟩) [a, b] from by
  have := zdo w0.drew 81 #[.slice (some ⟨w.heap.size, 0, none⟩) 16 16, .slice (some ⟨w.heap.size + 1, 0, none⟩) 16 16] [a, b] (fun j hj => by
   have : j = 0 \/ j = 1 := by simp at hj; omega
   rcases this with rfl | rfl
   · exact ⟨_, 16, 16, rfl, HD.out.2.2.2.1.1, Nat.le_refl _, zab (t := 24) (show Blk _ w.heap.size 24 (arrV .u8 a) by rw [<- HD.out.1]; exact HB0.out.1.grown W3 (by simp))⟩
   · exact ⟨_, 16, 16, rfl, HD.out.2.2.2.2.1, Nat.le_refl _, zab (t := 24) (show Blk _ (w.heap.size + 1) 24 (arrV .u8 b) by rw [<- HD.out.2.1]; exact HB0.out.2.1.grown W3 (by simp))⟩)
  simpa using this)
 have HW3 := hQ_ (aQ W3 (za HB0.out.2.2.2 W3))
 have hT : w0.drew.there (w.heap.size + 1 + 1) 0 16 := zw HB0.out.2.2.1.drew (by rw [HD.out.2.2.1]; exact Nat.le_refl _)
 clear s0 hs16 hl6 W3
 go_region_held3 (fun W => W.there (w.heap.size + 1 + 1) 0 16) (first | assumption | (refine there_alloc ?_ _; assumption) | (refine World.there_setCells ?_ _ _ _; assumption))
  ((first
   | (go_at_call 52; refine (of_is _ (HR.out.grown HW3.out.2 (by simp)) 4 _ 2 2 [a, b] rfl HP.out (by omega) hps).mono ?_; rintro e w9 ⟨rfl, hk9⟩; rw [HL6.out]; have hT9 := there_grown (by assumption) hk9)))
 have HK9 := hQ_ (za HW3.out.2 hk9)
 have HB9 := hQ_ ((HB0.out.2.2.1.grown HW3.out.1 (by simp)).grown hk9 (by simp))
 have HE := hQ_ (show w9.setCells (w.heap.size + 1 + 1) 0 l6 = w9.setRow (w.heap.size + 1 + 1) rs by
  rw [HLE.out]
  exact zi (P := Tryz.prog) HB9.out (by rw [HS6.out.1]; exact info16) (by rw [HD.out.2.2.1, HS6.out.1]) HS6.out.2.1)
 rw [HE.out]
 go_wp2_with fail
 refine bodyPost_ret (z5 rfl _ _ _ ⟨w.heap.size + 1 + 1, 0, none⟩ (.agg rs) rfl (run_loadVar_row _ (w.heap.size + 1 + 1) 24 24 rs (0, 0) _ (HB9.out.row rs) Tryz.underlying24 rfl (by rw [HS6.out.1]; exact info16))) rfl ?_
 exact ⟨rfl, zc HK9.out (.inl (by omega)) rs⟩
theorem range_blk' {w : World} {g g' : Nat} {t : TypeId} {cs cs' : Array Value} {l : List Value} (h : Blk w g t cs) (hne : g ≠ g') (hl : l = cs.toList) : (w.setRow g' cs').rangeAt g 0 l := by
 rw [hl]; exact zdn (h.farRow hne cs')
theorem rjoin_is (w : World) (a b : List Int) (ha : isDig a) (hb : isDig b) (da db rs : Array Value) (hda : da = arrV .u8 a) (hdb : db = arrV .u8 b) (hrs : rs = arrV .u8 (joinC a b)) :
    Calls Tryz.prog 100 #[.agg da, .agg db] w fun e w' => e = .returned (.agg rs) /\ w.grownBy w' none := by
 obtain ⟨s0, h0⟩ := zer a ha
 obtain ⟨s1, h1⟩ := zer b hb
 obtain ⟨Z16, hZ16⟩ : ∃ Z, Z = arrV .u8 (List.replicate 16 0) := ⟨_, rfl⟩
 have hz16 : ∀ w, Sem.run Tryz.prog (zeroValue 24) w = .ok (.agg Z16) w := fun w => by rw [hZ16]; exact z16run w
 obtain ⟨la, hla⟩ : ∃ l, l = da.toList := ⟨_, rfl⟩
 obtain ⟨lb, hlb⟩ : ∃ l, l = db.toList := ⟨_, rfl⟩
 have h16 : Z16.size = 16 /\ da.size = 16 /\ db.size = 16 := ⟨by rw [hZ16]; rfl, by rw [hda, zf, ha.1], by rw [hdb, zf, hb.1]⟩
 have HD := hQ_ h16
 have HL := hQ_ (aQ hla hlb)
 have HI := hQ_ (show (Tryz.prog.info? 24).map (·.size) = some la.length /\ (Tryz.prog.info? 24).map (·.size) = some lb.length from ⟨by rw [hla, Array.length_toList, h16.2.1]; exact info16, by rw [hlb, Array.length_toList, h16.2.2]; exact info16⟩)
 have T0 := hQ_ (fun V => text_v V a ha.1 s0 h0 la.toArray (by rw [hla, Array.toArray_toList, hda]))
 have T1 := hQ_ (fun V => text_v V b hb.1 s1 h1 lb.toArray (by rw [hlb, Array.toArray_toList, hdb]))
 have HS6 := hQ_ (show rs.size = 16 /\ (rs.all fun x => x.oneCell') = true /\ arrV .u8 (ofS 4 [a, b]) = rs from ⟨by rw [hrs, zf]; exact (zdp _ _).1, by rw [hrs]; exact zu _ _, by rw [hrs, joinC]⟩)
 have HE := hQ_ (show [s0, s1].map xsOf = [a, b] by simp [h0, h1])
 have HTL := hQ_ (show (∀ t ∈ [s0, s1], t.size <= 2000) /\ (vz 4 ([s0, s1].map xsOf)).length <= 50000 from ⟨fun t ht => by
  have : (xsOf t).length = 16 := by
   simp only [List.mem_cons, List.not_mem_nil, or_false] at ht
   rcases ht with rfl | rfl
   · rw [h0]; exact ha.1
   · rw [h1]; exact hb.1
  rw [z4] at this
  omega, by
  rw [HE.out]
  have := uo 4 16 [a, b] (fun p hp => by
   simp only [List.mem_cons, List.not_mem_nil, or_false] at hp
   rcases hp with rfl | rfl
   · exact Nat.le_of_eq ha.1
   · exact Nat.le_of_eq hb.1)
  simp at this
  omega⟩)
 clear hZ16 hda hdb hrs ha hb h0 h1 hla hlb h16
 go_enter Tryz.func100, Tryz.ntmps100
 go_wp2_with fail
 obtain ⟨w0, hw0⟩ : ∃ w0, w0 = ((w.alloc (.cells da 24)).alloc (.cells db 24)).alloc (.cells Z16 24) := ⟨_, rfl⟩
 rw [<- hw0]
 have HB0 := hQ_ (show Blk w0 w.heap.size 24 da /\ Blk w0 (w.heap.size + 1) 24 db /\ Blk w0 (w.heap.size + 1 + 1) 24 Z16 /\ w.grownBy w0 none from by
  rw [hw0]
  have b1 := (Blk.new (w.alloc (.cells da 24)) 24 db).alloc (.cells Z16 24)
  have b2 := Blk.new ((w.alloc (.cells da 24)).alloc (.cells db 24)) 24 Z16
  simp only [World.size_alloc] at b1 b2
  exact ⟨((Blk.new w 24 da).alloc _).alloc _, b1, b2, za (za (World.grownBy_alloc w _ none) (gQ)) (gQ)⟩)
 clear hw0
 have HSS := hQ_ (show ∀ V, w0.grownBy V none -> V.rangeAt w.heap.size 0 la /\ V.rangeAt (w.heap.size + 1) 0 lb from fun V hV => by
  obtain ⟨e1, e2⟩ := HL.out
  rw [e1, e2]
  exact ⟨zdn (HB0.out.1.grown hV (by simp)), zdn (HB0.out.2.1.grown hV (by simp))⟩)
 have HK0 := hQ_ (zh (World.grownBy.refl w0 none))
 refine wp_region_held_drew (S := fun V => V.rangeAt w.heap.size 0 la /\ V.rangeAt (w.heap.size + 1) 0 lb) (by kernel_rfl) (HSS.out _ (zh (World.grownBy.refl w0 none))) (fun hHeld => ?_)
 refine wpAnyH_take (i := 0) (oi := _) (v := .agg la.toArray) rfl (by kernel_rfl) (by kernel_rfl) (by kernel_rfl) (fun _ _ _ h => h) (yieldsIf_load_mid (by rfl) _ _ rfl w.heap.size 0 rfl la _ (fun V hSw => hSw.1) Tryz.underlying24 rfl HI.out.1) (by assumption) ?rest0j
 simp only [Act.put, List.getElem_toArray, List.getElem_cons_zero, List.setIfInBounds_toArray, List.set_cons_zero, List.set_cons_succ]
 refine wpAnyH_take (i := 2) (oi := _) (v := .agg lb.toArray) rfl (by kernel_rfl) (by kernel_rfl) (by kernel_rfl) (fun _ _ _ h => h) (yieldsIf_load_mid (by rfl) _ _ rfl (w.heap.size + 1) 0 rfl lb _ (fun V hSw => hSw.2) Tryz.underlying24 rfl HI.out.2) (by assumption) ?rest2j
 simp only [Act.put, List.getElem_toArray, List.getElem_cons_succ, List.getElem_cons_zero, List.setIfInBounds_toArray, List.set_cons_zero, List.set_cons_succ]
 refine wpAnyH_ready (rs := [1]) (by kernel_rfl) (by simp) ?_
 refine AllReadyH.cons (o := _) rfl (fun K hK => ?_) AllReadyH.nil
 go_simp
 refine (T0.out _).mono ?_
 rintro e w1 ⟨rfl, hk1⟩
 have HK1 := hQ_ (za HK0.out hk1)
 clear hk1
 go_wp2_with fail
 refine hK.out _ _ (HSS.out _ HK1.out) (fun hHeld => ?_)
 clear hK K
 try simp only [Act.put, List.setIfInBounds_toArray, List.set_cons_zero, List.set_cons_succ]
 refine wpAnyH_ready (rs := [3]) (by kernel_rfl) (by simp) ?_
 refine AllReadyH.cons (o := _) rfl (fun K hK => ?_) AllReadyH.nil
 go_simp
 refine (T1.out _).mono ?_
 rintro e w2 ⟨rfl, hk2⟩
 have HK2 := hQ_ (za HK1.out hk2)
 clear hk2
 go_wp2_with fail
 refine hK.out _ _ (HSS.out _ HK2.out) (fun hHeld => ?_)
 clear hK K
 try simp only [Act.put, List.setIfInBounds_toArray, List.set_cons_zero, List.set_cons_succ]
 refine wpAnyH_ready (rs := [4]) (by kernel_rfl) (by simp) ?_
 refine AllReadyH.cons (o := _) rfl (fun K hK => ?_) AllReadyH.nil
 go_simp
 have hga := za HK2.out (World.grownBy_alloc w2 (.cells ([s0, s1].map Value.string).toArray 9) none)
 refine hK.out _ _ (HSS.out _ hga) (fun hHeld => ?_)
 clear hK K
 try simp only [Act.put, List.setIfInBounds_toArray, List.set_cons_zero, List.set_cons_succ]
 have hP := zdh w2 9 [s0, s1]
 refine wpAnyH_ready (rs := [5]) (by kernel_rfl) (by simp) ?_
 refine AllReadyH.cons (o := _) rfl (fun K hK => ?_) AllReadyH.nil
 go_simp
 refine (rof_is _ 4 (some ⟨w2.heap.size, 0, none⟩) 2 2 [s0, s1] rfl hP (by omega) HTL.out.1 HTL.out.2).mono ?_
 rintro e w4 ⟨rfl, hk4⟩
 rw [HE.out, HS6.out.2.2]
 have HK4 := hQ_ (za hga hk4)
 clear hP hga hk4
 go_wp2_with fail
 refine hK.out _ _ (HSS.out _ HK4.out) (fun hHeld => ?_)
 clear hK K
 try simp only [Act.put, List.setIfInBounds_toArray, List.set_cons_zero, List.set_cons_succ]
 refine wpAnyH_ready (rs := [6]) (by kernel_rfl) (by simp) ?_
 refine AllReadyH.cons (o := _) rfl (fun K hK => ?_) AllReadyH.nil
 rw [if_pos (by rfl)]
 have HZ4 := hQ_ (HB0.out.2.2.1.grown HK4.out (by simp))
 refine wp_store_row _ _ _ rfl (w.heap.size + 1 + 1) rs rfl rfl 24 _ HZ4.out (by rw [HS6.out.1]; exact info16) (by rw [HD.out.1, HS6.out.1]) HS6.out.2.1 ?_
 refine hK.out _ _ ⟨range_blk' (HB0.out.1.grown HK4.out (by simp)) (by omega) HL.out.1, range_blk' (HB0.out.2.1.grown HK4.out (by simp)) (by omega) HL.out.2⟩ (fun _ => ?_)
 refine wpAnyH_done (by kernel_rfl) ?_ _
 go_wp2_with fail
 refine bodyPost_ret (z5 rfl _ _ _ ⟨w.heap.size + 1 + 1, 0, none⟩ (.agg rs) rfl (run_loadVar_row _ (w.heap.size + 1 + 1) 24 24 rs (0, 0) _ (HZ4.out.row rs) Tryz.underlying24 rfl (by rw [HS6.out.1]; exact info16))) rfl ?_
 exact ⟨rfl, zc (za HB0.out.2.2.2 HK4.out) (.inl (by omega)) rs⟩
end
section
theorem i64_and1 (n : Int) : bits .and .i64 n 1 = n % 2 := by
 have h3 : (BitVec.ofInt 64 1).toNat = 2 ^ 1 - 1 := by decide
 have key : (BitVec.ofInt 64 n &&& BitVec.ofInt 64 1).toNat = (n % ((2 ^ 64 : Nat) : Int)).toNat % 2 ^ 1 := by
  rw [BitVec.toNat_and, BitVec.toNat_ofInt, h3, Nat.and_two_pow_sub_one_eq_mod]
 show IntKind.i64.wrap ((BitVec.ofInt 64 n &&& BitVec.ofInt 64 1).toNat : Nat) = n % 2
 rw [key, IntKind.wrap_i64]
 omega
def climbC (x : List Int) (i : Int) (ps : List (List Int)) : Nat -> List Int
 | 0 => x
 | n + 1 => if i / 2 ^ n % 2 = 0 then joinC (climbC x i ps n) (ps.getD n zeroC) else joinC (ps.getD n zeroC) (climbC x i ps n)
theorem zaj {x : List Int} (hx : isDig x) (i : Int) (ps : List (List Int)) : ∀ n, isDig (climbC x i ps n)
 | 0 => hx
 | n + 1 => by rw [climbC]; split <;> exact zdp _ _
theorem leaf_yes (w : World) (lf : Int) (h : 0 <= lf /\ lf < 32) : Calls Tryz.prog 137 #[.int .i64 lf] w fun e w' => e = .returned (.bool true) /\ w' = w := by
 have d1 : decide (0 <= lf) = true := by simp; omega
 have d2 : decide (lf < 32) = true := by simp; omega
 obtain ⟨h1, h2⟩ := h
 go_enter Tryz.func137, Tryz.ntmps137
 go_wp2
 go_ret
 simp
theorem climb_ok (w : World) (hR : Rounds w) (x : List Int) (hx : isDig x) (lf : Int) (hlf : 0 <= lf /\ lf < 32) (b off c : Nat) (ps : List (List Int)) (hl : ps.length = 5) (hps : ∀ p ∈ ps, isDig p) (hD : DigsAt w b off ps) (ds rs : Array Value) (hds : ds = arrV .u8 x) (hrs : rs = arrV .u8 (climbC x lf ps 5)) :
    Calls Tryz.prog 118 #[.agg ds, .int .i64 lf, .slice (some ⟨b, off, none⟩) 5 c] w fun e w' => e = .returned (.tuple #[.agg rs, .nilIface]) /\ w.grownBy w' none := by
 obtain ⟨Z16, hZ16⟩ : ∃ Z, Z = arrV .u8 (List.replicate 16 0) := ⟨_, rfl⟩
 have hz16 : ∀ w, Sem.run Tryz.prog (zeroValue 24) w = .ok (.agg Z16) w := fun w => by rw [hZ16]; exact z16run w
 have HD := hQ_ (show ds = arrV .u8 (climbC x lf ps 0) /\ ds.size = 16 /\ Z16.size = 16 /\ (ds.all fun v => v.oneCell') = true from ⟨by rw [hds, climbC], by rw [hds, zf, hx.1], by rw [hZ16]; rfl, by rw [hds]; exact zu _ _⟩)
 have HN := hQ_ (aQ hx (aQ hl (aQ hps (aQ hD (aQ hrs hR)))))
 have HLF := hQ_ hlf
 clear hZ16 hds hx hl hps hD hrs hR hlf
 go_enter Tryz.func118, Tryz.ntmps118
 go_wp2_with fail
 refine (leaf_yes _ lf HLF.out).mono ?_
 rintro e w' ⟨rfl, rfl⟩
 have b0 := (Blk.new w 24 ds).alloc (.cells Z16 24)
 have b1 := Blk.new (w.alloc (.cells ds 24)) 24 Z16
 have b2 := Blk.new ((w.alloc (.cells ds 24)).alloc (.cells Z16 24)) 24 Z16
 simp only [World.size_alloc] at b1 b2
 have HZ2 := hQ_ (aQ (b0.alloc (.cells Z16 24)) b2)
 have HF := hQ_ (show Blk ((((w.alloc (.cells ds 24)).alloc (.cells Z16 24)).alloc (.cells Z16 24)).setRow (w.heap.size + 1 + 1) ds) (w.heap.size + 1) 24 Z16 /\ Blk ((((w.alloc (.cells ds 24)).alloc (.cells Z16 24)).alloc (.cells Z16 24)).setRow (w.heap.size + 1 + 1) ds) (w.heap.size + 1 + 1) 24 ds /\ w.grownBy ((((w.alloc (.cells ds 24)).alloc (.cells Z16 24)).alloc (.cells Z16 24)).setRow (w.heap.size + 1 + 1) ds) none from
  ⟨(b1.alloc (.cells Z16 24)).farRow (by omega) ds, b2.row ds, zc (za (za (World.grownBy_alloc w _ none) (gQ)) (gQ)) (.inl (by omega)) ds⟩)
 have HB0 := hQ_ b0
 clear b0 b1 b2
 go_wp2_with (first
  | (refine wpList_load_row rfl 24 _ rfl w.heap.size rfl 24 ds (0, 0) _ HB0.out Tryz.underlying24 rfl (by rw [HD.out.2.1]; exact info16) ?_)
  | (refine wpList_store_row rfl 24 _ _ rfl (w.heap.size + 1 + 1) ds rfl rfl 24 _ HZ2.out.2 (by rw [HD.out.2.1]; exact info16) (by rw [HD.out.2.2.1, HD.out.2.1]) HD.out.2.2.2 ?_))
 generalize (((w.alloc (.cells ds 24)).alloc (.cells Z16 24)).alloc (.cells Z16 24)).setRow (w.heap.size + 1 + 1) ds = w3 at *
 go_loopw [24] (fun i wr => ∃ k : Nat, k <= 5 /\ i = .int .i64 (k : Int) /\ Blk wr (w.heap.size + 1 + 1) 24 (arrV .u8 (climbC x lf ps k)) /\ Blk wr (w.heap.size + 1) 24 Z16 /\ w.grownBy wr none) (fun i _ => 5 - (intOf i).toNat)
 case atStart => exact ⟨0, by omega, rfl, by rw [<- HD.out.1]; exact HF.out.2.1, HF.out.1, HF.out.2.2⟩
 case round =>
  obtain ⟨k, hk, hi, hB, hZ, hG⟩ := hrel
  obtain ⟨cs, hcs⟩ : ∃ cs, cs = arrV .u8 (climbC x lf ps k) := ⟨_, rfl⟩
  rw [<- hcs] at hB
  have hdk := zaj HN.out.1 lf ps k
  have hsz : cs.size = 16 := by rw [hcs, zf]; exact hdk.1
  by_cases hlt : k < 5
  · have hpd := zbu HN.out.2.2.1 k
    obtain ⟨p, hp⟩ : ∃ p, p = ps.getD k zeroC := ⟨_, rfl⟩
    rw [<- hp] at hpd
    obtain ⟨es, hes⟩ : ∃ es, es = arrV .u8 p := ⟨_, rfl⟩
    obtain ⟨el, hel⟩ : ∃ el, el = es.toList := ⟨_, rfl⟩
    have he16 : es.size = 16 := by rw [hes, zf]; exact hpd.1
    have hr1 : wr.rangeAt b (off + k * 16) el := by
     rw [hel, hes, hp]
     exact zaq (HN.out.2.2.2.1 k (by rw [HN.out.2.1]; exact hlt)) hG
    obtain ⟨ns, hns⟩ : ∃ ns, ns = arrV .u8 (climbC x lf ps (k + 1)) := ⟨_, rfl⟩
    have hn16 : ns.size = 16 := by rw [hns, zf]; exact (zaj HN.out.1 lf ps (k + 1)).1
    have HNS := hQ_ (aQ hn16 (aQ (show (ns.all fun v => v.oneCell') = true by rw [hns]; exact zu _ _) hns))
    have HES := hQ_ (aQ he16 (aQ (show (es.all fun v => v.oneCell') = true by rw [hes]; exact zu _ _) (aQ hr1 (aQ (show (Tryz.prog.info? 24).map (·.size) = some el.length by rw [hel, Array.length_toList, he16]; exact info16) (show el.toArray = es by rw [hel, Array.toArray_toList])))))
    have HB := hQ_ (aQ hB (aQ hZ (aQ hG hsz)))
    have hand := i64_and1 (lf / 2 ^ k)
    by_cases hpar : lf / 2 ^ k % 2 = 0
    · have J := hQ_ (fun (V : World) (hV : w.grownBy V none) => join_is V (HN.out.2.2.2.2.2.grown hV (by simp)) (climbC x lf ps k) p hdk hpd cs es ns hcs hes (by rw [hns, climbC, if_pos hpar, <- hp]))
      rw [hpar] at hand
      have hcases : k = 0 \/ k = 1 \/ k = 2 \/ k = 3 \/ k = 4 := by omega
      clear hB hZ hG hk hlt hp hes hel he16 hr1 hns hn16 hpar hcs hsz
      rcases hcases with rfl | rfl | rfl | rfl | rfl
      · subst hi
        have hand' : bits .and .i64 (lf) 1 = 0 := by simpa using hand
        clear hand
        go_wp2_with (first
         | (refine wpList_load_mid rfl 24 _ rfl b _ rfl el _ HES.out.2.2.1 Tryz.underlying24 rfl HES.out.2.2.2.1 ?_; rw [HES.out.2.2.2.2])
         | (refine wpList_store_row rfl 24 _ _ rfl wr.heap.size es rfl rfl 24 _ (heap_alloc_new wr _) (by rw [HES.out.1]; exact info16) (by rw [HD.out.2.2.1, HES.out.1]) HES.out.2.1 ?_
            obtain ⟨w4, hw4⟩ : ∃ w4, w4 = (wr.alloc (.cells Z16 24)).setRow wr.heap.size es := ⟨_, rfl⟩
            obtain ⟨p10, hp10⟩ : ∃ p, p = wr.heap.size := ⟨_, rfl⟩
            rw [<- hw4, <- hp10]
            have HB4 := hQ_ (show Blk w4 p10 24 es /\ Blk w4 (w.heap.size + 1 + 1) 24 cs /\ Blk w4 (w.heap.size + 1) 24 Z16 /\ w.grownBy w4 none from by
             rw [hw4, hp10]
             have hg4 := zc (World.grownBy_alloc wr (.cells Z16 24) none) (.inl (Nat.le_refl _)) es
             exact ⟨(Blk.new wr 24 Z16).row es, HB.out.1.grown hg4 (by simp), HB.out.2.1.grown hg4 (by simp), za HB.out.2.2.1 hg4⟩)
            clear hw4 hp10)
         | (refine wpList_load_row rfl 24 _ rfl (w.heap.size + 1 + 1) rfl 24 cs (0, 0) _ HB4.out.2.1 Tryz.underlying24 rfl (by rw [HB.out.2.2.2]; exact info16) ?_)
         | (refine wpList_load_row rfl 24 _ rfl p10 rfl 24 es (0, 0) _ HB4.out.1 Tryz.underlying24 rfl (by rw [HES.out.1]; exact info16) ?_))
        refine (J.out w4 HB4.out.2.2.2).mono ?_
        rintro e w5 ⟨rfl, hk5⟩
        have HB5 := hQ_ (aQ (HB4.out.2.1.grown hk5 (by simp)) (aQ (HB4.out.2.2.1.grown hk5 (by simp)) (za HB4.out.2.2.2 hk5)))
        clear hk5
        go_wp2_with (refine wpList_store_row rfl 24 _ _ rfl (w.heap.size + 1 + 1) ns rfl rfl 24 _ HB5.out.1 (by rw [HNS.out.1]; exact info16) (by rw [HB.out.2.2.2, HNS.out.1]) HNS.out.2.1 ?_)
        go_roundw
        case rel => exact ⟨1, by omega, rfl, by rw [<- HNS.out.2.2]; exact HB5.out.1.row ns, HB5.out.2.1.farRow (by omega) ns, zc HB5.out.2.2 (.inl (by omega)) ns⟩
        case measure => simp [intOf]
      · subst hi
        have hand' : bits .and .i64 (lf / 2) 1 = 0 := by simpa using hand
        clear hand
        go_wp2_with (first
         | (refine wpList_load_mid rfl 24 _ rfl b _ rfl el _ HES.out.2.2.1 Tryz.underlying24 rfl HES.out.2.2.2.1 ?_; rw [HES.out.2.2.2.2])
         | (refine wpList_store_row rfl 24 _ _ rfl wr.heap.size es rfl rfl 24 _ (heap_alloc_new wr _) (by rw [HES.out.1]; exact info16) (by rw [HD.out.2.2.1, HES.out.1]) HES.out.2.1 ?_
            obtain ⟨w4, hw4⟩ : ∃ w4, w4 = (wr.alloc (.cells Z16 24)).setRow wr.heap.size es := ⟨_, rfl⟩
            obtain ⟨p10, hp10⟩ : ∃ p, p = wr.heap.size := ⟨_, rfl⟩
            rw [<- hw4, <- hp10]
            have HB4 := hQ_ (show Blk w4 p10 24 es /\ Blk w4 (w.heap.size + 1 + 1) 24 cs /\ Blk w4 (w.heap.size + 1) 24 Z16 /\ w.grownBy w4 none from by
             rw [hw4, hp10]
             have hg4 := zc (World.grownBy_alloc wr (.cells Z16 24) none) (.inl (Nat.le_refl _)) es
             exact ⟨(Blk.new wr 24 Z16).row es, HB.out.1.grown hg4 (by simp), HB.out.2.1.grown hg4 (by simp), za HB.out.2.2.1 hg4⟩)
            clear hw4 hp10)
         | (refine wpList_load_row rfl 24 _ rfl (w.heap.size + 1 + 1) rfl 24 cs (0, 0) _ HB4.out.2.1 Tryz.underlying24 rfl (by rw [HB.out.2.2.2]; exact info16) ?_)
         | (refine wpList_load_row rfl 24 _ rfl p10 rfl 24 es (0, 0) _ HB4.out.1 Tryz.underlying24 rfl (by rw [HES.out.1]; exact info16) ?_))
        refine (J.out w4 HB4.out.2.2.2).mono ?_
        rintro e w5 ⟨rfl, hk5⟩
        have HB5 := hQ_ (aQ (HB4.out.2.1.grown hk5 (by simp)) (aQ (HB4.out.2.2.1.grown hk5 (by simp)) (za HB4.out.2.2.2 hk5)))
        clear hk5
        go_wp2_with (refine wpList_store_row rfl 24 _ _ rfl (w.heap.size + 1 + 1) ns rfl rfl 24 _ HB5.out.1 (by rw [HNS.out.1]; exact info16) (by rw [HB.out.2.2.2, HNS.out.1]) HNS.out.2.1 ?_)
        go_roundw
        case rel => exact ⟨2, by omega, rfl, by rw [<- HNS.out.2.2]; exact HB5.out.1.row ns, HB5.out.2.1.farRow (by omega) ns, zc HB5.out.2.2 (.inl (by omega)) ns⟩
        case measure => simp [intOf]
      · subst hi
        have hand' : bits .and .i64 (lf / 4) 1 = 0 := by simpa using hand
        clear hand
        go_wp2_with (first
         | (refine wpList_load_mid rfl 24 _ rfl b _ rfl el _ HES.out.2.2.1 Tryz.underlying24 rfl HES.out.2.2.2.1 ?_; rw [HES.out.2.2.2.2])
         | (refine wpList_store_row rfl 24 _ _ rfl wr.heap.size es rfl rfl 24 _ (heap_alloc_new wr _) (by rw [HES.out.1]; exact info16) (by rw [HD.out.2.2.1, HES.out.1]) HES.out.2.1 ?_
            obtain ⟨w4, hw4⟩ : ∃ w4, w4 = (wr.alloc (.cells Z16 24)).setRow wr.heap.size es := ⟨_, rfl⟩
            obtain ⟨p10, hp10⟩ : ∃ p, p = wr.heap.size := ⟨_, rfl⟩
            rw [<- hw4, <- hp10]
            have HB4 := hQ_ (show Blk w4 p10 24 es /\ Blk w4 (w.heap.size + 1 + 1) 24 cs /\ Blk w4 (w.heap.size + 1) 24 Z16 /\ w.grownBy w4 none from by
             rw [hw4, hp10]
             have hg4 := zc (World.grownBy_alloc wr (.cells Z16 24) none) (.inl (Nat.le_refl _)) es
             exact ⟨(Blk.new wr 24 Z16).row es, HB.out.1.grown hg4 (by simp), HB.out.2.1.grown hg4 (by simp), za HB.out.2.2.1 hg4⟩)
            clear hw4 hp10)
         | (refine wpList_load_row rfl 24 _ rfl (w.heap.size + 1 + 1) rfl 24 cs (0, 0) _ HB4.out.2.1 Tryz.underlying24 rfl (by rw [HB.out.2.2.2]; exact info16) ?_)
         | (refine wpList_load_row rfl 24 _ rfl p10 rfl 24 es (0, 0) _ HB4.out.1 Tryz.underlying24 rfl (by rw [HES.out.1]; exact info16) ?_))
        refine (J.out w4 HB4.out.2.2.2).mono ?_
        rintro e w5 ⟨rfl, hk5⟩
        have HB5 := hQ_ (aQ (HB4.out.2.1.grown hk5 (by simp)) (aQ (HB4.out.2.2.1.grown hk5 (by simp)) (za HB4.out.2.2.2 hk5)))
        clear hk5
        go_wp2_with (refine wpList_store_row rfl 24 _ _ rfl (w.heap.size + 1 + 1) ns rfl rfl 24 _ HB5.out.1 (by rw [HNS.out.1]; exact info16) (by rw [HB.out.2.2.2, HNS.out.1]) HNS.out.2.1 ?_)
        go_roundw
        case rel => exact ⟨3, by omega, rfl, by rw [<- HNS.out.2.2]; exact HB5.out.1.row ns, HB5.out.2.1.farRow (by omega) ns, zc HB5.out.2.2 (.inl (by omega)) ns⟩
        case measure => simp [intOf]
      · subst hi
        have hand' : bits .and .i64 (lf / 8) 1 = 0 := by simpa using hand
        clear hand
        go_wp2_with (first
         | (refine wpList_load_mid rfl 24 _ rfl b _ rfl el _ HES.out.2.2.1 Tryz.underlying24 rfl HES.out.2.2.2.1 ?_; rw [HES.out.2.2.2.2])
         | (refine wpList_store_row rfl 24 _ _ rfl wr.heap.size es rfl rfl 24 _ (heap_alloc_new wr _) (by rw [HES.out.1]; exact info16) (by rw [HD.out.2.2.1, HES.out.1]) HES.out.2.1 ?_
            obtain ⟨w4, hw4⟩ : ∃ w4, w4 = (wr.alloc (.cells Z16 24)).setRow wr.heap.size es := ⟨_, rfl⟩
            obtain ⟨p10, hp10⟩ : ∃ p, p = wr.heap.size := ⟨_, rfl⟩
            rw [<- hw4, <- hp10]
            have HB4 := hQ_ (show Blk w4 p10 24 es /\ Blk w4 (w.heap.size + 1 + 1) 24 cs /\ Blk w4 (w.heap.size + 1) 24 Z16 /\ w.grownBy w4 none from by
             rw [hw4, hp10]
             have hg4 := zc (World.grownBy_alloc wr (.cells Z16 24) none) (.inl (Nat.le_refl _)) es
             exact ⟨(Blk.new wr 24 Z16).row es, HB.out.1.grown hg4 (by simp), HB.out.2.1.grown hg4 (by simp), za HB.out.2.2.1 hg4⟩)
            clear hw4 hp10)
         | (refine wpList_load_row rfl 24 _ rfl (w.heap.size + 1 + 1) rfl 24 cs (0, 0) _ HB4.out.2.1 Tryz.underlying24 rfl (by rw [HB.out.2.2.2]; exact info16) ?_)
         | (refine wpList_load_row rfl 24 _ rfl p10 rfl 24 es (0, 0) _ HB4.out.1 Tryz.underlying24 rfl (by rw [HES.out.1]; exact info16) ?_))
        refine (J.out w4 HB4.out.2.2.2).mono ?_
        rintro e w5 ⟨rfl, hk5⟩
        have HB5 := hQ_ (aQ (HB4.out.2.1.grown hk5 (by simp)) (aQ (HB4.out.2.2.1.grown hk5 (by simp)) (za HB4.out.2.2.2 hk5)))
        clear hk5
        go_wp2_with (refine wpList_store_row rfl 24 _ _ rfl (w.heap.size + 1 + 1) ns rfl rfl 24 _ HB5.out.1 (by rw [HNS.out.1]; exact info16) (by rw [HB.out.2.2.2, HNS.out.1]) HNS.out.2.1 ?_)
        go_roundw
        case rel => exact ⟨4, by omega, rfl, by rw [<- HNS.out.2.2]; exact HB5.out.1.row ns, HB5.out.2.1.farRow (by omega) ns, zc HB5.out.2.2 (.inl (by omega)) ns⟩
        case measure => simp [intOf]
      · subst hi
        have hand' : bits .and .i64 (lf / 16) 1 = 0 := by simpa using hand
        clear hand
        go_wp2_with (first
         | (refine wpList_load_mid rfl 24 _ rfl b _ rfl el _ HES.out.2.2.1 Tryz.underlying24 rfl HES.out.2.2.2.1 ?_; rw [HES.out.2.2.2.2])
         | (refine wpList_store_row rfl 24 _ _ rfl wr.heap.size es rfl rfl 24 _ (heap_alloc_new wr _) (by rw [HES.out.1]; exact info16) (by rw [HD.out.2.2.1, HES.out.1]) HES.out.2.1 ?_
            obtain ⟨w4, hw4⟩ : ∃ w4, w4 = (wr.alloc (.cells Z16 24)).setRow wr.heap.size es := ⟨_, rfl⟩
            obtain ⟨p10, hp10⟩ : ∃ p, p = wr.heap.size := ⟨_, rfl⟩
            rw [<- hw4, <- hp10]
            have HB4 := hQ_ (show Blk w4 p10 24 es /\ Blk w4 (w.heap.size + 1 + 1) 24 cs /\ Blk w4 (w.heap.size + 1) 24 Z16 /\ w.grownBy w4 none from by
             rw [hw4, hp10]
             have hg4 := zc (World.grownBy_alloc wr (.cells Z16 24) none) (.inl (Nat.le_refl _)) es
             exact ⟨(Blk.new wr 24 Z16).row es, HB.out.1.grown hg4 (by simp), HB.out.2.1.grown hg4 (by simp), za HB.out.2.2.1 hg4⟩)
            clear hw4 hp10)
         | (refine wpList_load_row rfl 24 _ rfl (w.heap.size + 1 + 1) rfl 24 cs (0, 0) _ HB4.out.2.1 Tryz.underlying24 rfl (by rw [HB.out.2.2.2]; exact info16) ?_)
         | (refine wpList_load_row rfl 24 _ rfl p10 rfl 24 es (0, 0) _ HB4.out.1 Tryz.underlying24 rfl (by rw [HES.out.1]; exact info16) ?_))
        refine (J.out w4 HB4.out.2.2.2).mono ?_
        rintro e w5 ⟨rfl, hk5⟩
        have HB5 := hQ_ (aQ (HB4.out.2.1.grown hk5 (by simp)) (aQ (HB4.out.2.2.1.grown hk5 (by simp)) (za HB4.out.2.2.2 hk5)))
        clear hk5
        go_wp2_with (refine wpList_store_row rfl 24 _ _ rfl (w.heap.size + 1 + 1) ns rfl rfl 24 _ HB5.out.1 (by rw [HNS.out.1]; exact info16) (by rw [HB.out.2.2.2, HNS.out.1]) HNS.out.2.1 ?_)
        go_roundw
        case rel => exact ⟨5, by omega, rfl, by rw [<- HNS.out.2.2]; exact HB5.out.1.row ns, HB5.out.2.1.farRow (by omega) ns, zc HB5.out.2.2 (.inl (by omega)) ns⟩
        case measure => simp [intOf]
    · have J := hQ_ (fun (V : World) (hV : w.grownBy V none) => join_is V (HN.out.2.2.2.2.2.grown hV (by simp)) p (climbC x lf ps k) hpd hdk es cs ns hes hcs (by rw [hns, climbC, if_neg hpar, <- hp]))
      rw [show lf / 2 ^ k % 2 = 1 by omega] at hand
      have hcases : k = 0 \/ k = 1 \/ k = 2 \/ k = 3 \/ k = 4 := by omega
      clear hB hZ hG hk hlt hp hes hel he16 hr1 hns hn16 hpar hcs hsz
      rcases hcases with rfl | rfl | rfl | rfl | rfl
      · subst hi
        have hand' : bits .and .i64 (lf) 1 = 1 := by simpa using hand
        clear hand
        go_wp2_with (first
         | (refine wpList_load_mid rfl 24 _ rfl b _ rfl el _ HES.out.2.2.1 Tryz.underlying24 rfl HES.out.2.2.2.1 ?_; rw [HES.out.2.2.2.2])
         | (refine wpList_store_row rfl 24 _ _ rfl wr.heap.size es rfl rfl 24 _ (heap_alloc_new wr _) (by rw [HES.out.1]; exact info16) (by rw [HD.out.2.2.1, HES.out.1]) HES.out.2.1 ?_
            obtain ⟨w4, hw4⟩ : ∃ w4, w4 = (wr.alloc (.cells Z16 24)).setRow wr.heap.size es := ⟨_, rfl⟩
            obtain ⟨p10, hp10⟩ : ∃ p, p = wr.heap.size := ⟨_, rfl⟩
            rw [<- hw4, <- hp10]
            have HB4 := hQ_ (show Blk w4 p10 24 es /\ Blk w4 (w.heap.size + 1 + 1) 24 cs /\ Blk w4 (w.heap.size + 1) 24 Z16 /\ w.grownBy w4 none from by
             rw [hw4, hp10]
             have hg4 := zc (World.grownBy_alloc wr (.cells Z16 24) none) (.inl (Nat.le_refl _)) es
             exact ⟨(Blk.new wr 24 Z16).row es, HB.out.1.grown hg4 (by simp), HB.out.2.1.grown hg4 (by simp), za HB.out.2.2.1 hg4⟩)
            clear hw4 hp10)
         | (refine wpList_load_row rfl 24 _ rfl (w.heap.size + 1 + 1) rfl 24 cs (0, 0) _ HB4.out.2.1 Tryz.underlying24 rfl (by rw [HB.out.2.2.2]; exact info16) ?_)
         | (refine wpList_load_row rfl 24 _ rfl p10 rfl 24 es (0, 0) _ HB4.out.1 Tryz.underlying24 rfl (by rw [HES.out.1]; exact info16) ?_))
        refine (J.out w4 HB4.out.2.2.2).mono ?_
        rintro e w5 ⟨rfl, hk5⟩
        have HB5 := hQ_ (aQ (HB4.out.2.1.grown hk5 (by simp)) (aQ (HB4.out.2.2.1.grown hk5 (by simp)) (za HB4.out.2.2.2 hk5)))
        clear hk5
        go_wp2_with (refine wpList_store_row rfl 24 _ _ rfl (w.heap.size + 1 + 1) ns rfl rfl 24 _ HB5.out.1 (by rw [HNS.out.1]; exact info16) (by rw [HB.out.2.2.2, HNS.out.1]) HNS.out.2.1 ?_)
        go_roundw
        case rel => exact ⟨1, by omega, rfl, by rw [<- HNS.out.2.2]; exact HB5.out.1.row ns, HB5.out.2.1.farRow (by omega) ns, zc HB5.out.2.2 (.inl (by omega)) ns⟩
        case measure => simp [intOf]
      · subst hi
        have hand' : bits .and .i64 (lf / 2) 1 = 1 := by simpa using hand
        clear hand
        go_wp2_with (first
         | (refine wpList_load_mid rfl 24 _ rfl b _ rfl el _ HES.out.2.2.1 Tryz.underlying24 rfl HES.out.2.2.2.1 ?_; rw [HES.out.2.2.2.2])
         | (refine wpList_store_row rfl 24 _ _ rfl wr.heap.size es rfl rfl 24 _ (heap_alloc_new wr _) (by rw [HES.out.1]; exact info16) (by rw [HD.out.2.2.1, HES.out.1]) HES.out.2.1 ?_
            obtain ⟨w4, hw4⟩ : ∃ w4, w4 = (wr.alloc (.cells Z16 24)).setRow wr.heap.size es := ⟨_, rfl⟩
            obtain ⟨p10, hp10⟩ : ∃ p, p = wr.heap.size := ⟨_, rfl⟩
            rw [<- hw4, <- hp10]
            have HB4 := hQ_ (show Blk w4 p10 24 es /\ Blk w4 (w.heap.size + 1 + 1) 24 cs /\ Blk w4 (w.heap.size + 1) 24 Z16 /\ w.grownBy w4 none from by
             rw [hw4, hp10]
             have hg4 := zc (World.grownBy_alloc wr (.cells Z16 24) none) (.inl (Nat.le_refl _)) es
             exact ⟨(Blk.new wr 24 Z16).row es, HB.out.1.grown hg4 (by simp), HB.out.2.1.grown hg4 (by simp), za HB.out.2.2.1 hg4⟩)
            clear hw4 hp10)
         | (refine wpList_load_row rfl 24 _ rfl (w.heap.size + 1 + 1) rfl 24 cs (0, 0) _ HB4.out.2.1 Tryz.underlying24 rfl (by rw [HB.out.2.2.2]; exact info16) ?_)
         | (refine wpList_load_row rfl 24 _ rfl p10 rfl 24 es (0, 0) _ HB4.out.1 Tryz.underlying24 rfl (by rw [HES.out.1]; exact info16) ?_))
        refine (J.out w4 HB4.out.2.2.2).mono ?_
        rintro e w5 ⟨rfl, hk5⟩
        have HB5 := hQ_ (aQ (HB4.out.2.1.grown hk5 (by simp)) (aQ (HB4.out.2.2.1.grown hk5 (by simp)) (za HB4.out.2.2.2 hk5)))
        clear hk5
        go_wp2_with (refine wpList_store_row rfl 24 _ _ rfl (w.heap.size + 1 + 1) ns rfl rfl 24 _ HB5.out.1 (by rw [HNS.out.1]; exact info16) (by rw [HB.out.2.2.2, HNS.out.1]) HNS.out.2.1 ?_)
        go_roundw
        case rel => exact ⟨2, by omega, rfl, by rw [<- HNS.out.2.2]; exact HB5.out.1.row ns, HB5.out.2.1.farRow (by omega) ns, zc HB5.out.2.2 (.inl (by omega)) ns⟩
        case measure => simp [intOf]
      · subst hi
        have hand' : bits .and .i64 (lf / 4) 1 = 1 := by simpa using hand
        clear hand
        go_wp2_with (first
         | (refine wpList_load_mid rfl 24 _ rfl b _ rfl el _ HES.out.2.2.1 Tryz.underlying24 rfl HES.out.2.2.2.1 ?_; rw [HES.out.2.2.2.2])
         | (refine wpList_store_row rfl 24 _ _ rfl wr.heap.size es rfl rfl 24 _ (heap_alloc_new wr _) (by rw [HES.out.1]; exact info16) (by rw [HD.out.2.2.1, HES.out.1]) HES.out.2.1 ?_
            obtain ⟨w4, hw4⟩ : ∃ w4, w4 = (wr.alloc (.cells Z16 24)).setRow wr.heap.size es := ⟨_, rfl⟩
            obtain ⟨p10, hp10⟩ : ∃ p, p = wr.heap.size := ⟨_, rfl⟩
            rw [<- hw4, <- hp10]
            have HB4 := hQ_ (show Blk w4 p10 24 es /\ Blk w4 (w.heap.size + 1 + 1) 24 cs /\ Blk w4 (w.heap.size + 1) 24 Z16 /\ w.grownBy w4 none from by
             rw [hw4, hp10]
             have hg4 := zc (World.grownBy_alloc wr (.cells Z16 24) none) (.inl (Nat.le_refl _)) es
             exact ⟨(Blk.new wr 24 Z16).row es, HB.out.1.grown hg4 (by simp), HB.out.2.1.grown hg4 (by simp), za HB.out.2.2.1 hg4⟩)
            clear hw4 hp10)
         | (refine wpList_load_row rfl 24 _ rfl (w.heap.size + 1 + 1) rfl 24 cs (0, 0) _ HB4.out.2.1 Tryz.underlying24 rfl (by rw [HB.out.2.2.2]; exact info16) ?_)
         | (refine wpList_load_row rfl 24 _ rfl p10 rfl 24 es (0, 0) _ HB4.out.1 Tryz.underlying24 rfl (by rw [HES.out.1]; exact info16) ?_))
        refine (J.out w4 HB4.out.2.2.2).mono ?_
        rintro e w5 ⟨rfl, hk5⟩
        have HB5 := hQ_ (aQ (HB4.out.2.1.grown hk5 (by simp)) (aQ (HB4.out.2.2.1.grown hk5 (by simp)) (za HB4.out.2.2.2 hk5)))
        clear hk5
        go_wp2_with (refine wpList_store_row rfl 24 _ _ rfl (w.heap.size + 1 + 1) ns rfl rfl 24 _ HB5.out.1 (by rw [HNS.out.1]; exact info16) (by rw [HB.out.2.2.2, HNS.out.1]) HNS.out.2.1 ?_)
        go_roundw
        case rel => exact ⟨3, by omega, rfl, by rw [<- HNS.out.2.2]; exact HB5.out.1.row ns, HB5.out.2.1.farRow (by omega) ns, zc HB5.out.2.2 (.inl (by omega)) ns⟩
        case measure => simp [intOf]
      · subst hi
        have hand' : bits .and .i64 (lf / 8) 1 = 1 := by simpa using hand
        clear hand
        go_wp2_with (first
         | (refine wpList_load_mid rfl 24 _ rfl b _ rfl el _ HES.out.2.2.1 Tryz.underlying24 rfl HES.out.2.2.2.1 ?_; rw [HES.out.2.2.2.2])
         | (refine wpList_store_row rfl 24 _ _ rfl wr.heap.size es rfl rfl 24 _ (heap_alloc_new wr _) (by rw [HES.out.1]; exact info16) (by rw [HD.out.2.2.1, HES.out.1]) HES.out.2.1 ?_
            obtain ⟨w4, hw4⟩ : ∃ w4, w4 = (wr.alloc (.cells Z16 24)).setRow wr.heap.size es := ⟨_, rfl⟩
            obtain ⟨p10, hp10⟩ : ∃ p, p = wr.heap.size := ⟨_, rfl⟩
            rw [<- hw4, <- hp10]
            have HB4 := hQ_ (show Blk w4 p10 24 es /\ Blk w4 (w.heap.size + 1 + 1) 24 cs /\ Blk w4 (w.heap.size + 1) 24 Z16 /\ w.grownBy w4 none from by
             rw [hw4, hp10]
             have hg4 := zc (World.grownBy_alloc wr (.cells Z16 24) none) (.inl (Nat.le_refl _)) es
             exact ⟨(Blk.new wr 24 Z16).row es, HB.out.1.grown hg4 (by simp), HB.out.2.1.grown hg4 (by simp), za HB.out.2.2.1 hg4⟩)
            clear hw4 hp10)
         | (refine wpList_load_row rfl 24 _ rfl (w.heap.size + 1 + 1) rfl 24 cs (0, 0) _ HB4.out.2.1 Tryz.underlying24 rfl (by rw [HB.out.2.2.2]; exact info16) ?_)
         | (refine wpList_load_row rfl 24 _ rfl p10 rfl 24 es (0, 0) _ HB4.out.1 Tryz.underlying24 rfl (by rw [HES.out.1]; exact info16) ?_))
        refine (J.out w4 HB4.out.2.2.2).mono ?_
        rintro e w5 ⟨rfl, hk5⟩
        have HB5 := hQ_ (aQ (HB4.out.2.1.grown hk5 (by simp)) (aQ (HB4.out.2.2.1.grown hk5 (by simp)) (za HB4.out.2.2.2 hk5)))
        clear hk5
        go_wp2_with (refine wpList_store_row rfl 24 _ _ rfl (w.heap.size + 1 + 1) ns rfl rfl 24 _ HB5.out.1 (by rw [HNS.out.1]; exact info16) (by rw [HB.out.2.2.2, HNS.out.1]) HNS.out.2.1 ?_)
        go_roundw
        case rel => exact ⟨4, by omega, rfl, by rw [<- HNS.out.2.2]; exact HB5.out.1.row ns, HB5.out.2.1.farRow (by omega) ns, zc HB5.out.2.2 (.inl (by omega)) ns⟩
        case measure => simp [intOf]
      · subst hi
        have hand' : bits .and .i64 (lf / 16) 1 = 1 := by simpa using hand
        clear hand
        go_wp2_with (first
         | (refine wpList_load_mid rfl 24 _ rfl b _ rfl el _ HES.out.2.2.1 Tryz.underlying24 rfl HES.out.2.2.2.1 ?_; rw [HES.out.2.2.2.2])
         | (refine wpList_store_row rfl 24 _ _ rfl wr.heap.size es rfl rfl 24 _ (heap_alloc_new wr _) (by rw [HES.out.1]; exact info16) (by rw [HD.out.2.2.1, HES.out.1]) HES.out.2.1 ?_
            obtain ⟨w4, hw4⟩ : ∃ w4, w4 = (wr.alloc (.cells Z16 24)).setRow wr.heap.size es := ⟨_, rfl⟩
            obtain ⟨p10, hp10⟩ : ∃ p, p = wr.heap.size := ⟨_, rfl⟩
            rw [<- hw4, <- hp10]
            have HB4 := hQ_ (show Blk w4 p10 24 es /\ Blk w4 (w.heap.size + 1 + 1) 24 cs /\ Blk w4 (w.heap.size + 1) 24 Z16 /\ w.grownBy w4 none from by
             rw [hw4, hp10]
             have hg4 := zc (World.grownBy_alloc wr (.cells Z16 24) none) (.inl (Nat.le_refl _)) es
             exact ⟨(Blk.new wr 24 Z16).row es, HB.out.1.grown hg4 (by simp), HB.out.2.1.grown hg4 (by simp), za HB.out.2.2.1 hg4⟩)
            clear hw4 hp10)
         | (refine wpList_load_row rfl 24 _ rfl (w.heap.size + 1 + 1) rfl 24 cs (0, 0) _ HB4.out.2.1 Tryz.underlying24 rfl (by rw [HB.out.2.2.2]; exact info16) ?_)
         | (refine wpList_load_row rfl 24 _ rfl p10 rfl 24 es (0, 0) _ HB4.out.1 Tryz.underlying24 rfl (by rw [HES.out.1]; exact info16) ?_))
        refine (J.out w4 HB4.out.2.2.2).mono ?_
        rintro e w5 ⟨rfl, hk5⟩
        have HB5 := hQ_ (aQ (HB4.out.2.1.grown hk5 (by simp)) (aQ (HB4.out.2.2.1.grown hk5 (by simp)) (za HB4.out.2.2.2 hk5)))
        clear hk5
        go_wp2_with (refine wpList_store_row rfl 24 _ _ rfl (w.heap.size + 1 + 1) ns rfl rfl 24 _ HB5.out.1 (by rw [HNS.out.1]; exact info16) (by rw [HB.out.2.2.2, HNS.out.1]) HNS.out.2.1 ?_)
        go_roundw
        case rel => exact ⟨5, by omega, rfl, by rw [<- HNS.out.2.2]; exact HB5.out.1.row ns, HB5.out.2.1.farRow (by omega) ns, zc HB5.out.2.2 (.inl (by omega)) ns⟩
        case measure => simp [intOf]
  · obtain rfl : k = 5 := by omega
    have hr : cs = rs := by rw [hcs, HN.out.2.2.2.2.1]
    subst hr
    have HB := hQ_ (aQ hB (aQ hZ (aQ hG (aQ hsz (show (cs.all fun v => v.oneCell') = true by rw [hcs]; exact zu _ _)))))
    subst hi
    clear hB hZ hG hk hlt hcs hdk hsz
    go_wp2_with (first
     | (refine wpList_load_row rfl 24 _ rfl (w.heap.size + 1 + 1) rfl 24 cs (0, 0) _ HB.out.1 Tryz.underlying24 rfl (by rw [HB.out.2.2.2.1]; exact info16) ?_)
     | (refine wpList_store_row rfl 24 _ _ rfl (w.heap.size + 1) cs rfl rfl 24 _ HB.out.2.1 (by rw [HB.out.2.2.2.1]; exact info16) (by rw [HD.out.2.2.1, HB.out.2.2.2.1]) HB.out.2.2.2.2 ?_))
    refine bodyPost_ret (zr rfl _ _ _ ⟨w.heap.size + 1, 0, none⟩ (.agg cs) rfl (run_loadVar_row _ (w.heap.size + 1) 24 24 cs (0, 0) _ (HB.out.2.1.row cs) Tryz.underlying24 rfl (by rw [HB.out.2.2.2.1]; exact info16))) rfl ?_
    exact ⟨rfl, zc HB.out.2.2.1 (.inl (by omega)) cs⟩
end
section
def nodeC (ps : List (List Int)) : Nat -> Nat -> List Int
 | 0, j => ps.getD j zeroC
 | h + 1, j => joinC (nodeC ps h (2 * j)) (nodeC ps h (2 * j + 1))
def levC (ps : List (List Int)) (h n : Nat) : List (List Int) := upto (nodeC ps h) n
def sib (j : Nat) : Nat := if j % 2 = 0 then j + 1 else j - 1
def wayC (ps : List (List Int)) (i h : Nat) : List Int := nodeC ps h (sib (i / 2 ^ h))
end
section
open Go.RowKit
end
end Go.Proofs.YtigafnbofmiknaaGreatDoor
