/- ChQ, ChD, Grow, ChGo, ChG -/
import Derived.Test.YtigafnbofmiknaaGreatDoorW20j
import Derived.Test.YtigafnbofmiknaaGreatDoorW20g
import Derived.Test.YtigafnbofmiknaaGreatDoorW20i
import Derived.Test.YtigafnbofmiknaaGreatDoorW20a
import Derived.BigQuiet
import Derived.Test.YtigafnbofmiknaaGreatDoorW20h
namespace Go.Proofs.YtigafnbofmiknaaGreatDoor
set_option maxRecDepth 100000
set_option maxHeartbeats 10000000
open Go.RowKit
section
def endS (seed : List Int) (lf : Int) (k : Nat) : List Int := runC (secC seed lf k) lf k 0 3
def pubS (seed : List Int) (lf : Int) : List Int := pubC lf (rowC (endS seed lf) 68)
def digN (d : List Int) (k : Nat) : Nat := ((uh d).getD k 0).toNat
def sigS (seed : List Int) (lf : Int) (d : List Int) (k : Nat) : List Int := runC (secC seed lf k) lf k 0 (digN d k)
def sigsS (seed : List Int) (lf : Int) (d : List Int) : List (List Int) := upto (sigS seed lf d) 68
end
section
theorem zed (lf : Int) (ends : List Int) : isDig (pubC lf ends) := by rw [pubC]; exact zbb _ _
theorem public_is (w : World) (hR : Rounds w) (lf : Int) (A : Option Addr) (m c : Nat) (L : List Int) (hm : L.length = m) (hc : m <= c) (hL : BytesI w A L) (h2 : m <= 2000) :
    Calls Tryz.prog 136 #[.int .i64 lf, .slice A m c] w fun e w' => e = .returned (.agg (arrV .u8 (pubC lf L))) /\ w.grownBy w' none := by
 obtain ⟨Z16, hZ16⟩ : ∃ Z, Z = arrV .u8 (List.replicate 16 0) := ⟨_, rfl⟩
 have hz16 : ∀ w, Sem.run Tryz.prog (zeroValue 24) w = .ok (.agg Z16) w := fun w => by rw [hZ16]; exact z16run w
 have hZs : Z16.size = 16 := by rw [hZ16]; rfl
 have hps : ∀ p ∈ [[lf % 256], L], p.length <= 65536 := by
  intro p hp
  have : p.length = m \/ p.length = 1 := by
   simp only [List.mem_cons, List.not_mem_nil, or_false] at hp
   rcases hp with rfl | rfl
   · exact .inr rfl
   · exact .inl hm
  omega
 have HR := hQ_ hR
 have HA := hQ_ (aQ hm (aQ hc hL))
 have HZS := hQ_ hZs
 clear hZ16 hZs hR hm hc hL
 go_enter Tryz.func136, Tryz.ntmps136
 go_wp2_with fail
 obtain ⟨w0, hw0⟩ : ∃ w0, w0 = w.alloc (.cells Z16 24) := ⟨_, rfl⟩
 rw [<- hw0]
 have HZ0 := hQ_ (show Blk w0 w.heap.size 24 Z16 by rw [hw0]; exact Blk.new w _ Z16)
 have HG0 := hQ_ (show w.grownBy w0 none by rw [hw0]; exact gQ)
 clear hw0
 obtain ⟨c6, hc6⟩ : ∃ c6, c6 = arrV .u8 (pubC lf L) := ⟨_, rfl⟩
 have hs16 : c6.size = 16 := by rw [hc6, zf]; exact (zed _ _).1
 have HS6 := hQ_ (aQ hs16 (aQ (show (c6.all fun x => x.oneCell') = true by rw [hc6]; exact zu _ _) hc6))
 have HL6 := hQ_ (show arrV .u8 (ofS 3 [[lf % 256], L]) = c6 by rw [hc6, pubC])
 have W1 : w0.grownBy (w0.alloc (.cells #[.int .u8 (lf % 256)] 5)) none := gQ
 have W3 := za W1 (World.grownBy_alloc _ (.cells #[.slice (some ⟨w0.heap.size, 0, none⟩) 1 1, .slice A m c] 81) none)
 have HP := hQ_ (show PartsI ((w0.alloc (.cells #[.int .u8 (lf % 256)] 5)).alloc (.cells #[.slice (some ⟨w0.heap.size, 0, none⟩) 1 1, .slice A m c] 81)) (some ⟨w0.heap.size + 1, 0, none⟩) [[lf % 256], L] from by
  have := zdo (w0.alloc (.cells #[.int .u8 (lf % 256)] 5)) 81 #[.slice (some ⟨w0.heap.size, 0, none⟩) 1 1, .slice A m c] [[lf % 256], L] (fun j hj => by
   have : j = 0 \/ j = 1 := by simp at hj; omega
   rcases this with rfl | rfl
   · exact ⟨_, 1, 1, rfl, rfl, Nat.le_refl _, zab (t := 5) ((Blk.new w0 5 (arrV .u8 [lf % 256])).alloc _)⟩
   · exact ⟨_, m, c, rfl, HA.out.1, HA.out.2.1, (HA.out.2.2.grown HG0.out).grown W3⟩)
  simpa using this)
 have HW3 := hQ_ (aQ W3 (za HG0.out W3))
 clear hs16 hc6 W1 W3
 refine (zc6 w0 lf).mono ?_
 rintro e w' ⟨rfl, rfl⟩
 go_wp2_with fail
 refine (of_is _ (HR.out.grown HW3.out.2 (by simp)) 3 _ 2 2 [[lf % 256], L] rfl (by simpa using HP.out) (by omega) hps).mono ?_
 rintro e w9 ⟨rfl, hk9⟩
 rw [HL6.out]
 have HK9 := hQ_ (za HW3.out.2 hk9)
 have HB9 := hQ_ ((HZ0.out.grown HW3.out.1 (by simp)).grown hk9 (by simp))
 clear hk9
 go_wp2_with (refine wpList_store_row rfl 24 _ _ rfl w.heap.size c6 rfl rfl 24 _ HB9.out (by rw [HS6.out.1]; exact info16) (by rw [HZS.out, HS6.out.1]) HS6.out.2.1 ?_)
 refine bodyPost_ret (z5 rfl _ _ _ ⟨w.heap.size, 0, none⟩ (.agg c6) rfl (run_loadVar_row _ w.heap.size 24 24 c6 (0, 0) _ (HB9.out.row c6) Tryz.underlying24 rfl (by rw [HS6.out.1]; exact info16))) rfl ?_
 exact ⟨by rw [HS6.out.2.2], zc HK9.out (.inl (Nat.le_refl _)) c6⟩
end
section
def Gr (w : World) : Type := { z : World // w.grownBy z none }
instance (w : World) : Nonempty (Gr w) := ⟨⟨w, World.grownBy.refl w none⟩⟩
theorem Gr.cell {w : World} {a : Addr} {v : Value} (h : w.cell? a = some v) : ∀ z : Gr w, z.1.cell? a = some v := fun z => z.2.cell h (by simp)
theorem zj {P : Program} {id : Nat} {Q : Exit -> Act -> World -> Prop} {a : Act} {w : World} {l : List Oper} (hm : P.follows .mixedOrders = true) (hB : Region.lexB .any l.toArray = true)
    (h : wpQuiet P l.toArray (fun w' => ∃ z : Gr w, w' = z.1) (fun a' => ∀ w', (∃ z : Gr w, w' = z.1) -> Q .normal a' w') l a) : (Code.region id l.toArray true).wp P Q a w :=
 wp_region_quiet (C := fun w' => ∃ z : Gr w, w' = z.1) hm hB ⟨⟨w.drew, zh (World.grownBy.refl w none)⟩, rfl⟩ (by simpa using h)
theorem Calls.grown {P : Program} {f : FuncId} {args : Array Value} {w : World} (z : Gr w) {v : Value} (h : Calls P f args z.1 fun e w' => e = .returned v /\ z.1.grownBy w' none) :
    Calls P f args z.1 fun e w'' => e = .returned v /\ ∃ z' : Gr w, w'' = z'.1 :=
 h.mono fun _ w' ⟨he, hk⟩ => ⟨he, ⟨w', za z.2 hk⟩, rfl⟩
theorem zy {P : Program} {ops : Array Oper} {C : World -> Prop} {Q : Act -> Prop} {a : Act} {o : Oper} {rest : List Oper} (ty : TypeId) (x : Operand) (p : Addr) (v : Value) (hw : Region.wanted o (yielded ops a.tmps) = true) (ho : o.op = .load ty x) (hx : a.eval x = .pointer (some p))
    (hr : ∀ V, C V -> (Instr.loadAt ty (.pointer (some p))).run P V = .ok v V) (h : wpQuiet P ops C Q rest (a.put o.dst v)) : wpQuiet P ops C Q (o :: rest) a := by
 refine wpQuiet_step fun K hK => ?_
 rw [if_pos hw]
 refine ⟨v, fun w hC => ?_, hK _ h⟩
 unfold Oper.quietAt execOp
 simp only [ho, hx, Sem.run_bind, hr w hC, Result.andThen_ok, Sem.run_pure]
 exact ⟨rfl, rfl⟩
end
section
theorem run_v (w : World) (hR : Rounds w) (x : List Int) (hx : isDig x) (lf i fr tq : Int) (h0 : 0 <= fr) (h3 : tq <= 3) (n : Nat) (hn : n = (tq - fr).toNat) (ds rs : Array Value) (h1 : ds = arrV .u8 x) (h2 : rs = arrV .u8 (runC x lf i fr n)) :
    Calls Tryz.prog 135 #[.agg ds, .int .i64 lf, .int .i64 i, .int .i64 fr, .int .i64 tq] w fun e w' => e = .returned (.agg rs) /\ w.grownBy w' none := by
 subst h1
 exact run_is w hR x hx lf i fr tq fr tq n (.inr ⟨h0, rfl⟩) (.inl ⟨h3, rfl⟩) hn rs h2
end
section
theorem isleaf_yes (w : World) (lf : Int) (h : 0 <= lf /\ lf < 32) : Calls Tryz.prog 133 #[.int .i64 lf] w fun e w' => e = .returned (.bool true) /\ w' = w := by
 have d1 : decide (0 <= lf) = true := by simp; omega
 have d2 : decide (lf < 32) = true := by simp; omega
 obtain ⟨h1, h2⟩ := h
 go_enter Tryz.func133, Tryz.ntmps133
 go_wp2
 go_ret
 simp
theorem isleaf_no (w : World) (lf : Int) (h : lf < 0 \/ 32 <= lf) : Calls Tryz.prog 133 #[.int .i64 lf] w fun e w' => e = .returned (.bool false) /\ w' = w := by
 by_cases h0 : lf < 0
 · have d1 : decide (0 <= lf) = false := by simp; omega
   have h1 : ¬ 0 <= lf := by omega
   go_enter Tryz.func133, Tryz.ntmps133
   go_wp2
   go_ret
   simp
 · have d1 : decide (0 <= lf) = true := by simp; omega
   have d2 : decide (lf < 32) = false := by simp; omega
   have h1 : 0 <= lf := by omega
   have h2 : ¬ lf < 32 := by omega
   go_enter Tryz.func133, Tryz.ntmps133
   go_wp2
   go_ret
   simp
theorem recover_ok (w : World) (hR : Rounds w) (lf : Int) (hlf : 0 <= lf /\ lf < 32) (b off c : Nat) (ps : List (List Int)) (hl : ps.length = 68) (hps : ∀ p ∈ ps, isDig p) (hD : DigsAt w b off ps) (d : List Int) (hd : isDig d) (rs : Array Value) (hrs : rs = arrV .u8 (recC lf ps d)) :
    Calls Tryz.prog 117 #[.int .i64 lf, .slice (some ⟨b, off, none⟩) 68 c, .agg (arrV .u8 d)] w fun e w' => e = .returned (.tuple #[.agg rs, .nilIface]) /\ w.grownBy w' none := by
 obtain ⟨Z16, hZ16⟩ : ∃ Z, Z = arrV .u8 (List.replicate 16 0) := ⟨_, rfl⟩
 have hz16 : ∀ w, Sem.run Tryz.prog (zeroValue 24) w = .ok (.agg Z16) w := fun w => by rw [hZ16]; exact z16run w
 have hZs : Z16.size = 16 := by rw [hZ16]; rfl
 obtain ⟨ds, hds⟩ : ∃ ds, ds = arrV .u8 d := ⟨_, rfl⟩
 rw [<- hds]
 obtain ⟨i0, hi0, hz0, hz1, hz2⟩ := info_parts u8i
 have HI0 := hQ_ (aQ hi0 (aQ hz0 (aQ hz1 hz2)))
 have HD := hQ_ (show ds = arrV .u8 d /\ ds.size = 16 /\ Z16.size = 16 from ⟨hds, by rw [hds, zf, hd.1], hZs⟩)
 have hrd : isDig (recC lf ps d) := by rw [recC, pubC]; exact zbb _ _
 have HN := hQ_ (aQ hd (aQ hl (aQ hps (aQ hD (aQ hrs hrd)))))
 have HR := hQ_ hR
 have HLF := hQ_ hlf
 clear hZ16 hZs hds hd hl hps hD hrs hrd hR hi0 hz0 hz1 hz2 hlf
 go_enter Tryz.func117, Tryz.ntmps117
 obtain ⟨w0, hw0⟩ : ∃ w0, w0 = (w.alloc (.cells ds 24)).alloc (.cells Z16 24) := ⟨_, rfl⟩
 have HB0 := hQ_ (show Blk w0 w.heap.size 24 ds by rw [hw0]; exact (Blk.new w _ ds).alloc _)
 have HZ0 := hQ_ (show Blk w0 (w.heap.size + 1) 24 Z16 by rw [hw0]; have := Blk.new (w.alloc (.cells ds 24)) 24 Z16; rwa [World.size_alloc] at this)
 have HG0 := hQ_ (show w.grownBy w0 none by rw [hw0]; exact za (gQ) (gQ))
 have HW0 := hQ_ hw0
 clear hw0
 go_wp2_with fail
 rw [<- HW0.out]
 refine (isleaf_yes w0 lf HLF.out).mono ?_
 rintro e w' ⟨rfl, rfl⟩
 go_wp2_with (refine wpList_load_row rfl 24 _ rfl w.heap.size rfl 24 ds (0, 0) _ HB0.out Tryz.underlying24 rfl (by rw [HD.out.2.1]; exact info16) ?_)
 rw [HD.out.1]
 refine (digits_is _ d HN.out.1.1 HN.out.1.2).mono ?_
 rintro e w1 ⟨g, cap, rfl, hcell, hgs, hk1⟩
 rw [<- HD.out.1]
 have HC := hQ_ hcell
 have HZ1 := hQ_ (HZ0.out.grown hk1 (by simp))
 have HG1 := hQ_ (za HG0.out hk1)
 clear hcell hgs hk1
 go_wp2_with fail
 go_loopw [25, 8] (fun i v wr => ∃ k : Nat, k <= 68 /\ i = .int .i64 (k : Int) /\ wr.ownsRow w1.heap.size 5 1 v (16 * k) ((rowC (endC ps d lf) k).map (Value.int .u8)) /\ w1.grownBy wr none) (fun i _ _ => 68 - (intOf i).toNat)
 case atStart => exact ⟨0, by omega, rfl, World.ownsRow_nil _ _ _ _, World.grownBy.refl w1 none⟩
 case round =>
  obtain ⟨k, hk, hi, hown, hK⟩ := hrel
  obtain ⟨I, hI⟩ : ∃ I : Int, I = (k : Int) := ⟨_, rfl⟩
  rw [<- hI] at hi
  subst hi
  by_cases hlt : k < 68
  · have d1 : decide (I < 68) = true := by simp; omega
    have hI68 : 0 <= I /\ I < 68 := by omega
    have hkI : I.toNat = k := by omega
    obtain ⟨x, hx⟩ : ∃ x, x = (uh d).getD k 0 := ⟨_, rfl⟩
    have hxr : 0 <= x /\ x <= 3 := by
     have hl : k < (uh d).length := by rw [digitsS_length, HN.out.1.1]; exact hlt
     rw [hx, List.getD, List.getElem?_eq_getElem hl]
     exact digitsS_range d _ (List.getElem_mem hl)
    have kc : wr.cell? ⟨g, I.toNat, none⟩ = some (.int .i64 x) := by rw [hkI, hx]; exact hK.cell (HC.out k hlt) (by simp)
    obtain ⟨p, hp⟩ : ∃ p, p = ps.getD k zeroC := ⟨_, rfl⟩
    have hpd : isDig p := by rw [hp]; exact zbu HN.out.2.2.1 k
    obtain ⟨cs, hcs⟩ : ∃ cs, cs = arrV .u8 p := ⟨_, rfl⟩
    obtain ⟨cl, hcl⟩ : ∃ cl, cl = cs.toList := ⟨_, rfl⟩
    have hcl16 : cl.length = 16 := by rw [hcl, Array.length_toList, hcs, zf]; exact hpd.1
    have hr1 : wr.rangeAt b (off + I.toNat * 16) cl := by
     rw [hkI, hcl, hcs, hp]
     exact zaq (HN.out.2.2.2.1 k (by rw [HN.out.2.1]; exact hlt)) (za HG1.out hK)
    obtain ⟨es, hes⟩ : ∃ es, es = arrV .u8 (endC ps d lf k) := ⟨_, rfl⟩
    have hed := zeq HN.out.2.2.1 d lf k
    have hes16 : es.size = 16 := by rw [hes, zf]; exact hed.1
    have HR1 := hQ_ (aQ hr1 (show (Tryz.prog.info? 24).map (·.size) = some cl.length by rw [hcl16]; exact info16))
    have HST := hQ_ (run_v wr (HR.out.grown (za HG1.out hK) (by simp)) p hpd lf I x 3 hxr.1 (by omega) _ rfl cl.toArray es (by rw [hcl, Array.toArray_toList, hcs]) (by rw [hes, endC, <- hx, <- hp, hI]))
    have HES := hQ_ (show es.size = 16 /\ (es.all fun v => v.oneCell') = true /\ es.toList = (endC ps d lf k).map (Value.int .u8) from ⟨hes16, by rw [hes]; exact zu _ _, by rw [hes]⟩)
    have HK := hQ_ (aQ hI (aQ hlt hK))
    have HO := hQ_ hown
    have hsl := zbq
    clear hI hlt hkI hx hp hpd hcs hcl hcl16 hr1 hes hed hes16 hK hk hown
    go_wp2_with (refine wpList_load_mid rfl 24 _ rfl b (off + I.toNat * 16) rfl cl _ HR1.out.1 Tryz.underlying24 rfl HR1.out.2 ?_)
    refine HST.out.mono ?_
    rintro e w2 ⟨rfl, hk2⟩
    have HB2 := hQ_ (fun o => Blk.row (Blk.new w2 24 o) es)
    have HO2 := hQ_ (fun o => vt HO.out (zc (za hk2 (World.grownBy_alloc w2 o none)) (g := w2.heap.size) (.inl hk2.size) es))
    have HG2 := hQ_ (fun o => zc (za (za HK.out.2.2 hk2) (World.grownBy_alloc w2 o none)) (g := w2.heap.size) (.inl (za HK.out.2.2 hk2).size) es)
    have HZ := hQ_ (show w1.heap.size <= w2.heap.size from (za HK.out.2.2 hk2).size)
    clear hk2
    go_wp2_with (first
     | (refine wpList_store_row rfl 24 _ _ rfl w2.heap.size es rfl rfl 24 _ (heap_alloc_new w2 _) (by rw [HES.out.1]; exact info16) (by simp only [HES.out.1, HD.out.2.2]) HES.out.2.1 ?_)
     | (at_builtin; refine wpList_append_own _ rfl _ _ 81 rfl w1.heap.size 5 i0 (.int .u8 0) 1 1 Tryz.underlying81 HI0.out.1 HI0.out.2.1 HI0.out.2.2.1 HI0.out.2.2.2 rfl (by decide) _ _ _ rfl (HO2.out _) ⟨w2.heap.size, 0, none⟩ 16 16 es.toList rfl (show es.toList.length = 16 * 1 by rw [Array.length_toList]; exact HES.out.1) (fun j u hu => by rw [yj, (HB2.out _).cell j, <- Array.getElem?_toList]; exact hu) (by rw [HES.out.2.2]; simp [Value.oneCell']) (by have := HK.out.2.1; simp only [maxLen]; omega) (by have := HK.out.2.1; omega) (by rw [setRow_size, World.size_alloc]; have := HZ.out; omega) ?_; intro v' w4 hown4 hgrow _; have HO4 := hQ_ hown4; have HG4 := hQ_ (yh (HG2.out _) hgrow (HO2.out _) (Nat.le_refl _)); clear hown4 hgrow))
    go_roundw
    case rel =>
     obtain ⟨hI, hlt, _⟩ := HK.out
     refine ⟨k + 1, by omega, by rw [hI]; rfl, ?_, HG4.out⟩
     rw [rowC, List.map_append, <- HES.out.2.2, show 16 * (k + 1) = 16 * k + 16 by omega]
     exact HO4.out
    case measure => obtain ⟨hI, hlt, _⟩ := HK.out; simp only [intOf]; omega
  · obtain rfl : k = 68 := by omega
    have d1 : decide (I < 68) = false := by simp; omega
    obtain ⟨A, cap2, rfl, hby, hcap, hlen⟩ := ze4 hown
    have HS := hQ_ (aQ hby (aQ hcap hlen))
    have HK := hQ_ hK
    clear hby hcap hlen hK hI hlt hk hown
    go_wp2_with fail
    refine (public_is wr (HR.out.grown (za HG1.out HK.out) (by simp)) lf A _ cap2 _ HS.out.2.2 HS.out.2.1 HS.out.1 (by omega)).mono ?_
    rintro e w4 ⟨rfl, hk4⟩
    rw [<- recC, <- HN.out.2.2.2.2.1]
    have HS6 := hQ_ (show rs.size = 16 /\ (rs.all fun x => x.oneCell') = true from ⟨by rw [HN.out.2.2.2.2.1, zf]; exact HN.out.2.2.2.2.2.1, by rw [HN.out.2.2.2.2.1]; exact zu _ _⟩)
    have HZ4 := hQ_ ((HZ1.out.grown HK.out (by simp)).grown hk4 (by simp))
    have HG4 := hQ_ (za HG1.out (za HK.out hk4))
    clear hk4
    go_wp2_with (refine wpList_store_row rfl 24 _ _ rfl (w.heap.size + 1) rs rfl rfl 24 _ HZ4.out (by rw [HS6.out.1]; exact info16) (by rw [HD.out.2.2, HS6.out.1]) HS6.out.2 ?_)
    refine bodyPost_ret (zr rfl _ _ _ ⟨w.heap.size + 1, 0, none⟩ (.agg rs) rfl (run_loadVar_row _ (w.heap.size + 1) 24 24 rs (0, 0) _ (HZ4.out.row rs) Tryz.underlying24 rfl (by rw [HS6.out.1]; exact info16))) rfl ?_
    exact ⟨rfl, zc HG4.out (.inl (Nat.le_succ _)) rs⟩
end
end Go.Proofs.YtigafnbofmiknaaGreatDoor
