/- Attempt0, CdEDg, CdS, CdESg, CdDv -/
import Derived.Test.YtigafnbofmiknaaGreatDoorW20w
import Derived.Recover
import Derived.Defers
import Derived.Deep.DeepCutAuto
import Derived.Test.YtigafnbofmiknaaGreatDoorW20y
namespace Go.Proofs.YtigafnbofmiknaaGreatDoor
set_option maxRecDepth 100000
set_option maxHeartbeats 10000000
open Go.RowKit
section
theorem catch_idle0 (p : Addr) (w : World) :
    CallsD Tryz.prog 144 #[.pointer (some p)] .returning w fun e u' w' => e = .returned (.tuple #[]) /\ u' = .returning /\ w' = w := by
 refine callsD_of_wpS Tryz.func144 rfl fun c₀ cs hu => ?_
 apply wpS_seq
 apply wpS_region
 simp [wpOpsS, go_sem, recoverD, hu, Tryz.ntmps144, Exit.thenS]
 refine wpS_cond (t := false) (by simp [Act.eval, Array.replicate]) ?_
 simp only [Bool.false_eq_true, if_false]
 refine wpS_of_wp (wp_skip ?_)
 cases c₀
 simp_all [bodyPostS, results, Tryz.results144]
theorem zbi (p : Addr) (fn : FuncId) (caps : Array Value) (w : World) (R : World -> Prop) (hE : ∀ (args : Array Value) (w : World), (callFunc fn args).run Tryz.prog w = .ok (.enter fn args) w)
    (hC : Calls Tryz.prog fn caps (w.alloc (.cells #[.pointer (some p)] 226)) fun e w' => e = .returned (.tuple #[]) /\ R w') :
    Calls Tryz.prog 130 #[.pointer (some p), .func (.func fn) #[] caps] w fun e w' => e = .returned (.tuple #[]) /\ R w' := by
 have HC := hQ_ hC
 clear hC
 have hmf : ∀ (fn : Fn) (first cap : Array Value) (w : World), (Instr.makeFunc fn first cap).run Tryz.prog w = .ok (.func fn first cap) w := fun _ _ _ _ => rfl
 go_enter_defers Tryz.func130, Tryz.ntmps130
 go_wp2_with fail
 refine HC.out.mono ?_
 rintro e w1 ⟨rfl, hR⟩
 go_wp2_with fail
 refine leaves_cons (f := 144) (args := #[.pointer (some ⟨w.heap.size, 0, none⟩)]) (by simp) (by simp [go_sem]) ?_
 refine (catch_idle0 ⟨w.heap.size, 0, none⟩ _).mono ?_
 rintro e u' w'' ⟨rfl, rfl, rfl⟩
 exact ⟨_, results_none rfl _ _ _, rfl, hR⟩
end
section
theorem enter_Dg (args : Array Value) (w : World) : (callFunc 152 args).run Tryz.prog w = .ok (.enter 152 args) w := by kernel_rfl
section
variable {w0 : World} {E : Nat -> Addr} {g : Nat} (he : ErrAt w0 w0.heap.size 0 (E 0))
include he
theorem pcl_Dg (w : World) (F : Nat -> Prop) (s : WSt) (h : WI w0 E g F s w) (hs : s.2.length <= 3500000) (x : List Int) (hx : isDig x) (cs : Array Value) (hcs : cs = (dgV x).toArray) (b1 b2 : Nat)
    (h4 : w.cell? ⟨b1, 0, none⟩ = some (.func (.func 88) #[] #[])) (h5 : w.cell? ⟨b2, 0, none⟩ = some (.pointer (some ⟨g, 0, none⟩))) :
    Calls Tryz.prog 150 #[.pointer (some ⟨g, 0, none⟩), .agg cs, .pointer (some ⟨b1, 0, none⟩), .pointer (some ⟨b2, 0, none⟩)] w fun e w' => e = .returned (.tuple #[]) /\ WP w0 E g F (sDig x s) w w' := by
 obtain ⟨W1, hW1⟩ : ∃ W1, w.alloc (.cells cs 24) = W1 := ⟨_, rfl⟩
 have g1 : w.grownBy W1 none := by rw [<- hW1]; exact gQ
 have bx : Blk W1 w.heap.size 24 cs := by rw [<- hW1]; exact Blk.new w _ _
 have c1 := g1.cell h4 (by simp)
 have c2 := g1.cell h5 (by simp)
 have hcz : cs.size = 16 := by rw [hcs]; exact cz_Dg hx
 have P1 := h.grown g1
 have H := hQ_ (el_Dg he P1.wi hs x hx cs hcs)
 have HX := hQ_ (aQ hcz (zd bx))
 have HP := hQ_ P1
 have HW := hQ_ hW1
 clear h hx hs hcs P1 bx hcz g1 hW1 h4 h5
 go_enter Tryz.func150, Tryz.ntmps150
 go_upto_region 1 with (fail)
 rw [HW.out]
 go_wp2_with (refine wpList_load_mid rfl 24 _ rfl w.heap.size 0 rfl cs.toList _ HX.out.2 Tryz.underlying24 rfl (by rw [Array.length_toList, HX.out.1]; exact sz_Dg) ?_; rw [Array.toArray_toList])
 refine H.out.mono ?_
 rintro e w1 ⟨rfl, h1⟩
 have H1 := hQ_ h1
 clear h1
 go_wp2_with fail
 go_end0
 exact ⟨rfl, HP.out.trans H1.out⟩
theorem ploop_Dg (w : World) (F : Nat -> Prop) (s : WSt) (h : WI w0 E g F s w) (hs : s.2.length <= 3100000) (lb ob wb b1 b2 : Nat) (A : Option Addr) (n c : Nat) (L : List (List Int)) (hn : L.length = n) (hL : n <= 255) (hA : RowAt w0 A dgV 16 L) (hok : ∀ x ∈ L, isDig x) (had : ∀ x ∈ L, Adds 1200 (sDig x))
    (h1 : w.cell? ⟨lb, 0, none⟩ = some (.slice A n c)) (h2 : w.cell? ⟨ob, 0, none⟩ = some (.func (.func 150) #[] #[.pointer (some ⟨b1, 0, none⟩), .pointer (some ⟨b2, 0, none⟩)])) (h3 : w.cell? ⟨wb, 0, none⟩ = some (.pointer (some ⟨g, 0, none⟩)))
    (h4 : w.cell? ⟨b1, 0, none⟩ = some (.func (.func 88) #[] #[])) (h5 : w.cell? ⟨b2, 0, none⟩ = some (.pointer (some ⟨g, 0, none⟩)))
    (n2 : ¬ F ob) (n3 : ¬ F wb) (n4 : ¬ F b1) (n5 : ¬ F b2) :
    Calls Tryz.prog 152 #[.pointer (some ⟨lb, 0, none⟩), .pointer (some ⟨ob, 0, none⟩), .pointer (some ⟨wb, 0, none⟩)] w fun e w' => e = .returned (.tuple #[]) /\ WP w0 E g F (sAll sDig L s) w w' := by
 have hzz := zz_Dg
 obtain ⟨ZZ, hZZ⟩ : ∃ Z, zv_Dg = Z := ⟨_, rfl⟩
 rw [hZZ] at hzz
 have HZZ := hQ_ (show 16 = ZZ.size by rw [<- hZZ]; rfl)
 clear hZZ
 have HH := hQ_ (aQ h (aQ hs (aQ hn (aQ hA (aQ hok had)))))
 have HC := hQ_ (aQ h2 (aQ h3 (aQ h4 h5)))
 have HN := hQ_ (aQ n2 (aQ n3 (aQ n4 n5)))
 have HE := hQ_ he
 clear h hs hn hA hok had h2 h3 h4 h5 n2 n3 n4 n5 he
 go_enter Tryz.func152, Tryz.ntmps152
 go_wp2_with fail
 clear h1
 go_loopw [7] (fun i wr => ∃ k : Nat, k <= n /\ i = .int .i64 (k : Int) /\ WP w0 E g F (sAll sDig (L.take k) s) w wr) (fun i _ => n - (intOf i).toNat)
 case atStart => exact ⟨0, Nat.zero_le _, rfl, by simpa [sAll] using HH.out.1.same⟩
 case round =>
  obtain ⟨k, hk, hi, hP⟩ := hrel
  obtain ⟨I, hI⟩ : ∃ I : Int, I = (k : Int) := ⟨_, rfl⟩
  rw [<- hI] at hi
  subst hi
  rename World => wr
  by_cases hlt : k < n
  · have hlt' : k < L.length := by have := HH.out.2.2.1; omega
    have hne : L ≠ [] := by rintro rfl; simp at hlt'
    obtain ⟨b, off, rfl, hc⟩ := HH.out.2.2.2.1 hne
    have d2 : decide (I < (n : Int)) = true := by simp; omega
    have hIV : I < (n : Int) := by omega
    have hI0 : 0 <= I /\ I < 1000 := by omega
    have hkI : I.toNat = k := by omega
    have r1 := zcg hP.wi.kept (hc k hlt')
    obtain ⟨x, hxe⟩ : ∃ x, x = L[k] := ⟨_, rfl⟩
    have hxm : x ∈ L := by rw [hxe]; exact List.getElem_mem hlt'
    rw [<- hxe] at r1
    rw [<- hkI] at r1
    have c2 := hP.fine.cell HC.out.1 HN.out.1
    have c3 := hP.fine.cell HC.out.2.1 HN.out.2.1
    have c4 := hP.fine.cell HC.out.2.2.1 HN.out.2.2.1
    have c5 := hP.fine.cell HC.out.2.2.2 HN.out.2.2.2
    have hlen : (sAll sDig (L.take k) s).2.length <= 3500000 := by
     have h1 := u7 (f := sDig) (c := 1200) (L.take k) (fun y hy => HH.out.2.2.2.2.2 y (List.mem_of_mem_take hy)) s
     have h2 := HH.out.2.1
     have h3 : (L.take k).length * 1200 <= 255 * 1200 := Nat.mul_le_mul_right 1200 (by rw [List.length_take]; omega)
     omega
    have htake : sAll sDig (L.take (k + 1)) s = sDig x (sAll sDig (L.take k) s) := by rw [List.take_succ_eq_append_getElem hlt', <- hxe, ut]
    obtain ⟨cs, hcs⟩ : ∃ cs, cs = (dgV x).toArray := ⟨_, rfl⟩
    have hcz : cs.size = 16 := by rw [hcs]; exact cz_Dg (HH.out.2.2.2.2.1 x hxm)
    have hc1 : (cs.all fun v => v.oneCell') = true := by rw [hcs]; exact c1_Dg x
    have r2 : wr.rangeAt b (off + I.toNat * 16) cs.toList := by rw [hcs]; exact r1
    obtain ⟨W0, hW0⟩ : ∃ W0, W0 = (wr.alloc (.cells ZZ 24)).setRow wr.heap.size cs := ⟨_, rfl⟩
    have hG0 : wr.grownBy W0 none := by rw [hW0]; exact zc (World.grownBy_alloc wr _ none) (.inl (Nat.le_refl _)) cs
    have bS : Blk W0 wr.heap.size 24 cs := by rw [hW0]; exact (Blk.new wr 24 ZZ).row cs
    have e2 := hG0.cell c2 (by simp)
    have e3 := hG0.cell c3 (by simp)
    have P0 := hP.wi.grown hG0
    have HS := hQ_ (pcl_Dg HE.out W0 _ _ P0.wi hlen x (HH.out.2.2.2.2.1 x hxm) cs hcs b1 b2 (hG0.cell c4 (by simp)) (hG0.cell c5 (by simp)))
    have HP := hQ_ (aQ (aQ hP P0) (aQ htake (aQ hI hlt')))
    have HX := hQ_ (aQ hcz (aQ hc1 (aQ r2 (zd bS))))
    have HW := hQ_ hW0
    clear hP P0 hcz hc1 r1 r2 hW0 hG0 bS hcs c2 c3 c4 c5 hxm hxe htake hlen hc hne hkI hI hlt'
    go_wp2_with (first
     | (refine wpList_load_mid rfl 24 _ rfl b (off + I.toNat * 16) rfl cs.toList _ HX.out.2.2.1 Tryz.underlying24 rfl (by rw [Array.length_toList, HX.out.1]; exact sz_Dg) ?_; rw [Array.toArray_toList])
     | (refine wpList_store_row rfl 24 _ _ rfl wr.heap.size cs rfl rfl 24 _ (heap_alloc_new wr _) (by rw [HX.out.1]; exact sz_Dg) (by rw [HX.out.1]; first | exact HZZ.out | exact HZZ.out.symm) HX.out.2.1 ?_
        rw [<- HW.out])
     | (refine wpList_load_mid rfl 24 _ rfl wr.heap.size 0 rfl cs.toList _ HX.out.2.2.2 Tryz.underlying24 rfl (by rw [Array.length_toList, HX.out.1]; exact sz_Dg) ?_; rw [Array.toArray_toList]))
    refine HS.out.mono ?_
    rintro e3 W3 ⟨rfl, h3⟩
    have H3 := hQ_ h3
    clear h3
    go_wp2_with fail
    go_roundw
    case rel => exact ⟨k + 1, by omega, by rw [HP.out.2.2.1]; rfl, by rw [HP.out.2.1]; exact HP.out.1.1.trans (HP.out.1.2.trans H3.out)⟩
    case measure => have := HP.out.2.2.1; simp [intOf]; omega
  · have d2 : decide (I < (n : Int)) = false := by simp; omega
    have hf : L.take k = L := List.take_of_length_le (by have := HH.out.2.2.1; omega)
    rw [hf] at hP
    have HP := hQ_ hP
    clear hP hf hlt hI hk
    go_wp2_with fail
    go_end0
    exact ⟨rfl, HP.out⟩
theorem wput_Dg (w : World) (F : Nat -> Prop) (s : WSt) (h : WI w0 E g F s w) (hs : s.2.length <= 3000000) (b1 b2 : Nat) (A : Option Addr) (n c : Nat) (L : List (List Int)) (hn : L.length = n) (hA : RowAt w0 A dgV 16 L) (hok : ∀ x ∈ L, isDig x) (had : ∀ x ∈ L, Adds 1200 (sDig x)) (most : Int)
    (h4 : w.cell? ⟨b1, 0, none⟩ = some (.func (.func 88) #[] #[])) (h5 : w.cell? ⟨b2, 0, none⟩ = some (.pointer (some ⟨g, 0, none⟩))) (n4 : ¬ F b1) (n5 : ¬ F b2) :
    Calls Tryz.prog 149 #[.pointer (some ⟨g, 0, none⟩), .slice A n c, .int .i64 most, .func (.func 150) #[] #[.pointer (some ⟨b1, 0, none⟩), .pointer (some ⟨b2, 0, none⟩)]] w fun e w' => e = .returned (.tuple #[]) /\ WP w0 E g F (sPut n most (sAll sDig L) s) w w' := by
 have hmf : ∀ (fn : Fn) (first cap : Array Value) (w : World), (Instr.makeFunc fn first cap).run Tryz.prog w = .ok (.func fn first cap) w := fun _ _ _ _ => rfl
 obtain ⟨W1, hW1⟩ : ∃ W1, ((w.alloc (.cells #[.pointer (some ⟨g, 0, none⟩)] 154)).alloc (.cells #[.slice A n c] 85)).alloc (.cells #[.func (.func 150) #[] #[.pointer (some ⟨b1, 0, none⟩), .pointer (some ⟨b2, 0, none⟩)]] 233) = W1 := ⟨_, rfl⟩
 have z1 : W1.heap.size = w.heap.size + 3 := by rw [<- hW1]; simp
 have g1 : w.grownBy W1 none := by rw [<- hW1]; exact za (za (gQ) (gQ)) (gQ)
 have d1 : W1.cell? ⟨w.heap.size, 0, none⟩ = some (.pointer (some ⟨g, 0, none⟩)) := by rw [<- hW1]; exact (((Blk.new w 154 #[.pointer (some ⟨g, 0, none⟩)]).alloc _).alloc _).cell 0
 have d2 : W1.cell? ⟨w.heap.size + 1, 0, none⟩ = some (.slice A n c) := by
  have h := ((Blk.new (w.alloc (.cells #[.pointer (some ⟨g, 0, none⟩)] 154)) 85 #[.slice A n c]).alloc (.cells #[.func (.func 150) #[] #[.pointer (some ⟨b1, 0, none⟩), .pointer (some ⟨b2, 0, none⟩)]] 233)).cell 0
  rw [<- hW1]; simpa using h
 have d3 : W1.cell? ⟨w.heap.size + 1 + 1, 0, none⟩ = some (.func (.func 150) #[] #[.pointer (some ⟨b1, 0, none⟩), .pointer (some ⟨b2, 0, none⟩)]) := by
  have h := (Blk.new ((w.alloc (.cells #[.pointer (some ⟨g, 0, none⟩)] 154)).alloc (.cells #[.slice A n c] 85)) 233 #[.func (.func 150) #[] #[.pointer (some ⟨b1, 0, none⟩), .pointer (some ⟨b2, 0, none⟩)]]).cell 0
  rw [<- hW1]; simpa using h
 have hi := h.opened g1
 have d4 := g1.cell h4 (by simp)
 have d5 := g1.cell h5 (by simp)
 have hr := (hi.err he (Nat.le_refl _)).1
 obtain ⟨F0, hF0⟩ : ∃ F0 : Nat -> Prop, F0 = fun k => F k /\ k < w.heap.size := ⟨_, rfl⟩
 rw [<- hF0] at hi
 have m1 : ¬ F0 w.heap.size := by rw [hF0]; intro h; exact absurd h.2 (by omega)
 have m2 : ¬ F0 (w.heap.size + 1) := by rw [hF0]; intro h; exact absurd h.2 (by omega)
 have m3 : ¬ F0 (w.heap.size + 1 + 1) := by rw [hF0]; intro h; exact absurd h.2 (by omega)
 have m4 : ¬ F0 b1 := by rw [hF0]; intro h; exact n4 h.1
 have m5 : ¬ F0 b2 := by rw [hF0]; intro h; exact n5 h.1
 have hlt : ∀ (a : Addr) (v : Value), W1.cell? a = some v -> a.block < W1.heap.size := fun _ _ h => World.block_lt_of_cell? W1 _ h
 have HCl := hQ_ (fun w2 s2 (P : WP w0 E g F0 s2 W1 w2) => WP.closed (F := F) h g1 (hF0 ▸ P))
 have HI := hQ_ (aQ hi (aQ he (aQ hs (aQ hn (aQ hA (aQ hok had))))))
 have HD := hQ_ (aQ d3 (aQ d4 (aQ d5 (aQ True.intro (aQ m1 (aQ m2 (aQ m3 (aQ m4 m5))))))))
 have HW := hQ_ hW1
 have HZ := hQ_ z1
 have HL := hQ_ hlt
 by_cases hlong : most < (n : Int) \/ 255 < n
 · have hsp : sPut n most (sAll sDig L) s = sFail 1 s := by rw [sPut, if_pos hlong]
   rw [hsp]
   clear h hs hn hA hok had h4 h5 n4 n5 he hi d3 d4 d5 m1 m2 m3 m4 m5 hF0 hW1 z1 g1 hsp hlt
   rcases zbc hlong with a1 | ⟨a1, a2⟩
   all_goals
    clear hlong
    go_enter Tryz.func149, Tryz.ntmps149
    go_upto_region 1 with (fail)
    rw [HW.out]
    go_wp2_with fail
    go_region_with (go_at_call 125; refine (zem HI.out.1.drew 0).mono ?_; rintro e w1 ⟨rfl, q⟩; replace q := hQ_ q)
    all_goals
     go_wp2
     first | go_end0 | refine bodyPost_ret (results_none rfl _ _ _) rfl ?_
     refine ⟨rfl, HCl.out _ _ ?_⟩
     exact zbv HI.out.1 q.out
 · have hsp : sPut n most (sAll sDig L) s = sAll sDig L (sNum (n : Int) 1 s) := by rw [sPut, if_neg hlong]
   rw [hsp]
   have a1 : decide (most < (n : Int)) = false := by simp; omega
   have a2 : decide ((255 : Int) < (n : Int)) = false := by simp; omega
   have hn255 : n <= 255 := by omega
   clear h hs hn hA hok had h4 h5 n4 n5 he hi d3 d4 d5 m1 m2 m3 m4 m5 hF0 hW1 z1 g1 hsp hlt hr hlong
   go_enter Tryz.func149, Tryz.ntmps149
   go_upto_region 1 with (fail)
   rw [HW.out]
   go_wp2_with fail
   obtain ⟨hi, he, hs, hn, hA, hok, had⟩ := HI.out
   obtain ⟨d3, d4, d5, _, m1, m2, m3, m4, m5⟩ := HD.out
   refine (uv he hi (by omega) (n : Int) 1).mono ?_
   rintro e w2 ⟨rfl, P2⟩
   have e1 := P2.fine.cell d1 m1
   have e2 := P2.fine.cell d2 m2
   have e3 := P2.fine.cell d3 m3
   have e4 := P2.fine.cell d4 m4
   have e5 := P2.fine.cell d5 m5
   have nn : ∀ j, ¬ F0 j -> j < W1.heap.size -> ¬ upTo F0 W1.heap.size w2.heap.size j := fun j hj hl hu => by
    rcases hu with hu | hu
    · exact hj hu
    · omega
   have hle : (sNum (n : Int) 1 s).2.length <= 3100000 := by
    have := yl (n : Int) 1 s
    have h4 : sNum (n : Int) 1 s = sNum (n : Int) ((1 : Nat) : Int) s := rfl
    rw [h4]; omega
   have PA := P2.alloc (.cells #[.pointer (some ⟨g, 0, none⟩)] 226)
   have ga : w2.grownBy (w2.alloc (.cells #[.pointer (some ⟨g, 0, none⟩)] 226)) none := gQ
   have q2 := P2.wi.grown ga
   have HQ := hQ_ (ploop_Dg he (w2.alloc (.cells #[.pointer (some ⟨g, 0, none⟩)] 226)) _ _ q2.wi hle (w.heap.size + 1) (w.heap.size + 1 + 1) w.heap.size b1 b2 A n c L hn hn255 hA hok had (ga.cell e2 (by simp)) (ga.cell e3 (by simp)) (ga.cell e1 (by simp)) (ga.cell e4 (by simp)) (ga.cell e5 (by simp))
    (vi (nn _ m3 (HL.out _ _ d3)) (HL.out _ _ d3) P2.fine.size) (vi (nn _ m1 (HL.out _ _ d1)) (HL.out _ _ d1) P2.fine.size) (vi (nn _ m4 (HL.out _ _ d4)) (HL.out _ _ d4) P2.fine.size) (vi (nn _ m5 (HL.out _ _ d5)) (HL.out _ _ d5) P2.fine.size))
   have HP := hQ_ (aQ P2 q2)
   have e1' := e1
   clear hi he hs hn hA hok had d3 d4 d5 m1 m2 m3 m4 m5 P2 PA e2 e3 e4 e5 nn hle q2 ga d2 d1
   go_wp2_with fail
   refine (zbi ⟨g, 0, none⟩ 152 _ w2 _ enter_Dg HQ.out).mono ?_
   rintro e w4 ⟨rfl, h4⟩
   have H4 := hQ_ h4
   clear h4
   go_wp2_with fail
   go_end0
   exact ⟨rfl, HCl.out _ _ (HP.out.1.trans (HP.out.2.trans H4.out))⟩
theorem put_Dg (w : World) (F : Nat -> Prop) (s : WSt) (h : WI w0 E g F s w) (hs : s.2.length <= 3000000) (A : Option Addr) (n c : Nat) (L : List (List Int)) (hn : L.length = n) (hA : RowAt w0 A dgV 16 L) (hok : ∀ x ∈ L, isDig x) (had : ∀ x ∈ L, Adds 1200 (sDig x)) (most : Int) :
    Calls Tryz.prog 143 #[.agg #[.pointer (some ⟨g, 0, none⟩)], .slice A n c, .int .i64 most, .func (.func 88) #[] #[]] w fun e w' => e = .returned (.tuple #[]) /\ WP w0 E g F (sPut n most (sAll sDig L) s) w w' := by
 have hmf : ∀ (fn : Fn) (first cap : Array Value) (w : World), (Instr.makeFunc fn first cap).run Tryz.prog w = .ok (.func fn first cap) w := fun _ _ _ _ => rfl
 obtain ⟨W1, hW1⟩ : ∃ W1, (w.alloc (.cells #[.pointer (some ⟨g, 0, none⟩)] 156)).alloc (.cells #[.func (.func 88) #[] #[]] 228) = W1 := ⟨_, rfl⟩
 have g1 : w.grownBy W1 none := by rw [<- hW1]; exact za (gQ) (gQ)
 have d1 : W1.cell? ⟨w.heap.size, 0, none⟩ = some (.pointer (some ⟨g, 0, none⟩)) := by rw [<- hW1]; exact ((Blk.new w 156 #[.pointer (some ⟨g, 0, none⟩)]).alloc _).cell 0
 have d2 : W1.cell? ⟨w.heap.size + 1, 0, none⟩ = some (.func (.func 88) #[] #[]) := by
  have h := (Blk.new (w.alloc (.cells #[.pointer (some ⟨g, 0, none⟩)] 156)) 228 #[.func (.func 88) #[] #[]]).cell 0
  rw [World.size_alloc, hW1] at h
  exact h
 have hi := h.opened g1
 have HQ := hQ_ (wput_Dg he W1 _ s hi hs (w.heap.size + 1) w.heap.size A n c L hn hA hok had most d2 d1 (fun h => absurd h.2 (by omega)) (fun h => absurd h.2 (by omega)))
 have HCl := hQ_ (fun w2 s2 (P : WP w0 E g (fun k => F k /\ k < w.heap.size) s2 W1 w2) => WP.closed (F := F) h g1 P)
 have HW := hQ_ hW1
 clear h hs hn hA hok had he hi hW1 g1 d2
 go_enter Tryz.func143, Tryz.ntmps143
 go_upto_region 1 with (fail)
 rw [HW.out]
 go_wp2_with fail
 refine HQ.out.mono ?_
 rintro e w4 ⟨rfl, h4⟩
 have H4 := hQ_ h4
 clear h4
 go_wp2_with fail
 go_end0
 exact ⟨rfl, HCl.out _ _ H4.out⟩
end
end
section
theorem sz_Sig : (Tryz.prog.info? 87).map (·.size) = some 3 := by kernel_rfl
section
variable {w0 : World} {E : Nat -> Addr} {g : Nat} (he : ErrAt w0 w0.heap.size 0 (E 0))
include he
theorem sig_st (w : World) (F : Nat -> Prop) (s : WSt) (h : WI w0 E g F s w) (hs : s.2.length <= 2100000) (lf : Int) (A1 A2 : Option Addr) (n1 c1 n2 c2 : Nat) (cs ps : List (List Int)) (hC : DigRow w0 A1 n1 cs) (hP : DigRow w0 A2 n2 ps) (sv : Array Value) (hsv : sv = sigV lf (.slice A1 n1 c1) (.slice A2 n2 c2)) :
    Calls Tryz.prog 129 #[.agg #[.pointer (some ⟨g, 0, none⟩)], .agg sv] w fun e w' => e = .returned (.tuple #[]) /\ WP w0 E g F (sSig lf cs ps s) w w' := by
 subst hsv
 unfold sigV
 have e1 : sSig lf cs ps s = sPut n2 5 (sAll sDig ps) (sPut n1 68 (sAll sDig cs) (sNum lf 1 s)) := by rw [sSig, hC.1, hP.1]
 rw [e1]
 have HD := hQ_ (aQ hC hP)
 clear e1 hC hP
 obtain ⟨W1, hW1⟩ : ∃ W1, ((w.alloc (.cells #[.pointer (some ⟨g, 0, none⟩)] 156)).alloc (.cells #[.int .i64 lf, .slice A1 n1 c1, .slice A2 n2 c2] 87)) = W1 := ⟨_, rfl⟩
 have g1 : w.grownBy W1 none := by rw [<- hW1]; exact za (gQ) (gQ)
 have bw : Blk W1 w.heap.size 156 #[.pointer (some ⟨g, 0, none⟩)] := by rw [<- hW1]; exact (Blk.new w _ _).alloc _
 have bx : Blk W1 (w.heap.size + 1) 87 #[.int .i64 lf, .slice A1 n1 c1, .slice A2 n2 c2] := by
  have := Blk.new (w.alloc (.cells #[.pointer (some ⟨g, 0, none⟩)] 156)) 87 #[.int .i64 lf, .slice A1 n1 c1, .slice A2 n2 c2]
  rw [<- hW1]; simpa using this
 have hi := h.opened g1
 have HCl := hQ_ (fun (w2 : World) (s2 : WSt) (P : WP w0 E g (fun k => F k /\ k < w.heap.size) s2 W1 w2) => WP.closed (F := F) h g1 P)
 have HB := hQ_ (fun (V : World) (s' : WSt) (P : WP w0 E g (fun k => F k /\ k < w.heap.size) s' W1 V) => (show V.cell? ⟨w.heap.size, 0, none⟩ = some (.pointer (some ⟨g, 0, none⟩)) /\ V.cell? ⟨w.heap.size + 1, 0, none⟩ = some (.int .i64 lf) /\ V.cell? ⟨w.heap.size + 1, 1, none⟩ = some (.slice A1 n1 c1) /\ V.cell? ⟨w.heap.size + 1, 2, none⟩ = some (.slice A2 n2 c2) from
  by
   have kw : Blk V w.heap.size 156 #[.pointer (some ⟨g, 0, none⟩)] := bw.kept P.fine (fun h => absurd h.2 (by omega))
   have bx : Blk V (w.heap.size + 1) 87 #[.int .i64 lf, .slice A1 n1 c1, .slice A2 n2 c2] := bx.kept P.fine (fun h => absurd h.2 (by omega))
   exact ⟨by simpa using kw.cell 0, by have := bx.cell 0; simpa using this, by have := bx.cell 1; simpa using this, by have := bx.cell 2; simpa using this⟩))
 have HP0 := hQ_ hi.same
 have HE := hQ_ he
 have HS := hQ_ hs
 have HW := hQ_ hW1
 clear h hi bw bx g1 hW1 hs he
 go_enter Tryz.func129, Tryz.ntmps129
 go_upto_region 1 with (fail)
 rw [HW.out]
 obtain ⟨k0, k1, k2, k3⟩ := HB.out _ _ HP0.out
 clear k2 k3
 go_wp2_with fail
 refine (uv HE.out HP0.out.wi (Nat.le_trans HS.out (by omega)) lf 1).mono ?_
 rintro e V1 ⟨rfl, q0⟩
 have HP1 := hQ_ (HP0.out.trans q0)
 clear q0 k0 k1
 have HS1 := hQ_ (show (sNum lf 1 s).2.length <= 2200000 from by have h1 := yl lf 1 s; have h2 := HS.out; have h3 : sNum lf 1 s = sNum lf ((1 : Nat) : Int) s := rfl; rw [h3]; omega)
 obtain ⟨k0, k1, k2, k3⟩ := HB.out _ _ HP1.out
 clear k1 k3
 go_wp2_with fail
 refine (put_Dg HE.out _ _ _ HP1.out.wi (Nat.le_trans HS1.out (by omega)) A1 n1 c1 cs HD.out.1.1 HD.out.1.row HD.out.1.2.1 (fun x hx => (ym (HD.out.1.sixteen x hx)).mono (by omega)) 68).mono ?_
 rintro e V2 ⟨rfl, q1⟩
 have HP2 := hQ_ (HP1.out.trans q1)
 clear q1 k0 k2
 have HS2 := hQ_ (show (sPut n1 68 (sAll sDig cs) (sNum lf 1 s)).2.length <= 2300000 from by have h1 : (sPut n1 68 (sAll sDig cs) (sNum lf 1 s)).2.length <= (sNum lf 1 s).2.length + (1 + 68 * 16) := zax (m := 68) (n := n1) (c := 16) rfl (fun _ => HD.out.1.1 ▸ zcp HD.out.1.sixteen) (sNum lf 1 s); have h2 := HS1.out; omega)
 obtain ⟨k0, k1, k2, k3⟩ := HB.out _ _ HP2.out
 clear k1 k2
 go_wp2_with fail
 refine (put_Dg HE.out _ _ _ HP2.out.wi (Nat.le_trans HS2.out (by omega)) A2 n2 c2 ps HD.out.2.1 HD.out.2.row HD.out.2.2.1 (fun x hx => (ym (HD.out.2.sixteen x hx)).mono (by omega)) 5).mono ?_
 rintro e V3 ⟨rfl, q2⟩
 have HP3 := hQ_ (HP2.out.trans q2)
 clear q2 k0 k3
 go_wp2_with fail
 go_end0
 exact ⟨rfl, HCl.out _ _ HP3.out⟩
theorem el_Sg (w : World) (F : Nat -> Prop) (s : WSt) (h : WI w0 E g F s w) (hs : s.2.length <= 2000000) (x : Sg) (hx : DigRow w0 x.A1 x.n1 x.cs /\ DigRow w0 x.A2 x.n2 x.ps) (cs : Array Value) (hcs : cs = x.cells.toList.toArray) :
    Calls Tryz.prog 109 #[.agg #[.pointer (some ⟨g, 0, none⟩)], .agg cs] w fun e w' => e = .returned (.tuple #[]) /\ WP w0 E g F (sSg x s) w w' := by
 have hc0 : cs = #[.int .i64 x.who] ++ x.sig := by rw [hcs, Array.toArray_toList]; rfl
 obtain ⟨sg, hsg⟩ : ∃ sg, sg = x.sig := ⟨_, rfl⟩
 have hs3 : sg.size = 3 := by rw [hsg]; rfl
 rw [<- hsg] at hc0
 have H3 := hQ_ (aQ hs3 hsg)
 obtain ⟨W1, hW1⟩ : ∃ W1, ((w.alloc (.cells #[.pointer (some ⟨g, 0, none⟩)] 156)).alloc (.cells cs 89)) = W1 := ⟨_, rfl⟩
 have g1 : w.grownBy W1 none := by rw [<- hW1]; exact za (gQ) (gQ)
 have bw : Blk W1 w.heap.size 156 #[.pointer (some ⟨g, 0, none⟩)] := by rw [<- hW1]; exact (Blk.new w _ _).alloc _
 have bx : Blk W1 (w.heap.size + 1) 89 cs := by
  have := Blk.new (w.alloc (.cells #[.pointer (some ⟨g, 0, none⟩)] 156)) 89 cs
  rw [<- hW1]; simpa using this
 have hi := h.opened g1
 have HCl := hQ_ (fun (w2 : World) (s2 : WSt) (P : WP w0 E g (fun k => F k /\ k < w.heap.size) s2 W1 w2) => WP.closed (F := F) h g1 P)
 have HB := hQ_ (fun (V : World) (s' : WSt) (P : WP w0 E g (fun k => F k /\ k < w.heap.size) s' W1 V) => (show V.cell? ⟨w.heap.size, 0, none⟩ = some (.pointer (some ⟨g, 0, none⟩)) /\ V.cell? ⟨w.heap.size + 1, 0, none⟩ = some (.int .i64 x.who) /\ V.rangeAt (w.heap.size + 1) 1 sg.toList from
  by
   have kw : Blk V w.heap.size 156 #[.pointer (some ⟨g, 0, none⟩)] := bw.kept P.fine (fun h => absurd h.2 (by omega))
   have bx : Blk V (w.heap.size + 1) 89 cs := bx.kept P.fine (fun h => absurd h.2 (by omega))
   exact ⟨by simpa using kw.cell 0, by have r := zd bx; have := r 0 (.int .i64 x.who) (by rw [hc0]; simp); simpa using this, by have r := zd bx; rw [hc0] at r; exact fun j v hv => by have := r (1 + j) v (by simp only [Array.toList_append]; rw [List.getElem?_append_right (by simp)]; simpa using hv); rwa [Nat.zero_add] at this⟩))
 have HP0 := hQ_ hi.same
 have HE := hQ_ he
 have HS := hQ_ hs
 have HW := hQ_ hW1
 clear h hi bw bx g1 hW1 hs he hcs hc0 hs3 hsg
 go_enter Tryz.func109, Tryz.ntmps109
 go_upto_region 1 with (fail)
 rw [HW.out]
 obtain ⟨k0, k1, k2⟩ := HB.out _ _ HP0.out
 clear k2
 go_wp2_with fail
 refine (uv HE.out HP0.out.wi (Nat.le_trans HS.out (by omega)) x.who 1).mono ?_
 rintro e V1 ⟨rfl, q0⟩
 have HP1 := hQ_ (HP0.out.trans q0)
 clear q0 k0 k1
 have HS1 := hQ_ (show (sNum x.who 1 s).2.length <= 2100000 from by have h1 := yl x.who 1 s; have h2 := HS.out; have h3 : sNum x.who 1 s = sNum x.who ((1 : Nat) : Int) s := rfl; rw [h3]; omega)
 obtain ⟨k0, k1, k2⟩ := HB.out _ _ HP1.out
 clear k1
 have HR := hQ_ k2
 clear k2
 go_wp2_with (refine wpList_load_mid rfl 87 _ rfl (w.heap.size + 1) 1 rfl (sg.toList) _ HR.out Tryz.underlying87 rfl (by rw [Array.length_toList, H3.out.1]; exact sz_Sig) ?_; rw [Array.toArray_toList])
 refine (sig_st HE.out _ _ _ HP1.out.wi HS1.out x.lf x.A1 x.A2 x.n1 x.c1 x.n2 x.c2 x.cs x.ps hx.1 hx.2 sg H3.out.2).mono ?_
 rintro e V2 ⟨rfl, q1⟩
 have HP2 := hQ_ (HP1.out.trans q1)
 clear q1 k0
 go_wp2_with fail
 go_end0
 exact ⟨rfl, HCl.out _ _ HP2.out⟩
end
end
section
theorem enter_Sg (args : Array Value) (w : World) : (callFunc 142 args).run Tryz.prog w = .ok (.enter 142 args) w := by kernel_rfl
section
variable {w0 : World} {E : Nat -> Addr} {g : Nat} (he : ErrAt w0 w0.heap.size 0 (E 0))
include he
theorem pcl_Sg (w : World) (F : Nat -> Prop) (s : WSt) (h : WI w0 E g F s w) (hs : s.2.length <= 2000000) (x : Sg) (hx : (DigRow w0 x.A1 x.n1 x.cs /\ DigRow w0 x.A2 x.n2 x.ps)) (cs : Array Value) (hcs : cs = ((fun s : Sg => s.cells.toList) x).toArray) (b1 b2 : Nat)
    (h4 : w.cell? ⟨b1, 0, none⟩ = some (.func (.func 109) #[] #[])) (h5 : w.cell? ⟨b2, 0, none⟩ = some (.pointer (some ⟨g, 0, none⟩))) :
    Calls Tryz.prog 128 #[.pointer (some ⟨g, 0, none⟩), .agg cs, .pointer (some ⟨b1, 0, none⟩), .pointer (some ⟨b2, 0, none⟩)] w fun e w' => e = .returned (.tuple #[]) /\ WP w0 E g F (sSg x s) w w' := by
 obtain ⟨W1, hW1⟩ : ∃ W1, w.alloc (.cells cs 89) = W1 := ⟨_, rfl⟩
 have g1 : w.grownBy W1 none := by rw [<- hW1]; exact gQ
 have bx : Blk W1 w.heap.size 89 cs := by rw [<- hW1]; exact Blk.new w _ _
 have c1 := g1.cell h4 (by simp)
 have c2 := g1.cell h5 (by simp)
 have hcz : cs.size = 4 := by rw [hcs]; exact cz_Sg hx
 have P1 := h.grown g1
 have H := hQ_ (el_Sg he _ _ _ P1.wi hs x hx cs hcs)
 have HX := hQ_ (aQ hcz (zd bx))
 have HP := hQ_ P1
 have HW := hQ_ hW1
 clear h hx hs hcs P1 bx hcz g1 hW1 h4 h5
 go_enter Tryz.func128, Tryz.ntmps128
 go_upto_region 1 with (fail)
 rw [HW.out]
 go_wp2_with (refine wpList_load_mid rfl 89 _ rfl w.heap.size 0 rfl cs.toList _ HX.out.2 Tryz.underlying89 rfl (by rw [Array.length_toList, HX.out.1]; exact sz_Sg) ?_; rw [Array.toArray_toList])
 refine H.out.mono ?_
 rintro e w1 ⟨rfl, h1⟩
 have H1 := hQ_ h1
 clear h1
 go_wp2_with fail
 go_end0
 exact ⟨rfl, HP.out.trans H1.out⟩
theorem ploop_Sg (w : World) (F : Nat -> Prop) (s : WSt) (h : WI w0 E g F s w) (hs : s.2.length <= 1000000) (lb ob wb b1 b2 : Nat) (A : Option Addr) (n c : Nat) (L : List Sg) (hn : L.length = n) (hL : n <= 255) (hA : RowAt w0 A (fun s : Sg => s.cells.toList) 4 L) (hok : ∀ x ∈ L, (DigRow w0 x.A1 x.n1 x.cs /\ DigRow w0 x.A2 x.n2 x.ps)) (had : ∀ x ∈ L, Adds 1200 (sSg x))
    (h1 : w.cell? ⟨lb, 0, none⟩ = some (.slice A n c)) (h2 : w.cell? ⟨ob, 0, none⟩ = some (.func (.func 128) #[] #[.pointer (some ⟨b1, 0, none⟩), .pointer (some ⟨b2, 0, none⟩)])) (h3 : w.cell? ⟨wb, 0, none⟩ = some (.pointer (some ⟨g, 0, none⟩)))
    (h4 : w.cell? ⟨b1, 0, none⟩ = some (.func (.func 109) #[] #[])) (h5 : w.cell? ⟨b2, 0, none⟩ = some (.pointer (some ⟨g, 0, none⟩)))
    (n2 : ¬ F ob) (n3 : ¬ F wb) (n4 : ¬ F b1) (n5 : ¬ F b2) :
    Calls Tryz.prog 142 #[.pointer (some ⟨lb, 0, none⟩), .pointer (some ⟨ob, 0, none⟩), .pointer (some ⟨wb, 0, none⟩)] w fun e w' => e = .returned (.tuple #[]) /\ WP w0 E g F (sAll sSg L s) w w' := by
 have hzz := zz_Sg
 obtain ⟨ZZ, hZZ⟩ : ∃ Z, zv_Sg = Z := ⟨_, rfl⟩
 rw [hZZ] at hzz
 have HZZ := hQ_ (show 4 = ZZ.size by rw [<- hZZ]; rfl)
 clear hZZ
 have HH := hQ_ (aQ h (aQ hs (aQ hn (aQ hA (aQ hok had)))))
 have HC := hQ_ (aQ h2 (aQ h3 (aQ h4 h5)))
 have HN := hQ_ (aQ n2 (aQ n3 (aQ n4 n5)))
 have HE := hQ_ he
 clear h hs hn hA hok had h2 h3 h4 h5 n2 n3 n4 n5 he
 go_enter Tryz.func142, Tryz.ntmps142
 go_wp2_with fail
 clear h1
 go_loopw [7] (fun i wr => ∃ k : Nat, k <= n /\ i = .int .i64 (k : Int) /\ WP w0 E g F (sAll sSg (L.take k) s) w wr) (fun i _ => n - (intOf i).toNat)
 case atStart => exact ⟨0, Nat.zero_le _, rfl, by simpa [sAll] using HH.out.1.same⟩
 case round =>
  obtain ⟨k, hk, hi, hP⟩ := hrel
  obtain ⟨I, hI⟩ : ∃ I : Int, I = (k : Int) := ⟨_, rfl⟩
  rw [<- hI] at hi
  subst hi
  rename World => wr
  by_cases hlt : k < n
  · have hlt' : k < L.length := by have := HH.out.2.2.1; omega
    have hne : L ≠ [] := by rintro rfl; simp at hlt'
    obtain ⟨b, off, rfl, hc⟩ := HH.out.2.2.2.1 hne
    have d2 : decide (I < (n : Int)) = true := by simp; omega
    have hIV : I < (n : Int) := by omega
    have hI0 : 0 <= I /\ I < 1000 := by omega
    have hkI : I.toNat = k := by omega
    have r1 := zcg hP.wi.kept (hc k hlt')
    obtain ⟨x, hxe⟩ : ∃ x, x = L[k] := ⟨_, rfl⟩
    have hxm : x ∈ L := by rw [hxe]; exact List.getElem_mem hlt'
    rw [<- hxe] at r1
    rw [<- hkI] at r1
    have c2 := hP.fine.cell HC.out.1 HN.out.1
    have c3 := hP.fine.cell HC.out.2.1 HN.out.2.1
    have c4 := hP.fine.cell HC.out.2.2.1 HN.out.2.2.1
    have c5 := hP.fine.cell HC.out.2.2.2 HN.out.2.2.2
    have hlen : (sAll sSg (L.take k) s).2.length <= 2000000 := by
     have h1 := u7 (f := sSg) (c := 1200) (L.take k) (fun y hy => HH.out.2.2.2.2.2 y (List.mem_of_mem_take hy)) s
     have h2 := HH.out.2.1
     have h3 : (L.take k).length * 1200 <= 255 * 1200 := Nat.mul_le_mul_right 1200 (by rw [List.length_take]; omega)
     omega
    have htake : sAll sSg (L.take (k + 1)) s = sSg x (sAll sSg (L.take k) s) := by rw [List.take_succ_eq_append_getElem hlt', <- hxe, ut]
    obtain ⟨cs, hcs⟩ : ∃ cs, cs = ((fun s : Sg => s.cells.toList) x).toArray := ⟨_, rfl⟩
    have hcz : cs.size = 4 := by rw [hcs]; exact cz_Sg (HH.out.2.2.2.2.1 x hxm)
    have hc1 : (cs.all fun v => v.oneCell') = true := by rw [hcs]; exact c1_Sg x
    have r2 : wr.rangeAt b (off + I.toNat * 4) cs.toList := by rw [hcs]; exact r1
    obtain ⟨W0, hW0⟩ : ∃ W0, W0 = (wr.alloc (.cells ZZ 89)).setRow wr.heap.size cs := ⟨_, rfl⟩
    have hG0 : wr.grownBy W0 none := by rw [hW0]; exact zc (World.grownBy_alloc wr _ none) (.inl (Nat.le_refl _)) cs
    have bS : Blk W0 wr.heap.size 89 cs := by rw [hW0]; exact (Blk.new wr 89 ZZ).row cs
    have e2 := hG0.cell c2 (by simp)
    have e3 := hG0.cell c3 (by simp)
    have P0 := hP.wi.grown hG0
    have HS := hQ_ (pcl_Sg HE.out W0 _ _ P0.wi hlen x (HH.out.2.2.2.2.1 x hxm) cs hcs b1 b2 (hG0.cell c4 (by simp)) (hG0.cell c5 (by simp)))
    have HP := hQ_ (aQ (aQ hP P0) (aQ htake (aQ hI hlt')))
    have HX := hQ_ (aQ hcz (aQ hc1 (aQ r2 (zd bS))))
    have HW := hQ_ hW0
    clear hP P0 hcz hc1 r1 r2 hW0 hG0 bS hcs c2 c3 c4 c5 hxm hxe htake hlen hc hne hkI hI hlt'
    go_wp2_with (first
     | (refine wpList_load_mid rfl 89 _ rfl b (off + I.toNat * 4) rfl cs.toList _ HX.out.2.2.1 Tryz.underlying89 rfl (by rw [Array.length_toList, HX.out.1]; exact sz_Sg) ?_; rw [Array.toArray_toList])
     | (refine wpList_store_row rfl 89 _ _ rfl wr.heap.size cs rfl rfl 89 _ (heap_alloc_new wr _) (by rw [HX.out.1]; exact sz_Sg) (by rw [HX.out.1]; first | exact HZZ.out | exact HZZ.out.symm) HX.out.2.1 ?_
        rw [<- HW.out])
     | (refine wpList_load_mid rfl 89 _ rfl wr.heap.size 0 rfl cs.toList _ HX.out.2.2.2 Tryz.underlying89 rfl (by rw [Array.length_toList, HX.out.1]; exact sz_Sg) ?_; rw [Array.toArray_toList]))
    refine HS.out.mono ?_
    rintro e3 W3 ⟨rfl, h3⟩
    have H3 := hQ_ h3
    clear h3
    go_wp2_with fail
    go_roundw
    case rel => exact ⟨k + 1, by omega, by rw [HP.out.2.2.1]; rfl, by rw [HP.out.2.1]; exact HP.out.1.1.trans (HP.out.1.2.trans H3.out)⟩
    case measure => have := HP.out.2.2.1; simp [intOf]; omega
  · have d2 : decide (I < (n : Int)) = false := by simp; omega
    have hf : L.take k = L := List.take_of_length_le (by have := HH.out.2.2.1; omega)
    rw [hf] at hP
    have HP := hQ_ hP
    clear hP hf hlt hI hk
    go_wp2_with fail
    go_end0
    exact ⟨rfl, HP.out⟩
theorem wput_Sg (w : World) (F : Nat -> Prop) (s : WSt) (h : WI w0 E g F s w) (hs : s.2.length <= 900000) (b1 b2 : Nat) (A : Option Addr) (n c : Nat) (L : List Sg) (hn : L.length = n) (hA : RowAt w0 A (fun s : Sg => s.cells.toList) 4 L) (hok : ∀ x ∈ L, (DigRow w0 x.A1 x.n1 x.cs /\ DigRow w0 x.A2 x.n2 x.ps)) (had : ∀ x ∈ L, Adds 1200 (sSg x)) (most : Int)
    (h4 : w.cell? ⟨b1, 0, none⟩ = some (.func (.func 109) #[] #[])) (h5 : w.cell? ⟨b2, 0, none⟩ = some (.pointer (some ⟨g, 0, none⟩))) (n4 : ¬ F b1) (n5 : ¬ F b2) :
    Calls Tryz.prog 127 #[.pointer (some ⟨g, 0, none⟩), .slice A n c, .int .i64 most, .func (.func 128) #[] #[.pointer (some ⟨b1, 0, none⟩), .pointer (some ⟨b2, 0, none⟩)]] w fun e w' => e = .returned (.tuple #[]) /\ WP w0 E g F (sPut n most (sAll sSg L) s) w w' := by
 have hmf : ∀ (fn : Fn) (first cap : Array Value) (w : World), (Instr.makeFunc fn first cap).run Tryz.prog w = .ok (.func fn first cap) w := fun _ _ _ _ => rfl
 obtain ⟨W1, hW1⟩ : ∃ W1, ((w.alloc (.cells #[.pointer (some ⟨g, 0, none⟩)] 154)).alloc (.cells #[.slice A n c] 27)).alloc (.cells #[.func (.func 128) #[] #[.pointer (some ⟨b1, 0, none⟩), .pointer (some ⟨b2, 0, none⟩)]] 220) = W1 := ⟨_, rfl⟩
 have z1 : W1.heap.size = w.heap.size + 3 := by rw [<- hW1]; simp
 have g1 : w.grownBy W1 none := by rw [<- hW1]; exact za (za (gQ) (gQ)) (gQ)
 have d1 : W1.cell? ⟨w.heap.size, 0, none⟩ = some (.pointer (some ⟨g, 0, none⟩)) := by rw [<- hW1]; exact (((Blk.new w 154 #[.pointer (some ⟨g, 0, none⟩)]).alloc _).alloc _).cell 0
 have d2 : W1.cell? ⟨w.heap.size + 1, 0, none⟩ = some (.slice A n c) := by
  have h := ((Blk.new (w.alloc (.cells #[.pointer (some ⟨g, 0, none⟩)] 154)) 27 #[.slice A n c]).alloc (.cells #[.func (.func 128) #[] #[.pointer (some ⟨b1, 0, none⟩), .pointer (some ⟨b2, 0, none⟩)]] 220)).cell 0
  rw [<- hW1]; simpa using h
 have d3 : W1.cell? ⟨w.heap.size + 1 + 1, 0, none⟩ = some (.func (.func 128) #[] #[.pointer (some ⟨b1, 0, none⟩), .pointer (some ⟨b2, 0, none⟩)]) := by
  have h := (Blk.new ((w.alloc (.cells #[.pointer (some ⟨g, 0, none⟩)] 154)).alloc (.cells #[.slice A n c] 27)) 220 #[.func (.func 128) #[] #[.pointer (some ⟨b1, 0, none⟩), .pointer (some ⟨b2, 0, none⟩)]]).cell 0
  rw [<- hW1]; simpa using h
 have hi := h.opened g1
 have d4 := g1.cell h4 (by simp)
 have d5 := g1.cell h5 (by simp)
 have hr := (hi.err he (Nat.le_refl _)).1
 obtain ⟨F0, hF0⟩ : ∃ F0 : Nat -> Prop, F0 = fun k => F k /\ k < w.heap.size := ⟨_, rfl⟩
 rw [<- hF0] at hi
 have m1 : ¬ F0 w.heap.size := by rw [hF0]; intro h; exact absurd h.2 (by omega)
 have m2 : ¬ F0 (w.heap.size + 1) := by rw [hF0]; intro h; exact absurd h.2 (by omega)
 have m3 : ¬ F0 (w.heap.size + 1 + 1) := by rw [hF0]; intro h; exact absurd h.2 (by omega)
 have m4 : ¬ F0 b1 := by rw [hF0]; intro h; exact n4 h.1
 have m5 : ¬ F0 b2 := by rw [hF0]; intro h; exact n5 h.1
 have hlt : ∀ (a : Addr) (v : Value), W1.cell? a = some v -> a.block < W1.heap.size := fun _ _ h => World.block_lt_of_cell? W1 _ h
 have HCl := hQ_ (fun w2 s2 (P : WP w0 E g F0 s2 W1 w2) => WP.closed (F := F) h g1 (hF0 ▸ P))
 have HI := hQ_ (aQ hi (aQ he (aQ hs (aQ hn (aQ hA (aQ hok had))))))
 have HD := hQ_ (aQ d3 (aQ d4 (aQ d5 (aQ True.intro (aQ m1 (aQ m2 (aQ m3 (aQ m4 m5))))))))
 have HW := hQ_ hW1
 have HZ := hQ_ z1
 have HL := hQ_ hlt
 by_cases hlong : most < (n : Int) \/ 255 < n
 · have hsp : sPut n most (sAll sSg L) s = sFail 1 s := by rw [sPut, if_pos hlong]
   rw [hsp]
   clear h hs hn hA hok had h4 h5 n4 n5 he hi d3 d4 d5 m1 m2 m3 m4 m5 hF0 hW1 z1 g1 hsp hlt
   rcases zbc hlong with a1 | ⟨a1, a2⟩
   all_goals
    clear hlong
    go_enter Tryz.func127, Tryz.ntmps127
    go_upto_region 1 with (fail)
    rw [HW.out]
    go_wp2_with fail
    go_region_with (go_at_call 125; refine (zem HI.out.1.drew 0).mono ?_; rintro e w1 ⟨rfl, q⟩; replace q := hQ_ q)
    all_goals
     go_wp2
     first | go_end0 | refine bodyPost_ret (results_none rfl _ _ _) rfl ?_
     refine ⟨rfl, HCl.out _ _ ?_⟩
     exact zbv HI.out.1 q.out
 · have hsp : sPut n most (sAll sSg L) s = sAll sSg L (sNum (n : Int) 1 s) := by rw [sPut, if_neg hlong]
   rw [hsp]
   have a1 : decide (most < (n : Int)) = false := by simp; omega
   have a2 : decide ((255 : Int) < (n : Int)) = false := by simp; omega
   have hn255 : n <= 255 := by omega
   clear h hs hn hA hok had h4 h5 n4 n5 he hi d3 d4 d5 m1 m2 m3 m4 m5 hF0 hW1 z1 g1 hsp hlt hr hlong
   go_enter Tryz.func127, Tryz.ntmps127
   go_upto_region 1 with (fail)
   rw [HW.out]
   go_wp2_with fail
   obtain ⟨hi, he, hs, hn, hA, hok, had⟩ := HI.out
   obtain ⟨d3, d4, d5, _, m1, m2, m3, m4, m5⟩ := HD.out
   refine (uv he hi (by omega) (n : Int) 1).mono ?_
   rintro e w2 ⟨rfl, P2⟩
   have e1 := P2.fine.cell d1 m1
   have e2 := P2.fine.cell d2 m2
   have e3 := P2.fine.cell d3 m3
   have e4 := P2.fine.cell d4 m4
   have e5 := P2.fine.cell d5 m5
   have nn : ∀ j, ¬ F0 j -> j < W1.heap.size -> ¬ upTo F0 W1.heap.size w2.heap.size j := fun j hj hl hu => by
    rcases hu with hu | hu
    · exact hj hu
    · omega
   have hle : (sNum (n : Int) 1 s).2.length <= 1000000 := by
    have := yl (n : Int) 1 s
    have h4 : sNum (n : Int) 1 s = sNum (n : Int) ((1 : Nat) : Int) s := rfl
    rw [h4]; omega
   have PA := P2.alloc (.cells #[.pointer (some ⟨g, 0, none⟩)] 226)
   have ga : w2.grownBy (w2.alloc (.cells #[.pointer (some ⟨g, 0, none⟩)] 226)) none := gQ
   have q2 := P2.wi.grown ga
   have HQ := hQ_ (ploop_Sg he (w2.alloc (.cells #[.pointer (some ⟨g, 0, none⟩)] 226)) _ _ q2.wi hle (w.heap.size + 1) (w.heap.size + 1 + 1) w.heap.size b1 b2 A n c L hn hn255 hA hok had (ga.cell e2 (by simp)) (ga.cell e3 (by simp)) (ga.cell e1 (by simp)) (ga.cell e4 (by simp)) (ga.cell e5 (by simp))
    (vi (nn _ m3 (HL.out _ _ d3)) (HL.out _ _ d3) P2.fine.size) (vi (nn _ m1 (HL.out _ _ d1)) (HL.out _ _ d1) P2.fine.size) (vi (nn _ m4 (HL.out _ _ d4)) (HL.out _ _ d4) P2.fine.size) (vi (nn _ m5 (HL.out _ _ d5)) (HL.out _ _ d5) P2.fine.size))
   have HP := hQ_ (aQ P2 q2)
   have e1' := e1
   clear hi he hs hn hA hok had d3 d4 d5 m1 m2 m3 m4 m5 P2 PA e2 e3 e4 e5 nn hle q2 ga d2 d1
   go_wp2_with fail
   refine (zbi ⟨g, 0, none⟩ 142 _ w2 _ enter_Sg HQ.out).mono ?_
   rintro e w4 ⟨rfl, h4⟩
   have H4 := hQ_ h4
   clear h4
   go_wp2_with fail
   go_end0
   exact ⟨rfl, HCl.out _ _ (HP.out.1.trans (HP.out.2.trans H4.out))⟩
theorem put_Sg (w : World) (F : Nat -> Prop) (s : WSt) (h : WI w0 E g F s w) (hs : s.2.length <= 900000) (A : Option Addr) (n c : Nat) (L : List Sg) (hn : L.length = n) (hA : RowAt w0 A (fun s : Sg => s.cells.toList) 4 L) (hok : ∀ x ∈ L, (DigRow w0 x.A1 x.n1 x.cs /\ DigRow w0 x.A2 x.n2 x.ps)) (had : ∀ x ∈ L, Adds 1200 (sSg x)) (most : Int) :
    Calls Tryz.prog 108 #[.agg #[.pointer (some ⟨g, 0, none⟩)], .slice A n c, .int .i64 most, .func (.func 109) #[] #[]] w fun e w' => e = .returned (.tuple #[]) /\ WP w0 E g F (sPut n most (sAll sSg L) s) w w' := by
 have hmf : ∀ (fn : Fn) (first cap : Array Value) (w : World), (Instr.makeFunc fn first cap).run Tryz.prog w = .ok (.func fn first cap) w := fun _ _ _ _ => rfl
 obtain ⟨W1, hW1⟩ : ∃ W1, (w.alloc (.cells #[.pointer (some ⟨g, 0, none⟩)] 156)).alloc (.cells #[.func (.func 109) #[] #[]] 201) = W1 := ⟨_, rfl⟩
 have g1 : w.grownBy W1 none := by rw [<- hW1]; exact za (gQ) (gQ)
 have d1 : W1.cell? ⟨w.heap.size, 0, none⟩ = some (.pointer (some ⟨g, 0, none⟩)) := by rw [<- hW1]; exact ((Blk.new w 156 #[.pointer (some ⟨g, 0, none⟩)]).alloc _).cell 0
 have d2 : W1.cell? ⟨w.heap.size + 1, 0, none⟩ = some (.func (.func 109) #[] #[]) := by
  have h := (Blk.new (w.alloc (.cells #[.pointer (some ⟨g, 0, none⟩)] 156)) 201 #[.func (.func 109) #[] #[]]).cell 0
  rw [World.size_alloc, hW1] at h
  exact h
 have hi := h.opened g1
 have HQ := hQ_ (wput_Sg he W1 _ s hi hs (w.heap.size + 1) w.heap.size A n c L hn hA hok had most d2 d1 (fun h => absurd h.2 (by omega)) (fun h => absurd h.2 (by omega)))
 have HCl := hQ_ (fun w2 s2 (P : WP w0 E g (fun k => F k /\ k < w.heap.size) s2 W1 w2) => WP.closed (F := F) h g1 P)
 have HW := hQ_ hW1
 clear h hs hn hA hok had he hi hW1 g1 d2
 go_enter Tryz.func108, Tryz.ntmps108
 go_upto_region 1 with (fail)
 rw [HW.out]
 go_wp2_with fail
 refine HQ.out.mono ?_
 rintro e w4 ⟨rfl, h4⟩
 have H4 := hQ_ h4
 clear h4
 go_wp2_with fail
 go_end0
 exact ⟨rfl, HCl.out _ _ H4.out⟩
end
end
section
theorem zx {w : World} {g o : Nat} {a b c : List Value} (h : w.rangeAt g o (a ++ (b ++ c))) : w.rangeAt g (o + a.length) b := fun j v hv => by
 have hj := (List.getElem?_eq_some_iff.1 hv).1
 have := h (a.length + j) v (by rw [List.getElem?_append_right (by omega), Nat.add_sub_cancel_left, List.getElem?_append_left hj]; exact hv)
 rwa [<- Nat.add_assoc] at this
theorem zt.lt0 {w : World} {A : Option Addr} {l : List UInt8} (h : zt w A l) : ∀ ad, A = some ad -> l ≠ [] -> ad.block < w.heap.size := by
 intro ad e hne
 obtain ⟨ad', e', hc⟩ := h hne
 rw [e] at e'
 injection e' with e'
 subst e'
 have := World.block_lt_of_cell? w _ (hc 0 (List.length_pos_iff.2 hne))
 rwa [yk] at this
theorem bytes_low {w0 w : World} {A : Option Addr} {l : List UInt8} (k : Kept (newF w0) w0 w) (h : zt w0 A l) : zt w A l := h.kept' k fun ad e hne hf => absurd (h.lt0 ad e hne) (by simpa using hf)
section
variable {w0 : World} {E : Nat -> Addr} {g : Nat} (he : ErrAt w0 w0.heap.size 0 (E 0))
include he
theorem el_Vd (w : World) (F : Nat -> Prop) (s : WSt) (h : WI w0 E g F s w) (hs : s.2.length <= 2000000) (x : Vd) (hx : isDig x.key) (cs : Array Value) (hcs : cs = x.cells.toArray) :
    Calls Tryz.prog 93 #[.agg #[.pointer (some ⟨g, 0, none⟩)], .agg cs] w fun e w' => e = .returned (.tuple #[]) /\ WP w0 E g F (sVd x s) w w' := by
 have hc0 : cs = x.cells.toArray := hcs
 obtain ⟨kd, hkd⟩ : ∃ kd, kd = arrV .u8 x.key := ⟨_, rfl⟩
 have hks : kd.size = 16 := by rw [hkd, zf, hx.1]
 have hcl : cs.toList = [] ++ (kd.toList ++ [.int .i64 x.p]) := by rw [hcs, hkd]; simp [Vd.cells, arrV]
 have H3 := hQ_ (aQ hks hkd)
 obtain ⟨W1, hW1⟩ : ∃ W1, ((w.alloc (.cells #[.pointer (some ⟨g, 0, none⟩)] 156)).alloc (.cells cs 55)) = W1 := ⟨_, rfl⟩
 have g1 : w.grownBy W1 none := by rw [<- hW1]; exact za (gQ) (gQ)
 have bw : Blk W1 w.heap.size 156 #[.pointer (some ⟨g, 0, none⟩)] := by rw [<- hW1]; exact (Blk.new w _ _).alloc _
 have bx : Blk W1 (w.heap.size + 1) 55 cs := by
  have := Blk.new (w.alloc (.cells #[.pointer (some ⟨g, 0, none⟩)] 156)) 55 cs
  rw [<- hW1]; simpa using this
 have hi := h.opened g1
 have HCl := hQ_ (fun (w2 : World) (s2 : WSt) (P : WP w0 E g (fun k => F k /\ k < w.heap.size) s2 W1 w2) => WP.closed (F := F) h g1 P)
 have HB := hQ_ (fun (V : World) (s' : WSt) (P : WP w0 E g (fun k => F k /\ k < w.heap.size) s' W1 V) => (show V.cell? ⟨w.heap.size, 0, none⟩ = some (.pointer (some ⟨g, 0, none⟩)) /\ V.rangeAt (w.heap.size + 1) 0 kd.toList /\ V.cell? ⟨w.heap.size + 1, 16, none⟩ = some (.int .i64 x.p) from
  by
   have kw : Blk V w.heap.size 156 #[.pointer (some ⟨g, 0, none⟩)] := bw.kept P.fine (fun h => absurd h.2 (by omega))
   have bx : Blk V (w.heap.size + 1) 55 cs := bx.kept P.fine (fun h => absurd h.2 (by omega))
   exact ⟨by simpa using kw.cell 0, by have r := zd bx; rw [hcl] at r; have := zx r; simpa using this, by have r := zd bx; have := r 16 (.int .i64 x.p) (by rw [hcl, List.nil_append, List.getElem?_append_right (by rw [Array.length_toList, hks]; exact Nat.le_refl _), Array.length_toList, hks]; rfl); simpa using this⟩))
 have HP0 := hQ_ hi.same
 have HE := hQ_ he
 have HS := hQ_ hs
 have HW := hQ_ hW1
 clear h hi bw bx g1 hW1 hs he hcs hc0 hks hkd hcl
 go_enter Tryz.func93, Tryz.ntmps93
 go_upto_region 1 with (fail)
 rw [HW.out]
 obtain ⟨k0, k1, k2⟩ := HB.out _ _ HP0.out
 clear k2
 have HR := hQ_ k1
 clear k1
 go_wp2_with (refine wpList_load_mid rfl 24 _ rfl (w.heap.size + 1) 0 rfl (kd.toList) _ HR.out Tryz.underlying24 rfl (by rw [Array.length_toList, H3.out.1]; exact sz_Dg) ?_; rw [Array.toArray_toList])
 refine (zcl HP0.out.wi (Nat.le_trans HS.out (by omega)) x.key hx kd H3.out.2).mono ?_
 rintro e V1 ⟨rfl, q0⟩
 have HP1 := hQ_ (HP0.out.trans q0)
 clear q0 k0
 have HS1 := hQ_ (show (sDig x.key s).2.length <= 2100000 from by have h1 := ym hx.1 s; have h2 := HS.out; omega)
 obtain ⟨k0, k1, k2⟩ := HB.out _ _ HP1.out
 clear k1
 go_wp2_with fail
 refine (uv HE.out HP1.out.wi (Nat.le_trans HS1.out (by omega)) x.p 6).mono ?_
 rintro e V2 ⟨rfl, q1⟩
 have HP2 := hQ_ (HP1.out.trans q1)
 clear q1 k0 k2
 go_wp2_with fail
 go_end0
 exact ⟨rfl, HCl.out _ _ HP2.out⟩
theorem el_Tx (w : World) (F : Nat -> Prop) (s : WSt) (h : WI w0 E g F s w) (hs : s.2.length <= 2000000) (x : Tx) (hx : zt w0 x.B x.l) :
    Calls Tryz.prog 91 #[.agg #[.pointer (some ⟨g, 0, none⟩)], .slice x.B x.l.length x.c] w fun e w' => e = .returned (.tuple #[]) /\ WP w0 E g F (sTx x s) w w' := by
 obtain ⟨W1, hW1⟩ : ∃ W1, (w.alloc (.cells #[.pointer (some ⟨g, 0, none⟩)] 156)) = W1 := ⟨_, rfl⟩
 have g1 : w.grownBy W1 none := by rw [<- hW1]; exact gQ
 have bw : Blk W1 w.heap.size 156 #[.pointer (some ⟨g, 0, none⟩)] := by rw [<- hW1]; exact Blk.new w _ _
 have hi := h.opened g1
 have HCl := hQ_ (fun (w2 : World) (s2 : WSt) (P : WP w0 E g (fun k => F k /\ k < w.heap.size) s2 W1 w2) => WP.closed (F := F) h g1 P)
 have HB := hQ_ (fun (V : World) (s' : WSt) (P : WP w0 E g (fun k => F k /\ k < w.heap.size) s' W1 V) => (show V.cell? ⟨w.heap.size, 0, none⟩ = some (.pointer (some ⟨g, 0, none⟩)) from
  by
   have kw : Blk V w.heap.size 156 #[.pointer (some ⟨g, 0, none⟩)] := bw.kept P.fine (fun h => absurd h.2 (by omega))
   simpa using kw.cell 0))
 have HP0 := hQ_ hi.same
 have HE := hQ_ he
 have HS := hQ_ hs
 have HW := hQ_ hW1
 clear h hi bw g1 hW1 hs he
 go_enter Tryz.func91, Tryz.ntmps91
 go_upto_region 1 with (fail)
 rw [HW.out]
 have k0 := HB.out _ _ HP0.out
 go_wp2_with fail
 refine (bytes_st HE.out HP0.out.wi (Nat.le_trans HS.out (by omega)) x.B x.l.length x.c x.l rfl (bytes_low (HP0.out.wi.kept) hx) (fun ad e hne => hx.lt0 ad e hne) 16).mono ?_
 rintro e V1 ⟨rfl, q0⟩
 have HP1 := hQ_ (HP0.out.trans q0)
 clear q0 k0
 go_wp2_with fail
 go_end0
 exact ⟨rfl, HCl.out _ _ HP1.out⟩
theorem turn_st (w : World) (F : Nat -> Prop) (s : WSt) (h : WI w0 E g F s w) (hs : s.2.length <= 2000000) (ep r : Int) :
    Calls Tryz.prog 87 #[.agg #[.pointer (some ⟨g, 0, none⟩)], .int .i64 ep, .int .i64 r] w fun e w' => e = .returned (.tuple #[]) /\ WP w0 E g F (sTurn ep r s) w w' := by
 obtain ⟨W1, hW1⟩ : ∃ W1, (w.alloc (.cells #[.pointer (some ⟨g, 0, none⟩)] 156)) = W1 := ⟨_, rfl⟩
 have g1 : w.grownBy W1 none := by rw [<- hW1]; exact gQ
 have bw : Blk W1 w.heap.size 156 #[.pointer (some ⟨g, 0, none⟩)] := by rw [<- hW1]; exact Blk.new w _ _
 have hi := h.opened g1
 have HCl := hQ_ (fun (w2 : World) (s2 : WSt) (P : WP w0 E g (fun k => F k /\ k < w.heap.size) s2 W1 w2) => WP.closed (F := F) h g1 P)
 have HB := hQ_ (fun (V : World) (s' : WSt) (P : WP w0 E g (fun k => F k /\ k < w.heap.size) s' W1 V) => (show V.cell? ⟨w.heap.size, 0, none⟩ = some (.pointer (some ⟨g, 0, none⟩)) from
  by
   have kw : Blk V w.heap.size 156 #[.pointer (some ⟨g, 0, none⟩)] := bw.kept P.fine (fun h => absurd h.2 (by omega))
   simpa using kw.cell 0))
 have HP0 := hQ_ hi.same
 have HE := hQ_ he
 have HS := hQ_ hs
 have HW := hQ_ hW1
 clear h hi bw g1 hW1 hs he
 go_enter Tryz.func87, Tryz.ntmps87
 go_upto_region 1 with (fail)
 rw [HW.out]
 have k0 := HB.out _ _ HP0.out
 go_wp2_with fail
 refine (uv HE.out HP0.out.wi (Nat.le_trans HS.out (by omega)) ep 4).mono ?_
 rintro e V1 ⟨rfl, q0⟩
 have HP1 := hQ_ (HP0.out.trans q0)
 clear q0 k0
 have HS1 := hQ_ (show (sNum ep 4 s).2.length <= 2100000 from by have h1 := yl ep 4 s; have h2 := HS.out; have h3 : sNum ep 4 s = sNum ep ((4 : Nat) : Int) s := rfl; rw [h3]; omega)
 have k0 := HB.out _ _ HP1.out
 go_wp2_with fail
 refine (uv HE.out HP1.out.wi (Nat.le_trans HS1.out (by omega)) r 6).mono ?_
 rintro e V2 ⟨rfl, q1⟩
 have HP2 := hQ_ (HP1.out.trans q1)
 clear q1 k0
 go_wp2_with fail
 go_end0
 exact ⟨rfl, HCl.out _ _ HP2.out⟩
end
end
end Go.Proofs.YtigafnbofmiknaaGreatDoor
