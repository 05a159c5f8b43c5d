/- CdETx, CdEVd, CdB, CdMQ, CdI0 -/
import Derived.Deep.DeepCutAuto
import Derived.Test.YtigafnbofmiknaaGreatDoorW20z
import Derived.Test.YtigafnbofmiknaaGreatDoorW20y
import Derived.Test.YtigafnbofmiknaaGreatDoorW20x
import Derived.Test.YtigafnbofmiknaaGreatDoorW20h
namespace Go.Proofs.YtigafnbofmiknaaGreatDoor
set_option maxRecDepth 100000
set_option maxHeartbeats 10000000
open Go.RowKit
section
theorem enter_Tx (args : Array Value) (w : World) : (callFunc 131 args).run Tryz.prog w = .ok (.enter 131 args) w := by kernel_rfl
section
variable {w0 : World} {E : Nat -> Addr} {g : Nat} (he : ErrAt w0 w0.heap.size 0 (E 0))
include he
theorem pcl_Tx (w : World) (F : Nat -> Prop) (s : WSt) (h : WI w0 E g F s w) (hs : s.2.length <= 2000000) (x : Tx) (hx : zt w0 x.B x.l) (b1 b2 : Nat)
    (h4 : w.cell? ⟨b1, 0, none⟩ = some (.func (.func 91) #[] #[])) (h5 : w.cell? ⟨b2, 0, none⟩ = some (.pointer (some ⟨g, 0, none⟩))) :
    Calls Tryz.prog 111 #[.pointer (some ⟨g, 0, none⟩), .slice x.B x.l.length x.c, .pointer (some ⟨b1, 0, none⟩), .pointer (some ⟨b2, 0, none⟩)] w fun e w' => e = .returned (.tuple #[]) /\ WP w0 E g F (sTx x s) w w' := by
 have H := hQ_ (el_Tx he _ _ _ h hs x hx)
 clear h hx hs
 go_enter Tryz.func111, Tryz.ntmps111
 go_wp2_with fail
 refine H.out.mono ?_
 rintro e w1 ⟨rfl, h1⟩
 have H1 := hQ_ h1
 clear h1
 go_wp2_with fail
 go_end0
 exact ⟨rfl, H1.out⟩
theorem ploop_Tx (w : World) (F : Nat -> Prop) (s : WSt) (h : WI w0 E g F s w) (hs : s.2.length <= 1000000) (lb ob wb b1 b2 : Nat) (A : Option Addr) (n c : Nat) (L : List Tx) (hn : L.length = n) (hL : n <= 255) (hA : RowAt w0 A Tx.cells 1 L) (hok : ∀ x ∈ L, zt w0 x.B x.l) (had : ∀ x ∈ L, Adds 1200 (sTx x))
    (h1 : w.cell? ⟨lb, 0, none⟩ = some (.slice A n c)) (h2 : w.cell? ⟨ob, 0, none⟩ = some (.func (.func 111) #[] #[.pointer (some ⟨b1, 0, none⟩), .pointer (some ⟨b2, 0, none⟩)])) (h3 : w.cell? ⟨wb, 0, none⟩ = some (.pointer (some ⟨g, 0, none⟩)))
    (h4 : w.cell? ⟨b1, 0, none⟩ = some (.func (.func 91) #[] #[])) (h5 : w.cell? ⟨b2, 0, none⟩ = some (.pointer (some ⟨g, 0, none⟩)))
    (n2 : ¬ F ob) (n3 : ¬ F wb) (n4 : ¬ F b1) (n5 : ¬ F b2) :
    Calls Tryz.prog 131 #[.pointer (some ⟨lb, 0, none⟩), .pointer (some ⟨ob, 0, none⟩), .pointer (some ⟨wb, 0, none⟩)] w fun e w' => e = .returned (.tuple #[]) /\ WP w0 E g F (sAll sTx L s) w w' := by
 have HH := hQ_ (aQ h (aQ hs (aQ hn (aQ hA (aQ hok had)))))
 have HC := hQ_ (aQ h2 (aQ h3 (aQ h4 h5)))
 have HN := hQ_ (aQ n2 (aQ n3 (aQ n4 n5)))
 have HE := hQ_ he
 clear h hs hn hA hok had h2 h3 h4 h5 n2 n3 n4 n5 he
 go_enter Tryz.func131, Tryz.ntmps131
 go_wp2_with fail
 clear h1
 go_loopw [7] (fun i wr => ∃ k : Nat, k <= n /\ i = .int .i64 (k : Int) /\ WP w0 E g F (sAll sTx (L.take k) s) w wr) (fun i _ => n - (intOf i).toNat)
 case atStart => exact ⟨0, Nat.zero_le _, rfl, by simpa [sAll] using HH.out.1.same⟩
 case round =>
  obtain ⟨k, hk, hi, hP⟩ := hrel
  obtain ⟨I, hI⟩ : ∃ I : Int, I = (k : Int) := ⟨_, rfl⟩
  rw [<- hI] at hi
  subst hi
  rename World => wr
  by_cases hlt : k < n
  · have hlt' : k < L.length := by have := HH.out.2.2.1; omega
    have hne : L ≠ [] := by rintro rfl; simp at hlt'
    obtain ⟨b, off, rfl, hc⟩ := HH.out.2.2.2.1 hne
    have d2 : decide (I < (n : Int)) = true := by simp; omega
    have hIV : I < (n : Int) := by omega
    have hI0 : 0 <= I /\ I < 1000 := by omega
    have hkI : I.toNat = k := by omega
    have r1 := zcg hP.wi.kept (hc k hlt')
    obtain ⟨x, hxe⟩ : ∃ x, x = L[k] := ⟨_, rfl⟩
    have hxm : x ∈ L := by rw [hxe]; exact List.getElem_mem hlt'
    rw [<- hxe] at r1
    rw [<- hkI] at r1
    have c2 := hP.fine.cell HC.out.1 HN.out.1
    have c3 := hP.fine.cell HC.out.2.1 HN.out.2.1
    have c4 := hP.fine.cell HC.out.2.2.1 HN.out.2.2.1
    have c5 := hP.fine.cell HC.out.2.2.2 HN.out.2.2.2
    have hlen : (sAll sTx (L.take k) s).2.length <= 2000000 := by
     have h1 := u7 (f := sTx) (c := 1200) (L.take k) (fun y hy => HH.out.2.2.2.2.2 y (List.mem_of_mem_take hy)) s
     have h2 := HH.out.2.1
     have h3 : (L.take k).length * 1200 <= 255 * 1200 := Nat.mul_le_mul_right 1200 (by rw [List.length_take]; omega)
     omega
    have htake : sAll sTx (L.take (k + 1)) s = sTx x (sAll sTx (L.take k) s) := by rw [List.take_succ_eq_append_getElem hlt', <- hxe, ut]
    have HS := hQ_ (pcl_Tx HE.out wr _ _ hP.wi hlen x (HH.out.2.2.2.2.1 x hxm) b1 b2 c4 c5)
    have HP := hQ_ (aQ hP (aQ htake (aQ hI hlt')))
    have r2 : wr.cell? ⟨b, off + I.toNat, none⟩ = some (.slice x.B x.l.length x.c) := by have := r1 0 _ rfl; simpa using this
    clear hP r1 c4 c5 hxm hxe htake hlen hc hne hkI hI hlt'
    go_wp2_with fail
    refine HS.out.mono ?_
    rintro e3 W3 ⟨rfl, h3⟩
    have H3 := hQ_ h3
    clear h3
    go_wp2_with fail
    go_roundw
    case rel => exact ⟨k + 1, by omega, by rw [HP.out.2.2.1]; rfl, by rw [HP.out.2.1]; exact HP.out.1.trans H3.out⟩
    case measure => have := HP.out.2.2.1; simp [intOf]; omega
  · have d2 : decide (I < (n : Int)) = false := by simp; omega
    have hf : L.take k = L := List.take_of_length_le (by have := HH.out.2.2.1; omega)
    rw [hf] at hP
    have HP := hQ_ hP
    clear hP hf hlt hI hk
    go_wp2_with fail
    go_end0
    exact ⟨rfl, HP.out⟩
theorem wput_Tx (w : World) (F : Nat -> Prop) (s : WSt) (h : WI w0 E g F s w) (hs : s.2.length <= 900000) (b1 b2 : Nat) (A : Option Addr) (n c : Nat) (L : List Tx) (hn : L.length = n) (hA : RowAt w0 A Tx.cells 1 L) (hok : ∀ x ∈ L, zt w0 x.B x.l) (had : ∀ x ∈ L, Adds 1200 (sTx x)) (most : Int)
    (h4 : w.cell? ⟨b1, 0, none⟩ = some (.func (.func 91) #[] #[])) (h5 : w.cell? ⟨b2, 0, none⟩ = some (.pointer (some ⟨g, 0, none⟩))) (n4 : ¬ F b1) (n5 : ¬ F b2) :
    Calls Tryz.prog 110 #[.pointer (some ⟨g, 0, none⟩), .slice A n c, .int .i64 most, .func (.func 111) #[] #[.pointer (some ⟨b1, 0, none⟩), .pointer (some ⟨b2, 0, none⟩)]] w fun e w' => e = .returned (.tuple #[]) /\ WP w0 E g F (sPut n most (sAll sTx L) s) w w' := by
 have hmf : ∀ (fn : Fn) (first cap : Array Value) (w : World), (Instr.makeFunc fn first cap).run Tryz.prog w = .ok (.func fn first cap) w := fun _ _ _ _ => rfl
 obtain ⟨W1, hW1⟩ : ∃ W1, ((w.alloc (.cells #[.pointer (some ⟨g, 0, none⟩)] 154)).alloc (.cells #[.slice A n c] 30)).alloc (.cells #[.func (.func 111) #[] #[.pointer (some ⟨b1, 0, none⟩), .pointer (some ⟨b2, 0, none⟩)]] 203) = W1 := ⟨_, rfl⟩
 have z1 : W1.heap.size = w.heap.size + 3 := by rw [<- hW1]; simp
 have g1 : w.grownBy W1 none := by rw [<- hW1]; exact za (za (gQ) (gQ)) (gQ)
 have d1 : W1.cell? ⟨w.heap.size, 0, none⟩ = some (.pointer (some ⟨g, 0, none⟩)) := by rw [<- hW1]; exact (((Blk.new w 154 #[.pointer (some ⟨g, 0, none⟩)]).alloc _).alloc _).cell 0
 have d2 : W1.cell? ⟨w.heap.size + 1, 0, none⟩ = some (.slice A n c) := by
  have h := ((Blk.new (w.alloc (.cells #[.pointer (some ⟨g, 0, none⟩)] 154)) 30 #[.slice A n c]).alloc (.cells #[.func (.func 111) #[] #[.pointer (some ⟨b1, 0, none⟩), .pointer (some ⟨b2, 0, none⟩)]] 203)).cell 0
  rw [<- hW1]; simpa using h
 have d3 : W1.cell? ⟨w.heap.size + 1 + 1, 0, none⟩ = some (.func (.func 111) #[] #[.pointer (some ⟨b1, 0, none⟩), .pointer (some ⟨b2, 0, none⟩)]) := by
  have h := (Blk.new ((w.alloc (.cells #[.pointer (some ⟨g, 0, none⟩)] 154)).alloc (.cells #[.slice A n c] 30)) 203 #[.func (.func 111) #[] #[.pointer (some ⟨b1, 0, none⟩), .pointer (some ⟨b2, 0, none⟩)]]).cell 0
  rw [<- hW1]; simpa using h
 have hi := h.opened g1
 have d4 := g1.cell h4 (by simp)
 have d5 := g1.cell h5 (by simp)
 have hr := (hi.err he (Nat.le_refl _)).1
 obtain ⟨F0, hF0⟩ : ∃ F0 : Nat -> Prop, F0 = fun k => F k /\ k < w.heap.size := ⟨_, rfl⟩
 rw [<- hF0] at hi
 have m1 : ¬ F0 w.heap.size := by rw [hF0]; intro h; exact absurd h.2 (by omega)
 have m2 : ¬ F0 (w.heap.size + 1) := by rw [hF0]; intro h; exact absurd h.2 (by omega)
 have m3 : ¬ F0 (w.heap.size + 1 + 1) := by rw [hF0]; intro h; exact absurd h.2 (by omega)
 have m4 : ¬ F0 b1 := by rw [hF0]; intro h; exact n4 h.1
 have m5 : ¬ F0 b2 := by rw [hF0]; intro h; exact n5 h.1
 have hlt : ∀ (a : Addr) (v : Value), W1.cell? a = some v -> a.block < W1.heap.size := fun _ _ h => World.block_lt_of_cell? W1 _ h
 have HCl := hQ_ (fun w2 s2 (P : WP w0 E g F0 s2 W1 w2) => WP.closed (F := F) h g1 (hF0 ▸ P))
 have HI := hQ_ (aQ hi (aQ he (aQ hs (aQ hn (aQ hA (aQ hok had))))))
 have HD := hQ_ (aQ d3 (aQ d4 (aQ d5 (aQ True.intro (aQ m1 (aQ m2 (aQ m3 (aQ m4 m5))))))))
 have HW := hQ_ hW1
 have HZ := hQ_ z1
 have HL := hQ_ hlt
 by_cases hlong : most < (n : Int) \/ 255 < n
 · have hsp : sPut n most (sAll sTx L) s = sFail 1 s := by rw [sPut, if_pos hlong]
   rw [hsp]
   clear h hs hn hA hok had h4 h5 n4 n5 he hi d3 d4 d5 m1 m2 m3 m4 m5 hF0 hW1 z1 g1 hsp hlt
   rcases zbc hlong with a1 | ⟨a1, a2⟩
   all_goals
    clear hlong
    go_enter Tryz.func110, Tryz.ntmps110
    go_upto_region 1 with (fail)
    rw [HW.out]
    go_wp2_with fail
    go_region_with (go_at_call 125; refine (zem HI.out.1.drew 0).mono ?_; rintro e w1 ⟨rfl, q⟩; replace q := hQ_ q)
    all_goals
     go_wp2
     first | go_end0 | refine bodyPost_ret (results_none rfl _ _ _) rfl ?_
     refine ⟨rfl, HCl.out _ _ ?_⟩
     exact zbv HI.out.1 q.out
 · have hsp : sPut n most (sAll sTx L) s = sAll sTx L (sNum (n : Int) 1 s) := by rw [sPut, if_neg hlong]
   rw [hsp]
   have a1 : decide (most < (n : Int)) = false := by simp; omega
   have a2 : decide ((255 : Int) < (n : Int)) = false := by simp; omega
   have hn255 : n <= 255 := by omega
   clear h hs hn hA hok had h4 h5 n4 n5 he hi d3 d4 d5 m1 m2 m3 m4 m5 hF0 hW1 z1 g1 hsp hlt hr hlong
   go_enter Tryz.func110, Tryz.ntmps110
   go_upto_region 1 with (fail)
   rw [HW.out]
   go_wp2_with fail
   obtain ⟨hi, he, hs, hn, hA, hok, had⟩ := HI.out
   obtain ⟨d3, d4, d5, _, m1, m2, m3, m4, m5⟩ := HD.out
   refine (uv he hi (by omega) (n : Int) 1).mono ?_
   rintro e w2 ⟨rfl, P2⟩
   have e1 := P2.fine.cell d1 m1
   have e2 := P2.fine.cell d2 m2
   have e3 := P2.fine.cell d3 m3
   have e4 := P2.fine.cell d4 m4
   have e5 := P2.fine.cell d5 m5
   have nn : ∀ j, ¬ F0 j -> j < W1.heap.size -> ¬ upTo F0 W1.heap.size w2.heap.size j := fun j hj hl hu => by
    rcases hu with hu | hu
    · exact hj hu
    · omega
   have hle : (sNum (n : Int) 1 s).2.length <= 1000000 := by
    have := yl (n : Int) 1 s
    have h4 : sNum (n : Int) 1 s = sNum (n : Int) ((1 : Nat) : Int) s := rfl
    rw [h4]; omega
   have PA := P2.alloc (.cells #[.pointer (some ⟨g, 0, none⟩)] 226)
   have ga : w2.grownBy (w2.alloc (.cells #[.pointer (some ⟨g, 0, none⟩)] 226)) none := gQ
   have q2 := P2.wi.grown ga
   have HQ := hQ_ (ploop_Tx he (w2.alloc (.cells #[.pointer (some ⟨g, 0, none⟩)] 226)) _ _ q2.wi hle (w.heap.size + 1) (w.heap.size + 1 + 1) w.heap.size b1 b2 A n c L hn hn255 hA hok had (ga.cell e2 (by simp)) (ga.cell e3 (by simp)) (ga.cell e1 (by simp)) (ga.cell e4 (by simp)) (ga.cell e5 (by simp))
    (vi (nn _ m3 (HL.out _ _ d3)) (HL.out _ _ d3) P2.fine.size) (vi (nn _ m1 (HL.out _ _ d1)) (HL.out _ _ d1) P2.fine.size) (vi (nn _ m4 (HL.out _ _ d4)) (HL.out _ _ d4) P2.fine.size) (vi (nn _ m5 (HL.out _ _ d5)) (HL.out _ _ d5) P2.fine.size))
   have HP := hQ_ (aQ P2 q2)
   have e1' := e1
   clear hi he hs hn hA hok had d3 d4 d5 m1 m2 m3 m4 m5 P2 PA e2 e3 e4 e5 nn hle q2 ga d2 d1
   go_wp2_with fail
   refine (zbi ⟨g, 0, none⟩ 131 _ w2 _ enter_Tx HQ.out).mono ?_
   rintro e w4 ⟨rfl, h4⟩
   have H4 := hQ_ h4
   clear h4
   go_wp2_with fail
   go_end0
   exact ⟨rfl, HCl.out _ _ (HP.out.1.trans (HP.out.2.trans H4.out))⟩
theorem put_Tx (w : World) (F : Nat -> Prop) (s : WSt) (h : WI w0 E g F s w) (hs : s.2.length <= 900000) (A : Option Addr) (n c : Nat) (L : List Tx) (hn : L.length = n) (hA : RowAt w0 A Tx.cells 1 L) (hok : ∀ x ∈ L, zt w0 x.B x.l) (had : ∀ x ∈ L, Adds 1200 (sTx x)) (most : Int) :
    Calls Tryz.prog 90 #[.agg #[.pointer (some ⟨g, 0, none⟩)], .slice A n c, .int .i64 most, .func (.func 91) #[] #[]] w fun e w' => e = .returned (.tuple #[]) /\ WP w0 E g F (sPut n most (sAll sTx L) s) w w' := by
 have hmf : ∀ (fn : Fn) (first cap : Array Value) (w : World), (Instr.makeFunc fn first cap).run Tryz.prog w = .ok (.func fn first cap) w := fun _ _ _ _ => rfl
 obtain ⟨W1, hW1⟩ : ∃ W1, (w.alloc (.cells #[.pointer (some ⟨g, 0, none⟩)] 156)).alloc (.cells #[.func (.func 91) #[] #[]] 182) = W1 := ⟨_, rfl⟩
 have g1 : w.grownBy W1 none := by rw [<- hW1]; exact za (gQ) (gQ)
 have d1 : W1.cell? ⟨w.heap.size, 0, none⟩ = some (.pointer (some ⟨g, 0, none⟩)) := by rw [<- hW1]; exact ((Blk.new w 156 #[.pointer (some ⟨g, 0, none⟩)]).alloc _).cell 0
 have d2 : W1.cell? ⟨w.heap.size + 1, 0, none⟩ = some (.func (.func 91) #[] #[]) := by
  have h := (Blk.new (w.alloc (.cells #[.pointer (some ⟨g, 0, none⟩)] 156)) 182 #[.func (.func 91) #[] #[]]).cell 0
  rw [World.size_alloc, hW1] at h
  exact h
 have hi := h.opened g1
 have HQ := hQ_ (wput_Tx he W1 _ s hi hs (w.heap.size + 1) w.heap.size A n c L hn hA hok had most d2 d1 (fun h => absurd h.2 (by omega)) (fun h => absurd h.2 (by omega)))
 have HCl := hQ_ (fun w2 s2 (P : WP w0 E g (fun k => F k /\ k < w.heap.size) s2 W1 w2) => WP.closed (F := F) h g1 P)
 have HW := hQ_ hW1
 clear h hs hn hA hok had he hi hW1 g1 d2
 go_enter Tryz.func90, Tryz.ntmps90
 go_upto_region 1 with (fail)
 rw [HW.out]
 go_wp2_with fail
 refine HQ.out.mono ?_
 rintro e w4 ⟨rfl, h4⟩
 have H4 := hQ_ h4
 clear h4
 go_wp2_with fail
 go_end0
 exact ⟨rfl, HCl.out _ _ H4.out⟩
end
end
section
theorem enter_Vd (args : Array Value) (w : World) : (callFunc 132 args).run Tryz.prog w = .ok (.enter 132 args) w := by kernel_rfl
section
variable {w0 : World} {E : Nat -> Addr} {g : Nat} (he : ErrAt w0 w0.heap.size 0 (E 0))
include he
theorem pcl_Vd (w : World) (F : Nat -> Prop) (s : WSt) (h : WI w0 E g F s w) (hs : s.2.length <= 2000000) (x : Vd) (hx : isDig x.key) (cs : Array Value) (hcs : cs = (Vd.cells x).toArray) (b1 b2 : Nat)
    (h4 : w.cell? ⟨b1, 0, none⟩ = some (.func (.func 93) #[] #[])) (h5 : w.cell? ⟨b2, 0, none⟩ = some (.pointer (some ⟨g, 0, none⟩))) :
    Calls Tryz.prog 114 #[.pointer (some ⟨g, 0, none⟩), .agg cs, .pointer (some ⟨b1, 0, none⟩), .pointer (some ⟨b2, 0, none⟩)] w fun e w' => e = .returned (.tuple #[]) /\ WP w0 E g F (sVd x s) w w' := by
 obtain ⟨W1, hW1⟩ : ∃ W1, w.alloc (.cells cs 55) = W1 := ⟨_, rfl⟩
 have g1 : w.grownBy W1 none := by rw [<- hW1]; exact gQ
 have bx : Blk W1 w.heap.size 55 cs := by rw [<- hW1]; exact Blk.new w _ _
 have c1 := g1.cell h4 (by simp)
 have c2 := g1.cell h5 (by simp)
 have hcz : cs.size = 17 := by rw [hcs]; exact cz_Vd hx
 have P1 := h.grown g1
 have H := hQ_ (el_Vd he _ _ _ P1.wi hs x hx cs hcs)
 have HX := hQ_ (aQ hcz (zd bx))
 have HP := hQ_ P1
 have HW := hQ_ hW1
 clear h hx hs hcs P1 bx hcz g1 hW1 h4 h5
 go_enter Tryz.func114, Tryz.ntmps114
 go_upto_region 1 with (fail)
 rw [HW.out]
 go_wp2_with (refine wpList_load_mid rfl 55 _ rfl w.heap.size 0 rfl cs.toList _ HX.out.2 Tryz.underlying55 rfl (by rw [Array.length_toList, HX.out.1]; exact sz_Vd) ?_; rw [Array.toArray_toList])
 refine H.out.mono ?_
 rintro e w1 ⟨rfl, h1⟩
 have H1 := hQ_ h1
 clear h1
 go_wp2_with fail
 go_end0
 exact ⟨rfl, HP.out.trans H1.out⟩
theorem ploop_Vd (w : World) (F : Nat -> Prop) (s : WSt) (h : WI w0 E g F s w) (hs : s.2.length <= 1000000) (lb ob wb b1 b2 : Nat) (A : Option Addr) (n c : Nat) (L : List Vd) (hn : L.length = n) (hL : n <= 255) (hA : RowAt w0 A Vd.cells 17 L) (hok : ∀ x ∈ L, isDig x.key) (had : ∀ x ∈ L, Adds 1200 (sVd x))
    (h1 : w.cell? ⟨lb, 0, none⟩ = some (.slice A n c)) (h2 : w.cell? ⟨ob, 0, none⟩ = some (.func (.func 114) #[] #[.pointer (some ⟨b1, 0, none⟩), .pointer (some ⟨b2, 0, none⟩)])) (h3 : w.cell? ⟨wb, 0, none⟩ = some (.pointer (some ⟨g, 0, none⟩)))
    (h4 : w.cell? ⟨b1, 0, none⟩ = some (.func (.func 93) #[] #[])) (h5 : w.cell? ⟨b2, 0, none⟩ = some (.pointer (some ⟨g, 0, none⟩)))
    (n2 : ¬ F ob) (n3 : ¬ F wb) (n4 : ¬ F b1) (n5 : ¬ F b2) :
    Calls Tryz.prog 132 #[.pointer (some ⟨lb, 0, none⟩), .pointer (some ⟨ob, 0, none⟩), .pointer (some ⟨wb, 0, none⟩)] w fun e w' => e = .returned (.tuple #[]) /\ WP w0 E g F (sAll sVd L s) w w' := by
 have hzz := zz_Vd
 obtain ⟨ZZ, hZZ⟩ : ∃ Z, zv_Vd = Z := ⟨_, rfl⟩
 rw [hZZ] at hzz
 have HZZ := hQ_ (show 17 = ZZ.size by rw [<- hZZ]; rfl)
 clear hZZ
 have HH := hQ_ (aQ h (aQ hs (aQ hn (aQ hA (aQ hok had)))))
 have HC := hQ_ (aQ h2 (aQ h3 (aQ h4 h5)))
 have HN := hQ_ (aQ n2 (aQ n3 (aQ n4 n5)))
 have HE := hQ_ he
 clear h hs hn hA hok had h2 h3 h4 h5 n2 n3 n4 n5 he
 go_enter Tryz.func132, Tryz.ntmps132
 go_wp2_with fail
 clear h1
 go_loopw [7] (fun i wr => ∃ k : Nat, k <= n /\ i = .int .i64 (k : Int) /\ WP w0 E g F (sAll sVd (L.take k) s) w wr) (fun i _ => n - (intOf i).toNat)
 case atStart => exact ⟨0, Nat.zero_le _, rfl, by simpa [sAll] using HH.out.1.same⟩
 case round =>
  obtain ⟨k, hk, hi, hP⟩ := hrel
  obtain ⟨I, hI⟩ : ∃ I : Int, I = (k : Int) := ⟨_, rfl⟩
  rw [<- hI] at hi
  subst hi
  rename World => wr
  by_cases hlt : k < n
  · have hlt' : k < L.length := by have := HH.out.2.2.1; omega
    have hne : L ≠ [] := by rintro rfl; simp at hlt'
    obtain ⟨b, off, rfl, hc⟩ := HH.out.2.2.2.1 hne
    have d2 : decide (I < (n : Int)) = true := by simp; omega
    have hIV : I < (n : Int) := by omega
    have hI0 : 0 <= I /\ I < 1000 := by omega
    have hkI : I.toNat = k := by omega
    have r1 := zcg hP.wi.kept (hc k hlt')
    obtain ⟨x, hxe⟩ : ∃ x, x = L[k] := ⟨_, rfl⟩
    have hxm : x ∈ L := by rw [hxe]; exact List.getElem_mem hlt'
    rw [<- hxe] at r1
    rw [<- hkI] at r1
    have c2 := hP.fine.cell HC.out.1 HN.out.1
    have c3 := hP.fine.cell HC.out.2.1 HN.out.2.1
    have c4 := hP.fine.cell HC.out.2.2.1 HN.out.2.2.1
    have c5 := hP.fine.cell HC.out.2.2.2 HN.out.2.2.2
    have hlen : (sAll sVd (L.take k) s).2.length <= 2000000 := by
     have h1 := u7 (f := sVd) (c := 1200) (L.take k) (fun y hy => HH.out.2.2.2.2.2 y (List.mem_of_mem_take hy)) s
     have h2 := HH.out.2.1
     have h3 : (L.take k).length * 1200 <= 255 * 1200 := Nat.mul_le_mul_right 1200 (by rw [List.length_take]; omega)
     omega
    have htake : sAll sVd (L.take (k + 1)) s = sVd x (sAll sVd (L.take k) s) := by rw [List.take_succ_eq_append_getElem hlt', <- hxe, ut]
    obtain ⟨cs, hcs⟩ : ∃ cs, cs = (Vd.cells x).toArray := ⟨_, rfl⟩
    have hcz : cs.size = 17 := by rw [hcs]; exact cz_Vd (HH.out.2.2.2.2.1 x hxm)
    have hc1 : (cs.all fun v => v.oneCell') = true := by rw [hcs]; exact c1_Vd x
    have r2 : wr.rangeAt b (off + I.toNat * 17) cs.toList := by rw [hcs]; exact r1
    obtain ⟨W0, hW0⟩ : ∃ W0, W0 = (wr.alloc (.cells ZZ 55)).setRow wr.heap.size cs := ⟨_, rfl⟩
    have hG0 : wr.grownBy W0 none := by rw [hW0]; exact zc (World.grownBy_alloc wr _ none) (.inl (Nat.le_refl _)) cs
    have bS : Blk W0 wr.heap.size 55 cs := by rw [hW0]; exact (Blk.new wr 55 ZZ).row cs
    have e2 := hG0.cell c2 (by simp)
    have e3 := hG0.cell c3 (by simp)
    have P0 := hP.wi.grown hG0
    have HS := hQ_ (pcl_Vd HE.out W0 _ _ P0.wi hlen x (HH.out.2.2.2.2.1 x hxm) cs hcs b1 b2 (hG0.cell c4 (by simp)) (hG0.cell c5 (by simp)))
    have HP := hQ_ (aQ (aQ hP P0) (aQ htake (aQ hI hlt')))
    have HX := hQ_ (aQ hcz (aQ hc1 (aQ r2 (zd bS))))
    have HW := hQ_ hW0
    clear hP P0 hcz hc1 r1 r2 hW0 hG0 bS hcs c2 c3 c4 c5 hxm hxe htake hlen hc hne hkI hI hlt'
    go_wp2_with (first
     | (refine wpList_load_mid rfl 55 _ rfl b (off + I.toNat * 17) rfl cs.toList _ HX.out.2.2.1 Tryz.underlying55 rfl (by rw [Array.length_toList, HX.out.1]; exact sz_Vd) ?_; rw [Array.toArray_toList])
     | (refine wpList_store_row rfl 55 _ _ rfl wr.heap.size cs rfl rfl 55 _ (heap_alloc_new wr _) (by rw [HX.out.1]; exact sz_Vd) (by rw [HX.out.1]; first | exact HZZ.out | exact HZZ.out.symm) HX.out.2.1 ?_
        rw [<- HW.out])
     | (refine wpList_load_mid rfl 55 _ rfl wr.heap.size 0 rfl cs.toList _ HX.out.2.2.2 Tryz.underlying55 rfl (by rw [Array.length_toList, HX.out.1]; exact sz_Vd) ?_; rw [Array.toArray_toList]))
    refine HS.out.mono ?_
    rintro e3 W3 ⟨rfl, h3⟩
    have H3 := hQ_ h3
    clear h3
    go_wp2_with fail
    go_roundw
    case rel => exact ⟨k + 1, by omega, by rw [HP.out.2.2.1]; rfl, by rw [HP.out.2.1]; exact HP.out.1.1.trans (HP.out.1.2.trans H3.out)⟩
    case measure => have := HP.out.2.2.1; simp [intOf]; omega
  · have d2 : decide (I < (n : Int)) = false := by simp; omega
    have hf : L.take k = L := List.take_of_length_le (by have := HH.out.2.2.1; omega)
    rw [hf] at hP
    have HP := hQ_ hP
    clear hP hf hlt hI hk
    go_wp2_with fail
    go_end0
    exact ⟨rfl, HP.out⟩
theorem wput_Vd (w : World) (F : Nat -> Prop) (s : WSt) (h : WI w0 E g F s w) (hs : s.2.length <= 900000) (b1 b2 : Nat) (A : Option Addr) (n c : Nat) (L : List Vd) (hn : L.length = n) (hA : RowAt w0 A Vd.cells 17 L) (hok : ∀ x ∈ L, isDig x.key) (had : ∀ x ∈ L, Adds 1200 (sVd x)) (most : Int)
    (h4 : w.cell? ⟨b1, 0, none⟩ = some (.func (.func 93) #[] #[])) (h5 : w.cell? ⟨b2, 0, none⟩ = some (.pointer (some ⟨g, 0, none⟩))) (n4 : ¬ F b1) (n5 : ¬ F b2) :
    Calls Tryz.prog 113 #[.pointer (some ⟨g, 0, none⟩), .slice A n c, .int .i64 most, .func (.func 114) #[] #[.pointer (some ⟨b1, 0, none⟩), .pointer (some ⟨b2, 0, none⟩)]] w fun e w' => e = .returned (.tuple #[]) /\ WP w0 E g F (sPut n most (sAll sVd L) s) w w' := by
 have hmf : ∀ (fn : Fn) (first cap : Array Value) (w : World), (Instr.makeFunc fn first cap).run Tryz.prog w = .ok (.func fn first cap) w := fun _ _ _ _ => rfl
 obtain ⟨W1, hW1⟩ : ∃ W1, ((w.alloc (.cells #[.pointer (some ⟨g, 0, none⟩)] 154)).alloc (.cells #[.slice A n c] 22)).alloc (.cells #[.func (.func 114) #[] #[.pointer (some ⟨b1, 0, none⟩), .pointer (some ⟨b2, 0, none⟩)]] 206) = W1 := ⟨_, rfl⟩
 have z1 : W1.heap.size = w.heap.size + 3 := by rw [<- hW1]; simp
 have g1 : w.grownBy W1 none := by rw [<- hW1]; exact za (za (gQ) (gQ)) (gQ)
 have d1 : W1.cell? ⟨w.heap.size, 0, none⟩ = some (.pointer (some ⟨g, 0, none⟩)) := by rw [<- hW1]; exact (((Blk.new w 154 #[.pointer (some ⟨g, 0, none⟩)]).alloc _).alloc _).cell 0
 have d2 : W1.cell? ⟨w.heap.size + 1, 0, none⟩ = some (.slice A n c) := by
  have h := ((Blk.new (w.alloc (.cells #[.pointer (some ⟨g, 0, none⟩)] 154)) 22 #[.slice A n c]).alloc (.cells #[.func (.func 114) #[] #[.pointer (some ⟨b1, 0, none⟩), .pointer (some ⟨b2, 0, none⟩)]] 206)).cell 0
  rw [<- hW1]; simpa using h
 have d3 : W1.cell? ⟨w.heap.size + 1 + 1, 0, none⟩ = some (.func (.func 114) #[] #[.pointer (some ⟨b1, 0, none⟩), .pointer (some ⟨b2, 0, none⟩)]) := by
  have h := (Blk.new ((w.alloc (.cells #[.pointer (some ⟨g, 0, none⟩)] 154)).alloc (.cells #[.slice A n c] 22)) 206 #[.func (.func 114) #[] #[.pointer (some ⟨b1, 0, none⟩), .pointer (some ⟨b2, 0, none⟩)]]).cell 0
  rw [<- hW1]; simpa using h
 have hi := h.opened g1
 have d4 := g1.cell h4 (by simp)
 have d5 := g1.cell h5 (by simp)
 have hr := (hi.err he (Nat.le_refl _)).1
 obtain ⟨F0, hF0⟩ : ∃ F0 : Nat -> Prop, F0 = fun k => F k /\ k < w.heap.size := ⟨_, rfl⟩
 rw [<- hF0] at hi
 have m1 : ¬ F0 w.heap.size := by rw [hF0]; intro h; exact absurd h.2 (by omega)
 have m2 : ¬ F0 (w.heap.size + 1) := by rw [hF0]; intro h; exact absurd h.2 (by omega)
 have m3 : ¬ F0 (w.heap.size + 1 + 1) := by rw [hF0]; intro h; exact absurd h.2 (by omega)
 have m4 : ¬ F0 b1 := by rw [hF0]; intro h; exact n4 h.1
 have m5 : ¬ F0 b2 := by rw [hF0]; intro h; exact n5 h.1
 have hlt : ∀ (a : Addr) (v : Value), W1.cell? a = some v -> a.block < W1.heap.size := fun _ _ h => World.block_lt_of_cell? W1 _ h
 have HCl := hQ_ (fun w2 s2 (P : WP w0 E g F0 s2 W1 w2) => WP.closed (F := F) h g1 (hF0 ▸ P))
 have HI := hQ_ (aQ hi (aQ he (aQ hs (aQ hn (aQ hA (aQ hok had))))))
 have HD := hQ_ (aQ d3 (aQ d4 (aQ d5 (aQ True.intro (aQ m1 (aQ m2 (aQ m3 (aQ m4 m5))))))))
 have HW := hQ_ hW1
 have HZ := hQ_ z1
 have HL := hQ_ hlt
 by_cases hlong : most < (n : Int) \/ 255 < n
 · have hsp : sPut n most (sAll sVd L) s = sFail 1 s := by rw [sPut, if_pos hlong]
   rw [hsp]
   clear h hs hn hA hok had h4 h5 n4 n5 he hi d3 d4 d5 m1 m2 m3 m4 m5 hF0 hW1 z1 g1 hsp hlt
   rcases zbc hlong with a1 | ⟨a1, a2⟩
   all_goals
    clear hlong
    go_enter Tryz.func113, Tryz.ntmps113
    go_upto_region 1 with (fail)
    rw [HW.out]
    go_wp2_with fail
    go_region_with (go_at_call 125; refine (zem HI.out.1.drew 0).mono ?_; rintro e w1 ⟨rfl, q⟩; replace q := hQ_ q)
    all_goals
     go_wp2
     first | go_end0 | refine bodyPost_ret (results_none rfl _ _ _) rfl ?_
     refine ⟨rfl, HCl.out _ _ ?_⟩
     exact zbv HI.out.1 q.out
 · have hsp : sPut n most (sAll sVd L) s = sAll sVd L (sNum (n : Int) 1 s) := by rw [sPut, if_neg hlong]
   rw [hsp]
   have a1 : decide (most < (n : Int)) = false := by simp; omega
   have a2 : decide ((255 : Int) < (n : Int)) = false := by simp; omega
   have hn255 : n <= 255 := by omega
   clear h hs hn hA hok had h4 h5 n4 n5 he hi d3 d4 d5 m1 m2 m3 m4 m5 hF0 hW1 z1 g1 hsp hlt hr hlong
   go_enter Tryz.func113, Tryz.ntmps113
   go_upto_region 1 with (fail)
   rw [HW.out]
   go_wp2_with fail
   obtain ⟨hi, he, hs, hn, hA, hok, had⟩ := HI.out
   obtain ⟨d3, d4, d5, _, m1, m2, m3, m4, m5⟩ := HD.out
   refine (uv he hi (by omega) (n : Int) 1).mono ?_
   rintro e w2 ⟨rfl, P2⟩
   have e1 := P2.fine.cell d1 m1
   have e2 := P2.fine.cell d2 m2
   have e3 := P2.fine.cell d3 m3
   have e4 := P2.fine.cell d4 m4
   have e5 := P2.fine.cell d5 m5
   have nn : ∀ j, ¬ F0 j -> j < W1.heap.size -> ¬ upTo F0 W1.heap.size w2.heap.size j := fun j hj hl hu => by
    rcases hu with hu | hu
    · exact hj hu
    · omega
   have hle : (sNum (n : Int) 1 s).2.length <= 1000000 := by
    have := yl (n : Int) 1 s
    have h4 : sNum (n : Int) 1 s = sNum (n : Int) ((1 : Nat) : Int) s := rfl
    rw [h4]; omega
   have PA := P2.alloc (.cells #[.pointer (some ⟨g, 0, none⟩)] 226)
   have ga : w2.grownBy (w2.alloc (.cells #[.pointer (some ⟨g, 0, none⟩)] 226)) none := gQ
   have q2 := P2.wi.grown ga
   have HQ := hQ_ (ploop_Vd he (w2.alloc (.cells #[.pointer (some ⟨g, 0, none⟩)] 226)) _ _ q2.wi hle (w.heap.size + 1) (w.heap.size + 1 + 1) w.heap.size b1 b2 A n c L hn hn255 hA hok had (ga.cell e2 (by simp)) (ga.cell e3 (by simp)) (ga.cell e1 (by simp)) (ga.cell e4 (by simp)) (ga.cell e5 (by simp))
    (vi (nn _ m3 (HL.out _ _ d3)) (HL.out _ _ d3) P2.fine.size) (vi (nn _ m1 (HL.out _ _ d1)) (HL.out _ _ d1) P2.fine.size) (vi (nn _ m4 (HL.out _ _ d4)) (HL.out _ _ d4) P2.fine.size) (vi (nn _ m5 (HL.out _ _ d5)) (HL.out _ _ d5) P2.fine.size))
   have HP := hQ_ (aQ P2 q2)
   have e1' := e1
   clear hi he hs hn hA hok had d3 d4 d5 m1 m2 m3 m4 m5 P2 PA e2 e3 e4 e5 nn hle q2 ga d2 d1
   go_wp2_with fail
   refine (zbi ⟨g, 0, none⟩ 132 _ w2 _ enter_Vd HQ.out).mono ?_
   rintro e w4 ⟨rfl, h4⟩
   have H4 := hQ_ h4
   clear h4
   go_wp2_with fail
   go_end0
   exact ⟨rfl, HCl.out _ _ (HP.out.1.trans (HP.out.2.trans H4.out))⟩
theorem put_Vd (w : World) (F : Nat -> Prop) (s : WSt) (h : WI w0 E g F s w) (hs : s.2.length <= 900000) (A : Option Addr) (n c : Nat) (L : List Vd) (hn : L.length = n) (hA : RowAt w0 A Vd.cells 17 L) (hok : ∀ x ∈ L, isDig x.key) (had : ∀ x ∈ L, Adds 1200 (sVd x)) (most : Int) :
    Calls Tryz.prog 92 #[.agg #[.pointer (some ⟨g, 0, none⟩)], .slice A n c, .int .i64 most, .func (.func 93) #[] #[]] w fun e w' => e = .returned (.tuple #[]) /\ WP w0 E g F (sPut n most (sAll sVd L) s) w w' := by
 have hmf : ∀ (fn : Fn) (first cap : Array Value) (w : World), (Instr.makeFunc fn first cap).run Tryz.prog w = .ok (.func fn first cap) w := fun _ _ _ _ => rfl
 obtain ⟨W1, hW1⟩ : ∃ W1, (w.alloc (.cells #[.pointer (some ⟨g, 0, none⟩)] 156)).alloc (.cells #[.func (.func 93) #[] #[]] 184) = W1 := ⟨_, rfl⟩
 have g1 : w.grownBy W1 none := by rw [<- hW1]; exact za (gQ) (gQ)
 have d1 : W1.cell? ⟨w.heap.size, 0, none⟩ = some (.pointer (some ⟨g, 0, none⟩)) := by rw [<- hW1]; exact ((Blk.new w 156 #[.pointer (some ⟨g, 0, none⟩)]).alloc _).cell 0
 have d2 : W1.cell? ⟨w.heap.size + 1, 0, none⟩ = some (.func (.func 93) #[] #[]) := by
  have h := (Blk.new (w.alloc (.cells #[.pointer (some ⟨g, 0, none⟩)] 156)) 184 #[.func (.func 93) #[] #[]]).cell 0
  rw [World.size_alloc, hW1] at h
  exact h
 have hi := h.opened g1
 have HQ := hQ_ (wput_Vd he W1 _ s hi hs (w.heap.size + 1) w.heap.size A n c L hn hA hok had most d2 d1 (fun h => absurd h.2 (by omega)) (fun h => absurd h.2 (by omega)))
 have HCl := hQ_ (fun w2 s2 (P : WP w0 E g (fun k => F k /\ k < w.heap.size) s2 W1 w2) => WP.closed (F := F) h g1 P)
 have HW := hQ_ hW1
 clear h hs hn hA hok had he hi hW1 g1 d2
 go_enter Tryz.func92, Tryz.ntmps92
 go_upto_region 1 with (fail)
 rw [HW.out]
 go_wp2_with fail
 refine HQ.out.mono ?_
 rintro e w4 ⟨rfl, h4⟩
 have H4 := hQ_ h4
 clear h4
 go_wp2_with fail
 go_end0
 exact ⟨rfl, HCl.out _ _ H4.out⟩
end
end
section
theorem sz_QC : (Tryz.prog.info? 29).map (·.size) = some 19 := by kernel_rfl
section
variable {w0 : World} {E : Nat -> Addr} {g : Nat} (he : ErrAt w0 w0.heap.size 0 (E 0))
include he
theorem qc_st (w : World) (F : Nat -> Prop) (s : WSt) (h : WI w0 E g F s w) (hs : s.2.length <= 800000) (q : Qc) (hq : q.At w0) (cs : Array Value) (hcs : cs = q.val) :
    Calls Tryz.prog 89 #[.agg #[.pointer (some ⟨g, 0, none⟩)], .agg cs] w fun e w' => e = .returned (.tuple #[]) /\ WP w0 E g F (sQc q s) w w' := by
 obtain ⟨kd, hkd⟩ : ∃ kd, kd = arrV .u8 q.Bl := ⟨_, rfl⟩
 have hks : kd.size = 16 := by rw [hkd, zf, hq.1.1]
 have hcl : cs.toList = [.int .i64 q.e, .int .i64 q.r] ++ (kd.toList ++ [.slice q.A q.L.length q.c]) := by rw [hcs, hkd]; simp [Qc.val]
 have H3 := hQ_ (aQ hks hkd)
 have HQ := hQ_ hq
 obtain ⟨W1, hW1⟩ : ∃ W1, ((w.alloc (.cells #[.pointer (some ⟨g, 0, none⟩)] 156)).alloc (.cells cs 29)) = W1 := ⟨_, rfl⟩
 have g1 : w.grownBy W1 none := by rw [<- hW1]; exact za (gQ) (gQ)
 have bw : Blk W1 w.heap.size 156 #[.pointer (some ⟨g, 0, none⟩)] := by rw [<- hW1]; exact (Blk.new w _ _).alloc _
 have bx : Blk W1 (w.heap.size + 1) 29 cs := by
  have := Blk.new (w.alloc (.cells #[.pointer (some ⟨g, 0, none⟩)] 156)) 29 cs
  rw [<- hW1]; simpa using this
 have hi := h.opened g1
 have HCl := hQ_ (fun (w2 : World) (s2 : WSt) (P : WP w0 E g (fun k => F k /\ k < w.heap.size) s2 W1 w2) => WP.closed (F := F) h g1 P)
 have HB := hQ_ (fun (V : World) (s' : WSt) (P : WP w0 E g (fun k => F k /\ k < w.heap.size) s' W1 V) => (show V.cell? ⟨w.heap.size, 0, none⟩ = some (.pointer (some ⟨g, 0, none⟩)) /\ V.cell? ⟨w.heap.size + 1, 0, none⟩ = some (.int .i64 q.e) /\ V.cell? ⟨w.heap.size + 1, 1, none⟩ = some (.int .i64 q.r) /\ V.rangeAt (w.heap.size + 1) 2 kd.toList /\ V.cell? ⟨w.heap.size + 1, 18, none⟩ = some (.slice q.A q.L.length q.c) from
  by
   have kw : Blk V w.heap.size 156 #[.pointer (some ⟨g, 0, none⟩)] := bw.kept P.fine (fun h => absurd h.2 (by omega))
   have bx : Blk V (w.heap.size + 1) 29 cs := bx.kept P.fine (fun h => absurd h.2 (by omega))
   exact ⟨by simpa using kw.cell 0, by have r := zd bx; have := r 0 (.int .i64 q.e) (by rw [hcl]; rfl); simpa using this, by have r := zd bx; have := r 1 (.int .i64 q.r) (by rw [hcl]; rfl); simpa using this, by have r := zd bx; rw [hcl] at r; have := zx r; simpa using this, by have r := zd bx; have := r 18 (.slice q.A q.L.length q.c) (by rw [hcl, List.getElem?_append_right (by simp), List.getElem?_append_right (by simp [hks])]; simp [hks]); simpa using this⟩))
 have HP0 := hQ_ hi.same
 have HE := hQ_ he
 have HS := hQ_ hs
 have HW := hQ_ hW1
 clear h hi bw bx g1 hW1 hs he hcs hks hkd hcl hq
 go_enter Tryz.func89, Tryz.ntmps89
 go_upto_region 1 with (fail)
 rw [HW.out]
 obtain ⟨k0, k1, k2, k3, k4⟩ := HB.out _ _ HP0.out
 clear k3 k4
 go_wp2_with fail
 refine (turn_st HE.out _ _ _ HP0.out.wi (Nat.le_trans HS.out (by omega)) q.e q.r).mono ?_
 rintro e V1 ⟨rfl, q0⟩
 have HP1 := hQ_ (HP0.out.trans q0)
 clear q0 k0 k1 k2
 have HS1 := hQ_ (show (sTurn q.e q.r s).2.length <= 810000 from by have h1 := zav q.e q.r s; have h2 := HS.out; omega)
 obtain ⟨k0, k1, k2, k3, k4⟩ := HB.out _ _ HP1.out
 clear k1 k2 k4
 have HR := hQ_ k3
 clear k3
 go_wp2_with (refine wpList_load_mid rfl 24 _ rfl (w.heap.size + 1) 2 rfl (kd.toList) _ HR.out Tryz.underlying24 rfl (by rw [Array.length_toList, H3.out.1]; exact sz_Dg) ?_; rw [Array.toArray_toList])
 refine (zcl HP1.out.wi (Nat.le_trans HS1.out (by omega)) q.Bl HQ.out.1 kd H3.out.2).mono ?_
 rintro e V2 ⟨rfl, q1⟩
 have HP2 := hQ_ (HP1.out.trans q1)
 clear q1 k0
 have HS2 := hQ_ (show (sDig q.Bl (sTurn q.e q.r s)).2.length <= 820000 from by have h1 := ym HQ.out.1.1 (sTurn q.e q.r s); have h2 := HS1.out; omega)
 obtain ⟨k0, k1, k2, k3, k4⟩ := HB.out _ _ HP2.out
 clear k1 k2 k3
 go_wp2_with fail
 refine (put_Sg HE.out _ _ _ HP2.out.wi (Nat.le_trans HS2.out (by omega)) q.A q.L.length q.c q.L rfl HQ.out.2.1 HQ.out.2.2 (fun x hx => (zc2 (HQ.out.2.2.dig x hx)).mono (by omega)) 7).mono ?_
 rintro e V3 ⟨rfl, q2⟩
 have HP3 := hQ_ (HP2.out.trans q2)
 clear q2 k0 k4
 go_wp2_with fail
 go_end0
 exact ⟨rfl, HCl.out _ _ HP3.out⟩
theorem block_st (w : World) (F : Nat -> Prop) (s : WSt) (h : WI w0 E g F s w) (hs : s.2.length <= 700000) (b : Bk) (hb : b.At w0) (cs : Array Value) (hcs : cs = b.val) :
    Calls Tryz.prog 69 #[.agg #[.pointer (some ⟨g, 0, none⟩)], .agg cs] w fun e w' => e = .returned (.tuple #[]) /\ WP w0 E g F (sBk b s) w w' := by
 obtain ⟨kd, hkd⟩ : ∃ kd, kd = arrV .u8 b.P := ⟨_, rfl⟩
 obtain ⟨qv, hqv⟩ : ∃ qv, qv = b.q.val := ⟨_, rfl⟩
 have hks : kd.size = 16 := by rw [hkd, zf, hb.1.1]
 have hqs : qv.size = 19 := by rw [hqv, Qc.val]; simp [zf, hb.2.1.1.1]
 have hcl : cs.toList = [.int .i64 b.e, .int .i64 b.r] ++ (kd.toList ++ (qv.toList ++ [.slice b.A b.T.length b.c, .slice b.A2 b.V.length b.c2])) := by rw [hcs, hkd, hqv]; simp [Bk.val]
 have hcl2 : cs.toList = ([.int .i64 b.e, .int .i64 b.r] ++ kd.toList) ++ (qv.toList ++ [.slice b.A b.T.length b.c, .slice b.A2 b.V.length b.c2]) := by rw [hcl]; simp
 have hl18 : ([Value.int .i64 b.e, Value.int .i64 b.r] ++ kd.toList).length = 18 := by simp [hks]
 have H3 := hQ_ (aQ hks (aQ hkd (aQ hqs hqv)))
 have HQ := hQ_ hb
 obtain ⟨W1, hW1⟩ : ∃ W1, ((w.alloc (.cells #[.pointer (some ⟨g, 0, none⟩)] 156)).alloc (.cells cs 32)) = W1 := ⟨_, rfl⟩
 have g1 : w.grownBy W1 none := by rw [<- hW1]; exact za (gQ) (gQ)
 have bw : Blk W1 w.heap.size 156 #[.pointer (some ⟨g, 0, none⟩)] := by rw [<- hW1]; exact (Blk.new w _ _).alloc _
 have bx : Blk W1 (w.heap.size + 1) 32 cs := by
  have := Blk.new (w.alloc (.cells #[.pointer (some ⟨g, 0, none⟩)] 156)) 32 cs
  rw [<- hW1]; simpa using this
 have hi := h.opened g1
 have HCl := hQ_ (fun (w2 : World) (s2 : WSt) (P : WP w0 E g (fun k => F k /\ k < w.heap.size) s2 W1 w2) => WP.closed (F := F) h g1 P)
 have HB := hQ_ (fun (V : World) (s' : WSt) (P : WP w0 E g (fun k => F k /\ k < w.heap.size) s' W1 V) => (show V.cell? ⟨w.heap.size, 0, none⟩ = some (.pointer (some ⟨g, 0, none⟩)) /\ V.cell? ⟨w.heap.size + 1, 0, none⟩ = some (.int .i64 b.e) /\ V.cell? ⟨w.heap.size + 1, 1, none⟩ = some (.int .i64 b.r) /\ V.rangeAt (w.heap.size + 1) 2 kd.toList /\ V.rangeAt (w.heap.size + 1) 18 qv.toList /\ V.cell? ⟨w.heap.size + 1, 37, none⟩ = some (.slice b.A b.T.length b.c) /\ V.cell? ⟨w.heap.size + 1, 38, none⟩ = some (.slice b.A2 b.V.length b.c2) from
  by
   have kw : Blk V w.heap.size 156 #[.pointer (some ⟨g, 0, none⟩)] := bw.kept P.fine (fun h => absurd h.2 (by omega))
   have bx : Blk V (w.heap.size + 1) 32 cs := bx.kept P.fine (fun h => absurd h.2 (by omega))
   exact ⟨by simpa using kw.cell 0, by have r := zd bx; have := r 0 (.int .i64 b.e) (by rw [hcl]; rfl); simpa using this, by have r := zd bx; have := r 1 (.int .i64 b.r) (by rw [hcl]; rfl); simpa using this, by have r := zd bx; rw [hcl] at r; have := zx r; simpa using this, by have r := zd bx; rw [hcl2] at r; have := zx r; rw [hl18] at this; simpa using this, by have r := zd bx; have := r 37 (.slice b.A b.T.length b.c) (by rw [hcl2, List.getElem?_append_right (by rw [hl18]; omega), hl18, List.getElem?_append_right (by simp [hqs])]; simp [hqs]); simpa using this, by have r := zd bx; have := r 38 (.slice b.A2 b.V.length b.c2) (by rw [hcl2, List.getElem?_append_right (by rw [hl18]; omega), hl18, List.getElem?_append_right (by simp [hqs])]; simp [hqs]); simpa using this⟩))
 have HP0 := hQ_ hi.same
 have HE := hQ_ he
 have HS := hQ_ hs
 have HW := hQ_ hW1
 clear h hi bw bx g1 hW1 hs he hcs hks hkd hcl hcl2 hqs hqv hl18 hb
 go_enter Tryz.func69, Tryz.ntmps69
 go_upto_region 1 with (fail)
 rw [HW.out]
 obtain ⟨k0, k1, k2, k3, k4, k5, k6⟩ := HB.out _ _ HP0.out
 clear k3 k4 k5 k6
 go_wp2_with fail
 refine (turn_st HE.out _ _ _ HP0.out.wi (Nat.le_trans HS.out (by omega)) b.e b.r).mono ?_
 rintro e V1 ⟨rfl, q0⟩
 have HP1 := hQ_ (HP0.out.trans q0)
 clear q0 k0 k1 k2
 have HS1 := hQ_ (show (sTurn b.e b.r s).2.length <= 710000 from by have h1 := zav b.e b.r s; have h2 := HS.out; omega)
 obtain ⟨k0, k1, k2, k3, k4, k5, k6⟩ := HB.out _ _ HP1.out
 clear k1 k2 k4 k5 k6
 have HR := hQ_ k3
 clear k3
 go_wp2_with (refine wpList_load_mid rfl 24 _ rfl (w.heap.size + 1) 2 rfl (kd.toList) _ HR.out Tryz.underlying24 rfl (by rw [Array.length_toList, H3.out.1]; exact sz_Dg) ?_; rw [Array.toArray_toList])
 refine (zcl HP1.out.wi (Nat.le_trans HS1.out (by omega)) b.P HQ.out.1 kd H3.out.2.1).mono ?_
 rintro e V2 ⟨rfl, q1⟩
 have HP2 := hQ_ (HP1.out.trans q1)
 clear q1 k0
 have HS2 := hQ_ (show (sDig b.P (sTurn b.e b.r s)).2.length <= 720000 from by have h1 := ym HQ.out.1.1 (sTurn b.e b.r s); have h2 := HS1.out; omega)
 obtain ⟨k0, k1, k2, k3, k4, k5, k6⟩ := HB.out _ _ HP2.out
 clear k1 k2 k3 k5 k6
 have HR := hQ_ k4
 clear k4
 go_wp2_with (refine wpList_load_mid rfl 29 _ rfl (w.heap.size + 1) 18 rfl (qv.toList) _ HR.out Tryz.underlying29 rfl (by rw [Array.length_toList, H3.out.2.2.1]; exact sz_QC) ?_; rw [Array.toArray_toList])
 refine (qc_st HE.out _ _ _ HP2.out.wi (Nat.le_trans HS2.out (by omega)) b.q HQ.out.2.1 qv H3.out.2.2.2).mono ?_
 rintro e V3 ⟨rfl, q2⟩
 have HP3 := hQ_ (HP2.out.trans q2)
 clear q2 k0
 have HS3 := hQ_ (show (sQc b.q (sDig b.P (sTurn b.e b.r s))).2.length <= 740000 from by have h1 := HQ.out.2.1.adds (sDig b.P (sTurn b.e b.r s)); have h2 := HS2.out; omega)
 obtain ⟨k0, k1, k2, k3, k4, k5, k6⟩ := HB.out _ _ HP3.out
 clear k1 k2 k3 k4 k6
 go_wp2_with fail
 refine (put_Tx HE.out _ _ _ HP3.out.wi (Nat.le_trans HS3.out (by omega)) b.A b.T.length b.c b.T rfl HQ.out.2.2.1.1 HQ.out.2.2.1.2 (fun x hx => (zdx x).mono (by omega)) 4).mono ?_
 rintro e V4 ⟨rfl, q3⟩
 have HP4 := hQ_ (HP3.out.trans q3)
 clear q3 k0 k5
 have HS4 := hQ_ (show (sPut b.T.length 4 (sAll sTx b.T) (sQc b.q (sDig b.P (sTurn b.e b.r s)))).2.length <= 750000 from by have h1 : (sPut b.T.length 4 (sAll sTx b.T) (sQc b.q (sDig b.P (sTurn b.e b.r s)))).2.length <= (sQc b.q (sDig b.P (sTurn b.e b.r s))).2.length + (1 + 4 * 18) := zax (m := 4) rfl (fun _ => u7 b.T fun x _ => zdx x) _; have h2 := HS3.out; omega)
 obtain ⟨k0, k1, k2, k3, k4, k5, k6⟩ := HB.out _ _ HP4.out
 clear k1 k2 k3 k4 k5
 go_wp2_with fail
 refine (put_Vd HE.out _ _ _ HP4.out.wi (Nat.le_trans HS4.out (by omega)) b.A2 b.V.length b.c2 b.V rfl HQ.out.2.2.2.1 HQ.out.2.2.2.2 (fun x hx => (ze9 (HQ.out.2.2.2.2 x hx).1).mono (by omega)) 7).mono ?_
 rintro e V5 ⟨rfl, q4⟩
 have HP5 := hQ_ (HP4.out.trans q4)
 clear q4 k0 k6
 go_wp2_with fail
 go_end0
 exact ⟨rfl, HCl.out _ _ HP5.out⟩
end
end
section
structure Vt where
 e : Int
 r : Int
 Bl : List Int
 s : Sg
structure To where
 e : Int
 r : Int
 h : Qc
 l : Tc
 s : Sg
structure Pp where
 b : Bk
 l : Tc
 s : Sg
structure Wt where
 f : List Int
 b : List Int
structure Cg where
 b1 : Bk
 b2 : Bk
 b3 : Bk
 q : Qc
structure Msg where
 kind : Int
 v : Vt
 t : To
 p : Pp
 w : Wt
 rb : Bk
 c : Cg
def Vt.val (x : Vt) : Array Value := #[.int .i64 x.e, .int .i64 x.r] ++ (arrV .u8 x.Bl ++ x.s.cells)
def To.val (x : To) : Array Value := #[.int .i64 x.e, .int .i64 x.r] ++ (x.h.val ++ (x.l.val ++ x.s.cells))
def Pp.val (x : Pp) : Array Value := x.b.val ++ (x.l.val ++ x.s.cells)
def Wt.val (x : Wt) : Array Value := arrV .u8 x.f ++ arrV .u8 x.b
def Cg.val (x : Cg) : Array Value := x.b1.val ++ (x.b2.val ++ (x.b3.val ++ x.q.val))
def Msg.val (m : Msg) : Array Value := #[.int .i64 m.kind] ++ (m.v.val ++ (m.t.val ++ (m.p.val ++ (m.w.val ++ (m.rb.val ++ m.c.val)))))
def Sg.At (w : World) (x : Sg) : Prop := DigRow w x.A1 x.n1 x.cs /\ DigRow w x.A2 x.n2 x.ps
def Vt.At (w : World) (x : Vt) : Prop := isDig x.Bl /\ x.s.At w
def To.At (w : World) (x : To) : Prop := x.h.At w /\ x.l.At w /\ x.s.At w
def Pp.At (w : World) (x : Pp) : Prop := x.b.At w /\ x.l.At w /\ x.s.At w
def Wt.At (x : Wt) : Prop := isDig x.f /\ isDig x.b
def Cg.At (w : World) (x : Cg) : Prop := x.b1.At w /\ x.b2.At w /\ x.b3.At w /\ x.q.At w
def Msg.At (w : World) (m : Msg) : Prop := m.v.At w /\ m.t.At w /\ m.p.At w /\ m.w.At /\ m.rb.At w /\ m.c.At w
theorem Qc.size {w : World} {q : Qc} (h : q.At w) : q.val.size = 19 := by simp [Qc.val, h.1.1]
theorem Tc.size (t : Tc) : t.val.size = 3 := rfl
theorem Sg.size4 (x : Sg) : x.cells.size = 4 := rfl
theorem Bk.size {w : World} {b : Bk} (h : b.At w) : b.val.size = 39 := by simp [Bk.val, Qc.val, h.1.1, h.2.1.1.1]
theorem Vt.size {w : World} {x : Vt} (h : x.At w) : x.val.size = 22 := by simp [Vt.val, h.1.1, Sg.size4]
theorem To.size {w : World} {x : To} (h : x.At w) : x.val.size = 28 := by simp [To.val, Qc.size h.1, Tc.size, Sg.size4]
theorem Pp.size {w : World} {x : Pp} (h : x.At w) : x.val.size = 46 := by simp [Pp.val, Bk.size h.1, Tc.size, Sg.size4]
theorem Wt.size {x : Wt} (h : x.At) : x.val.size = 32 := by simp [Wt.val, h.1.1, h.2.1]
theorem Cg.size {w : World} {x : Cg} (h : x.At w) : x.val.size = 136 := by simp [Cg.val, Bk.size h.1, Bk.size h.2.1, Bk.size h.2.2.1, Qc.size h.2.2.2]
theorem Msg.size {w : World} {m : Msg} (h : m.At w) : m.val.size = 304 := by simp [Msg.val, Vt.size h.1, To.size h.2.1, Pp.size h.2.2.1, Wt.size h.2.2.2.1, Bk.size h.2.2.2.2.1, Cg.size h.2.2.2.2.2]
theorem LtsOk.grown {w w' : World} {L : List Lt} (h : LtsOk w L) (hk : w.grownBy w' none) : LtsOk w' L := fun s hs => ⟨(h s hs).1.grown hk, (h s hs).2.grown hk⟩
theorem Qc.At.grown {w w' : World} {q : Qc} (h : q.At w) (hk : w.grownBy w' none) : q.At w' := ⟨h.1, h.2.1.grown hk, h.2.2.grown hk⟩
theorem Tc.At.grown {w w' : World} {t : Tc} (h : t.At w) (hk : w.grownBy w' none) : t.At w' := ⟨h.1.grown hk, h.2.grown hk⟩
theorem Sg.At.grown {w w' : World} {x : Sg} (h : x.At w) (hk : w.grownBy w' none) : x.At w' := ⟨h.1.grown hk, h.2.grown hk⟩
theorem Bk.At.grown {w w' : World} {b : Bk} (h : b.At w) (hk : w.grownBy w' none) : b.At w' := by
 obtain ⟨h1, h2, ⟨h5, h6⟩, h7, h8⟩ := h
 exact ⟨h1, h2.grown hk, ⟨h5.grown hk, fun t ht => (h6 t ht).grown hk fun _ _ => by simp⟩, h7.grown hk, h8⟩
theorem Vt.At.grown {w w' : World} {x : Vt} (h : x.At w) (hk : w.grownBy w' none) : x.At w' := ⟨h.1, h.2.grown hk⟩
theorem To.At.grown {w w' : World} {x : To} (h : x.At w) (hk : w.grownBy w' none) : x.At w' := ⟨h.1.grown hk, h.2.1.grown hk, h.2.2.grown hk⟩
theorem Pp.At.grown {w w' : World} {x : Pp} (h : x.At w) (hk : w.grownBy w' none) : x.At w' := ⟨h.1.grown hk, h.2.1.grown hk, h.2.2.grown hk⟩
theorem Cg.At.grown {w w' : World} {x : Cg} (h : x.At w) (hk : w.grownBy w' none) : x.At w' := ⟨h.1.grown hk, h.2.1.grown hk, h.2.2.1.grown hk, h.2.2.2.grown hk⟩
theorem Msg.At.grown {w w' : World} {m : Msg} (h : m.At w) (hk : w.grownBy w' none) : m.At w' := ⟨h.1.grown hk, h.2.1.grown hk, h.2.2.1.grown hk, h.2.2.2.1, h.2.2.2.2.1.grown hk, h.2.2.2.2.2.grown hk⟩
def sVt (x : Vt) (s : WSt) : WSt := sSg x.s (sDig x.Bl (sTurn x.e x.r s))
def sTo (x : To) (s : WSt) : WSt := sSg x.s (sTc x.l (sQc x.h (sTurn x.e x.r s)))
def sPp (x : Pp) (s : WSt) : WSt := sSg x.s (sTc x.l (sBk x.b s))
def sWt (x : Wt) (s : WSt) : WSt := sDig x.b (sDig x.f s)
def sCg (x : Cg) (s : WSt) : WSt := sQc x.q (sBk x.b3 (sBk x.b2 (sBk x.b1 s)))
def sKind (m : Msg) (s : WSt) : WSt := if m.kind = 1 then sVt m.v s else if m.kind = 2 then sTo m.t s else if m.kind = 3 then sPp m.p s else if m.kind = 4 then sWt m.w s else if m.kind = 5 then sBk m.rb s else if m.kind = 6 then sCg m.c s else s
def sMsg (m : Msg) (s : WSt) : WSt := sKind m (sNum m.kind 1 s)
theorem Sg.At.dig {w : World} {x : Sg} (h : x.At w) : sgDig x := ⟨h.1.sixteen, h.2.sixteen⟩
theorem Tc.At.adds {w : World} {t : Tc} (h : t.At w) : Adds 8257 (sTc t) := adds_tc fun x hx => ⟨(h.2 x hx).1.sixteen, (h.2 x hx).2.sixteen⟩
theorem Vt.At.adds {w : World} {x : Vt} (h : x.At w) : Adds 40000 (sVt x) := (((zav x.e x.r).comp (ym h.1.1)).comp (zc2 h.2.dig)).mono (by omega)
theorem To.At.adds {w : World} {x : To} (h : x.At w) : Adds 40000 (sTo x) := ((((zav x.e x.r).comp h.1.adds).comp h.2.1.adds).comp (zc2 h.2.2.dig)).mono (by omega)
theorem Pp.At.adds {w : World} {x : Pp} (h : x.At w) : Adds 40000 (sPp x) := ((h.1.adds.comp h.2.1.adds).comp (zc2 h.2.2.dig)).mono (by omega)
theorem Wt.At.adds {x : Wt} (h : x.At) : Adds 40000 (sWt x) := ((ym h.1.1).comp (ym h.2.1)).mono (by omega)
theorem Cg.At.adds {w : World} {x : Cg} (h : x.At w) : Adds 40000 (sCg x) := (((h.1.adds.comp h.2.1.adds).comp h.2.2.1.adds).comp h.2.2.2.adds).mono (by omega)
theorem Msg.At.adds {w : World} {m : Msg} (h : m.At w) : Adds 40001 (sMsg m) := by
 refine ((yl m.kind 1).comp (d := 40000) (g := sKind m) fun s => ?_).mono (by omega)
 unfold sKind
 split
 · exact h.1.adds s
 split
 · exact h.2.1.adds s
 split
 · exact h.2.2.1.adds s
 split
 · exact h.2.2.2.1.adds s
 split
 · exact h.2.2.2.2.1.adds.mono (by omega) s
 split
 · exact h.2.2.2.2.2.adds s
 · omega
end
section
def WOut (w w' : World) (E : Nat -> Addr) (s : WSt) (e : Ending) : Prop :=
 w.grownBy w' none /\ ((s.1 = 0 /\ ∃ A c, e = .returned (.tuple #[.slice A s.2.length c, .nilIface]) /\ w'.ownsRow w.heap.size 5 1 (.slice A s.2.length c) s.2.length (Lib.byteCells s.2)) \/
  (s.1 ≠ 0 /\ e = .returned (.tuple #[.slice none 0 0, evOf E s.1])))
theorem wr_build (w : World) (g : Nat) : Sem.run Tryz.prog (Instr.build 156 #[(0, .pointer (some ⟨g, 0, none⟩))]) w = .ok (.agg #[.pointer (some ⟨g, 0, none⟩)]) w := by
 refine run_build w 156 _ _ ?_
 kernel_rfl
theorem wr_zero (w : World) : Sem.run Tryz.prog (zeroValue 156) w = .ok (.agg #[.pointer none]) w := vu w (by kernel_rfl)
end
end Go.Proofs.YtigafnbofmiknaaGreatDoor
