/-
  Several texts in one: CdL, CdEDg, CdS, CdESg.
-/
import Derived.Test.YtmoebkdbnldbdaaGreatDoorM20pb
import Derived.Test.YtmoebkdbnldbdaaGreatDoorM20pk
import Derived.Deep.DeepCutAuto
/-
  What the lists that are written share: older memory stays, sizes and zero values of the elements.
-/
namespace Go.Proofs.YtmoebkdbnldbdaaGreatDoor
open Go.RowKit

theorem range_low {w0 w : World} {b o : Nat} {cs : List Value} (k : Kept (newF w0) w0 w) (h : w0.rangeAt b o cs) : w.rangeAt b o cs := fun j v hv => k.cell (h j v hv) (by
  have := World.block_lt_of_cell? w0 _ (h j v hv)
  show ¬ w0.heap.size ≤ b
  simp only at this
  omega)
theorem range_blk0 {w : World} {g : Nat} {t : TypeId} {cs : Array Value} (h : Blk w g t cs) : w.rangeAt g 0 cs.toList := fun j v hv => by
  rw [Nat.zero_add, h.cell, ← Array.getElem?_toList]; exact hv
theorem long_cases0 {m : Nat} {most : Int} (h : most < (m : Int) ∨ 255 < m) : decide (most < (m : Int)) = true ∨ (decide (most < (m : Int)) = false ∧ decide ((255 : Int) < (m : Int)) = true) := by
  by_cases h1 : most < (m : Int)
  · exact .inl (by simpa using h1)
  · exact .inr ⟨by simpa using h1, by simp; omega⟩
section
variable {w0 w w1 w2 : World} {E : Nat → Addr} {g : Nat} {F : Nat → Prop} {s s' : WSt}
theorem nn_alloc {o : Obj} {j a : Nat} (h : ¬ upTo F a w.heap.size j) (hj : j < a) (ha : a ≤ w.heap.size) : ¬ upTo (upTo F a w.heap.size) w.heap.size (w.alloc o).heap.size j := fun hu => by
  rcases hu with hu | hu
  · exact h hu
  · omega
theorem drew_first (h : WI w0 E g F s w) (k : WP w0 E g F s' w.drew w1) : WP w0 E g F s' w w1 := ⟨k.wi, (Kept.refl F w).drew.follow k.fine fun _ _ h => h⟩
theorem WP.trans' (h : WP w0 E g F s w w1) (k : WP w0 E g (upTo F w.heap.size w1.heap.size) s' w1 w2) : WP w0 E g F s' w w2 := h.trans k
end
theorem sz_Dg : (Tryz.prog.info? 24).map (·.size) = some 16 := by kernel_rfl
theorem cz_Dg {x : List Int} (h : isDig x) : (dgV x).toArray.size = 16 := by rw [List.size_toArray, dgV_length, h.1]
theorem c1_Dg (x : List Int) : ((dgV x).toArray.all fun v => v.oneCell') = true := by rw [dgV_arr]; exact arr_one _ _
def zv_Dg : Array Value := arrV .u8 (List.replicate 16 0)
theorem zz_Dg (w : World) : Sem.run Tryz.prog (zeroValue 24) w = .ok (.agg zv_Dg) w := z16run w
theorem sz_Sg : (Tryz.prog.info? 136).map (·.size) = some 4 := by kernel_rfl
theorem cz_Sg {x : Sg} {P : Prop} (_ : P) : (x.cells.toList).toArray.size = 4 := by rw [Array.toArray_toList]; rfl
theorem c1_Sg (x : Sg) : ((x.cells.toList).toArray.all fun v => v.oneCell') = true := by rw [Array.toArray_toList]; exact sg_one x
def zv_Sg : Array Value := #[.int .i64 0, .int .i64 0, .slice none 0 0, .slice none 0 0]
theorem zz_Sg (w : World) : Sem.run Tryz.prog (zeroValue 136) w = .ok (.agg zv_Sg) w := zero_run3 w (by kernel_rfl)
theorem sz_Vd : (Tryz.prog.info? 41).map (·.size) = some 17 := by kernel_rfl
theorem cz_Vd {x : Vd} (h : isDig x.key) : x.cells.toArray.size = 17 := by rw [List.size_toArray, Vd.cells_length h.1]
theorem c1_Vd (x : Vd) : (x.cells.toArray.all fun v => v.oneCell') = true := by simp [Vd.cells, Value.oneCell']
def zv_Vd : Array Value := (List.replicate 16 (Value.int .u8 0) ++ [Value.int .i64 0]).toArray
theorem zz_Vd (w : World) : Sem.run Tryz.prog (zeroValue 41) w = .ok (.agg zv_Vd) w := zero_run3 w (by kernel_rfl)
end Go.Proofs.YtmoebkdbnldbdaaGreatDoor
/-
  Lists that are written: of quorate/api.Digest.
-/
namespace Go.Proofs.YtmoebkdbnldbdaaGreatDoor
open Go.RowKit

theorem enter_Dg (args : Array Value) (w : World) : (callFunc 123 args).run Tryz.prog w = .ok (.enter 123 args) w := by kernel_rfl
section
variable {w0 : World} {E : Nat → Addr} {g : Nat} (he : ErrAt w0 w0.heap.size 1 (E 0))
include he
set_option maxRecDepth 100000 in
set_option maxHeartbeats 1000000 in
theorem pcl_Dg (w : World) (F : Nat → Prop) (s : WSt) (h : WI w0 E g F s w) (hs : s.2.length ≤ 3500000) (x : List Int) (hx : isDig x) (cs : Array Value) (hcs : cs = (dgV x).toArray) (b1 b2 : Nat)
    (h4 : w.cell? ⟨b1, 0, none⟩ = some (.func (.func 61) #[] #[])) (h5 : w.cell? ⟨b2, 0, none⟩ = some (.pointer (some ⟨g, 0, none⟩))) :
    Calls Tryz.prog 118 #[.pointer (some ⟨g, 0, none⟩), .agg cs, .pointer (some ⟨b1, 0, none⟩), .pointer (some ⟨b2, 0, none⟩)] w fun e w' => e = .returned (.tuple #[]) ∧ WP w0 E g F (sDig x s) w w' := by
  obtain ⟨W1, hW1⟩ : ∃ W1, w.alloc (.cells cs 24) = W1 := ⟨_, rfl⟩
  have g1 : w.grownBy W1 none := by rw [← hW1]; exact World.grownBy_alloc _ _ none
  have bx : Blk W1 w.heap.size 24 cs := by rw [← hW1]; exact Blk.new w _ _
  have c1 := g1.cell h4 (by simp)
  have c2 := g1.cell h5 (by simp)
  have hcz : cs.size = 16 := by rw [hcs]; exact cz_Dg hx
  have P1 := h.grown g1
  have H := Lib.hid (el_Dg he P1.wi hs x hx cs hcs)
  have HX := Lib.hid (And.intro hcz (range_blk0 bx))
  have HP := Lib.hid P1
  have HW := Lib.hid hW1
  clear h hx hs hcs P1 bx hcz g1 hW1 h4 h5
  go_enter Tryz.func118, Tryz.ntmps118
  go_upto_region 1 with (fail)
  rw [HW.out]
  go_wp2_with (refine wpList_load_mid rfl 24 _ rfl w.heap.size 0 rfl cs.toList _ HX.out.2 Tryz.underlying24 rfl (by rw [Array.length_toList, HX.out.1]; exact sz_Dg) ?_; rw [Array.toArray_toList])
  refine H.out.mono ?_
  rintro e w1 ⟨rfl, h1⟩
  have H1 := Lib.hid h1
  clear h1
  go_wp2_with fail
  go_end0
  exact ⟨rfl, HP.out.trans H1.out⟩

set_option maxRecDepth 100000 in
set_option maxHeartbeats 1000000 in
theorem ploop_Dg (w : World) (F : Nat → Prop) (s : WSt) (h : WI w0 E g F s w) (hs : s.2.length ≤ 3100000) (lb ob wb b1 b2 : Nat) (A : Option Addr) (n c : Nat) (L : List (List Int)) (hn : L.length = n) (hL : n ≤ 255) (hA : RowAt w0 A dgV 16 L) (hok : ∀ x ∈ L, isDig x) (had : ∀ x ∈ L, Adds 1200 (sDig x))
    (h1 : w.cell? ⟨lb, 0, none⟩ = some (.slice A n c)) (h2 : w.cell? ⟨ob, 0, none⟩ = some (.func (.func 118) #[] #[.pointer (some ⟨b1, 0, none⟩), .pointer (some ⟨b2, 0, none⟩)])) (h3 : w.cell? ⟨wb, 0, none⟩ = some (.pointer (some ⟨g, 0, none⟩)))
    (h4 : w.cell? ⟨b1, 0, none⟩ = some (.func (.func 61) #[] #[])) (h5 : w.cell? ⟨b2, 0, none⟩ = some (.pointer (some ⟨g, 0, none⟩)))
    (n2 : ¬ F ob) (n3 : ¬ F wb) (n4 : ¬ F b1) (n5 : ¬ F b2) :
    Calls Tryz.prog 123 #[.pointer (some ⟨lb, 0, none⟩), .pointer (some ⟨ob, 0, none⟩), .pointer (some ⟨wb, 0, none⟩)] w fun e w' => e = .returned (.tuple #[]) ∧ WP w0 E g F (sAll sDig L s) w w' := by
  have hzz := zz_Dg
  obtain ⟨ZZ, hZZ⟩ : ∃ Z, zv_Dg = Z := ⟨_, rfl⟩
  rw [hZZ] at hzz
  have HZZ := Lib.hid (show 16 = ZZ.size by rw [← hZZ]; rfl)
  clear hZZ
  have HH := Lib.hid (And.intro h (And.intro hs (And.intro hn (And.intro hA (And.intro hok had)))))
  have HC := Lib.hid (And.intro h2 (And.intro h3 (And.intro h4 h5)))
  have HN := Lib.hid (And.intro n2 (And.intro n3 (And.intro n4 n5)))
  have HE := Lib.hid he
  clear h hs hn hA hok had h2 h3 h4 h5 n2 n3 n4 n5 he
  go_enter Tryz.func123, Tryz.ntmps123
  go_wp2_with fail
  clear h1
  go_loopw [7] (fun i wr => ∃ k : Nat, k ≤ n ∧ i = .int .i64 (k : Int) ∧ WP w0 E g F (sAll sDig (L.take k) s) w wr) (fun i _ => n - (intOf i).toNat)
  case atStart => exact ⟨0, Nat.zero_le _, rfl, by simpa [sAll] using HH.out.1.same⟩
  case round =>
    obtain ⟨k, hk, hi, hP⟩ := hrel
    obtain ⟨I, hI⟩ : ∃ I : Int, I = (k : Int) := ⟨_, rfl⟩
    rw [← hI] at hi
    subst hi
    rename World => wr
    by_cases hlt : k < n
    · have hlt' : k < L.length := by have := HH.out.2.2.1; omega
      have hne : L ≠ [] := by rintro rfl; simp at hlt'
      obtain ⟨b, off, rfl, hc⟩ := HH.out.2.2.2.1 hne
      have d2 : decide (I < (n : Int)) = true := by simp; omega
      have hIV : I < (n : Int) := by omega
      have hI0 : 0 ≤ I ∧ I < 1000 := by omega
      have hkI : I.toNat = k := by omega
      have r1 := range_low hP.wi.kept (hc k hlt')
      obtain ⟨x, hxe⟩ : ∃ x, x = L[k] := ⟨_, rfl⟩
      have hxm : x ∈ L := by rw [hxe]; exact List.getElem_mem hlt'
      rw [← hxe] at r1
      rw [← hkI] at r1
      have c2 := hP.fine.cell HC.out.1 HN.out.1
      have c3 := hP.fine.cell HC.out.2.1 HN.out.2.1
      have c4 := hP.fine.cell HC.out.2.2.1 HN.out.2.2.1
      have c5 := hP.fine.cell HC.out.2.2.2 HN.out.2.2.2
      have hlen : (sAll sDig (L.take k) s).2.length ≤ 3500000 := by
        have h1 := adds_all (f := sDig) (c := 1200) (L.take k) (fun y hy => HH.out.2.2.2.2.2 y (List.mem_of_mem_take hy)) s
        have h2 := HH.out.2.1
        have h3 : (L.take k).length * 1200 ≤ 255 * 1200 := Nat.mul_le_mul_right 1200 (by rw [List.length_take]; omega)
        omega
      have htake : sAll sDig (L.take (k + 1)) s = sDig x (sAll sDig (L.take k) s) := by rw [List.take_succ_eq_append_getElem hlt', ← hxe, sAll_snoc]
      obtain ⟨cs, hcs⟩ : ∃ cs, cs = (dgV x).toArray := ⟨_, rfl⟩
      have hcz : cs.size = 16 := by rw [hcs]; exact cz_Dg (HH.out.2.2.2.2.1 x hxm)
      have hc1 : (cs.all fun v => v.oneCell') = true := by rw [hcs]; exact c1_Dg x
      have r2 : wr.rangeAt b (off + I.toNat * 16) cs.toList := by rw [hcs]; exact r1
      obtain ⟨W0, hW0⟩ : ∃ W0, W0 = (wr.alloc (.cells ZZ 24)).setRow wr.heap.size cs := ⟨_, rfl⟩
      have hG0 : wr.grownBy W0 none := by rw [hW0]; exact grown_row (World.grownBy_alloc wr _ none) (.inl (Nat.le_refl _)) cs
      have bS : Blk W0 wr.heap.size 24 cs := by rw [hW0]; exact (Blk.new wr 24 ZZ).row cs
      have e2 := hG0.cell c2 (by simp)
      have e3 := hG0.cell c3 (by simp)
      have P0 := hP.wi.grown hG0
      have HS := Lib.hid (pcl_Dg HE.out W0 _ _ P0.wi hlen x (HH.out.2.2.2.2.1 x hxm) cs hcs b1 b2 (hG0.cell c4 (by simp)) (hG0.cell c5 (by simp)))
      have HP := Lib.hid (And.intro (And.intro hP P0) (And.intro htake (And.intro hI hlt')))
      have HX := Lib.hid (And.intro hcz (And.intro hc1 (And.intro r2 (range_blk0 bS))))
      have HW := Lib.hid hW0
      clear hP P0 hcz hc1 r1 r2 hW0 hG0 bS hcs c2 c3 c4 c5 hxm hxe htake hlen hc hne hkI hI hlt'
      go_wp2_with (first
        | (refine wpList_load_mid rfl 24 _ rfl b (off + I.toNat * 16) rfl cs.toList _ HX.out.2.2.1 Tryz.underlying24 rfl (by rw [Array.length_toList, HX.out.1]; exact sz_Dg) ?_; rw [Array.toArray_toList])
        | (refine wpList_store_row rfl 24 _ _ rfl wr.heap.size cs rfl rfl 24 _ (heap_alloc_new wr _) (by rw [HX.out.1]; exact sz_Dg) (by rw [HX.out.1]; first | exact HZZ.out | exact HZZ.out.symm) HX.out.2.1 ?_
           rw [← HW.out])
        | (refine wpList_load_mid rfl 24 _ rfl wr.heap.size 0 rfl cs.toList _ HX.out.2.2.2 Tryz.underlying24 rfl (by rw [Array.length_toList, HX.out.1]; exact sz_Dg) ?_; rw [Array.toArray_toList]))
      refine HS.out.mono ?_
      rintro e3 W3 ⟨rfl, h3⟩
      have H3 := Lib.hid h3
      clear h3
      go_wp2_with fail
      go_roundw
      case rel => exact ⟨k + 1, by omega, by rw [HP.out.2.2.1]; rfl, by rw [HP.out.2.1]; exact HP.out.1.1.trans (HP.out.1.2.trans H3.out)⟩
      case measure => have := HP.out.2.2.1; simp [intOf]; omega
    · have d2 : decide (I < (n : Int)) = false := by simp; omega
      have hf : L.take k = L := List.take_of_length_le (by have := HH.out.2.2.1; omega)
      rw [hf] at hP
      have HP := Lib.hid hP
      clear hP hf hlt hI hk
      go_wp2_with fail
      go_end0
      exact ⟨rfl, HP.out⟩

/-- wire.Put. -/
theorem wput_Dg (w : World) (F : Nat → Prop) (s : WSt) (h : WI w0 E g F s w) (hs : s.2.length ≤ 3000000) (b1 b2 : Nat) (A : Option Addr) (n c : Nat) (L : List (List Int)) (hn : L.length = n) (hA : RowAt w0 A dgV 16 L) (hok : ∀ x ∈ L, isDig x) (had : ∀ x ∈ L, Adds 1200 (sDig x)) (most : Int)
    (h4 : w.cell? ⟨b1, 0, none⟩ = some (.func (.func 61) #[] #[])) (h5 : w.cell? ⟨b2, 0, none⟩ = some (.pointer (some ⟨g, 0, none⟩))) (n4 : ¬ F b1) (n5 : ¬ F b2) :
    Calls Tryz.prog 117 #[.pointer (some ⟨g, 0, none⟩), .slice A n c, .int .i64 most, .func (.func 118) #[] #[.pointer (some ⟨b1, 0, none⟩), .pointer (some ⟨b2, 0, none⟩)]] w fun e w' => e = .returned (.tuple #[]) ∧ WP w0 E g F (sPut n most (sAll sDig L) s) w w' := by
  have hmf : ∀ (fn : Fn) (first cap : Array Value) (w : World), (Instr.makeFunc fn first cap).run Tryz.prog w = .ok (.func fn first cap) w := fun _ _ _ _ => rfl
  obtain ⟨W1, hW1⟩ : ∃ W1, ((w.alloc (.cells #[.pointer (some ⟨g, 0, none⟩)] 116)).alloc (.cells #[.slice A n c] 132)).alloc (.cells #[.func (.func 118) #[] #[.pointer (some ⟨b1, 0, none⟩), .pointer (some ⟨b2, 0, none⟩)]] 203) = W1 := ⟨_, rfl⟩
  have z1 : W1.heap.size = w.heap.size + 3 := by rw [← hW1]; simp
  have g1 : w.grownBy W1 none := by rw [← hW1]; exact grown_trans (grown_trans (World.grownBy_alloc _ _ none) (World.grownBy_alloc _ _ none)) (World.grownBy_alloc _ _ none)
  have d1 : W1.cell? ⟨w.heap.size, 0, none⟩ = some (.pointer (some ⟨g, 0, none⟩)) := by rw [← hW1]; exact (((Blk.new w 116 #[.pointer (some ⟨g, 0, none⟩)]).alloc _).alloc _).cell 0
  have d2 : W1.cell? ⟨w.heap.size + 1, 0, none⟩ = some (.slice A n c) := by
    have h := ((Blk.new (w.alloc (.cells #[.pointer (some ⟨g, 0, none⟩)] 116)) 132 #[.slice A n c]).alloc (.cells #[.func (.func 118) #[] #[.pointer (some ⟨b1, 0, none⟩), .pointer (some ⟨b2, 0, none⟩)]] 203)).cell 0
    rw [← hW1]; simpa using h
  have d3 : W1.cell? ⟨w.heap.size + 1 + 1, 0, none⟩ = some (.func (.func 118) #[] #[.pointer (some ⟨b1, 0, none⟩), .pointer (some ⟨b2, 0, none⟩)]) := by
    have h := (Blk.new ((w.alloc (.cells #[.pointer (some ⟨g, 0, none⟩)] 116)).alloc (.cells #[.slice A n c] 132)) 203 #[.func (.func 118) #[] #[.pointer (some ⟨b1, 0, none⟩), .pointer (some ⟨b2, 0, none⟩)]]).cell 0
    rw [← hW1]; simpa using h
  have hi := h.opened g1
  have d4 := g1.cell h4 (by simp)
  have d5 := g1.cell h5 (by simp)
  have hr := (hi.err he (Nat.le_refl _)).1
  obtain ⟨F0, hF0⟩ : ∃ F0 : Nat → Prop, F0 = fun k => F k ∧ k < w.heap.size := ⟨_, rfl⟩
  rw [← hF0] at hi
  have m1 : ¬ F0 w.heap.size := by rw [hF0]; intro h; exact absurd h.2 (by omega)
  have m2 : ¬ F0 (w.heap.size + 1) := by rw [hF0]; intro h; exact absurd h.2 (by omega)
  have m3 : ¬ F0 (w.heap.size + 1 + 1) := by rw [hF0]; intro h; exact absurd h.2 (by omega)
  have m4 : ¬ F0 b1 := by rw [hF0]; intro h; exact n4 h.1
  have m5 : ¬ F0 b2 := by rw [hF0]; intro h; exact n5 h.1
  have hlt : ∀ (a : Addr) (v : Value), W1.cell? a = some v → a.block < W1.heap.size := fun _ _ h => World.block_lt_of_cell? W1 _ h
  have HCl := Lib.hid (fun w2 s2 (P : WP w0 E g F0 s2 W1 w2) => WP.closed (F := F) h g1 (hF0 ▸ P))
  have HI := Lib.hid (And.intro hi (And.intro he (And.intro hs (And.intro hn (And.intro hA (And.intro hok had))))))
  have HD := Lib.hid (And.intro d3 (And.intro d4 (And.intro d5 (And.intro True.intro (And.intro m1 (And.intro m2 (And.intro m3 (And.intro m4 m5))))))))
  have HW := Lib.hid hW1
  have HZ := Lib.hid z1
  have HL := Lib.hid hlt
  by_cases hlong : most < (n : Int) ∨ 255 < n
  · have hsp : sPut n most (sAll sDig L) s = sFail 1 s := by rw [sPut, if_pos hlong]
    rw [hsp]
    clear h hs hn hA hok had h4 h5 n4 n5 he hi d3 d4 d5 m1 m2 m3 m4 m5 hF0 hW1 z1 g1 hsp hlt
    rcases long_cases0 hlong with a1 | ⟨a1, a2⟩
    all_goals
      clear hlong
      go_enter Tryz.func117, Tryz.ntmps117
      go_upto_region 1 with (fail)
      rw [HW.out]
      go_wp2_with fail
      go_region_with (go_at_call 91; refine (fail_st HI.out.1.drew 0).mono ?_; rintro e w1 ⟨rfl, q⟩; replace q := Lib.hid q)
      all_goals
        go_wp2
        first | go_end0 | refine bodyPost_ret (results_none rfl _ _ _) rfl ?_
        refine ⟨rfl, HCl.out _ _ ?_⟩
        exact drew_first HI.out.1 q.out
  · have hsp : sPut n most (sAll sDig L) s = sAll sDig L (sNum (n : Int) 1 s) := by rw [sPut, if_neg hlong]
    rw [hsp]
    have a1 : decide (most < (n : Int)) = false := by simp; omega
    have a2 : decide ((255 : Int) < (n : Int)) = false := by simp; omega
    have hn255 : n ≤ 255 := by omega
    clear h hs hn hA hok had h4 h5 n4 n5 he hi d3 d4 d5 m1 m2 m3 m4 m5 hF0 hW1 z1 g1 hsp hlt hr hlong
    go_enter Tryz.func117, Tryz.ntmps117
    go_upto_region 1 with (fail)
    rw [HW.out]
    go_wp2_with fail
    obtain ⟨hi, he, hs, hn, hA, hok, had⟩ := HI.out
    obtain ⟨d3, d4, d5, _, m1, m2, m3, m4, m5⟩ := HD.out
    refine (number_st he hi (by omega) (n : Int) 1).mono ?_
    rintro e w2 ⟨rfl, P2⟩
    have e1 := P2.fine.cell d1 m1
    have e2 := P2.fine.cell d2 m2
    have e3 := P2.fine.cell d3 m3
    have e4 := P2.fine.cell d4 m4
    have e5 := P2.fine.cell d5 m5
    have nn : ∀ j, ¬ F0 j → j < W1.heap.size → ¬ upTo F0 W1.heap.size w2.heap.size j := fun j hj hl hu => by
      rcases hu with hu | hu
      · exact hj hu
      · omega
    have hle : (sNum (n : Int) 1 s).2.length ≤ 3100000 := by
      have := adds_num (n : Int) 1 s
      have h4 : sNum (n : Int) 1 s = sNum (n : Int) ((1 : Nat) : Int) s := rfl
      rw [h4]; omega
    have PA := P2.alloc (.cells #[.pointer (some ⟨g, 0, none⟩)] 192)
    have ga : w2.grownBy (w2.alloc (.cells #[.pointer (some ⟨g, 0, none⟩)] 192)) none := World.grownBy_alloc _ _ none
    have q2 := P2.wi.grown ga
    have HQ := Lib.hid (ploop_Dg he (w2.alloc (.cells #[.pointer (some ⟨g, 0, none⟩)] 192)) _ _ q2.wi hle (w.heap.size + 1) (w.heap.size + 1 + 1) w.heap.size b1 b2 A n c L hn hn255 hA hok had (ga.cell e2 (by simp)) (ga.cell e3 (by simp)) (ga.cell e1 (by simp)) (ga.cell e4 (by simp)) (ga.cell e5 (by simp))
      (nn_alloc (nn _ m3 (HL.out _ _ d3)) (HL.out _ _ d3) P2.fine.size) (nn_alloc (nn _ m1 (HL.out _ _ d1)) (HL.out _ _ d1) P2.fine.size) (nn_alloc (nn _ m4 (HL.out _ _ d4)) (HL.out _ _ d4) P2.fine.size) (nn_alloc (nn _ m5 (HL.out _ _ d5)) (HL.out _ _ d5) P2.fine.size))
    have HP := Lib.hid (And.intro P2 q2)
    have e1' := e1
    clear hi he hs hn hA hok had d3 d4 d5 m1 m2 m3 m4 m5 P2 PA e2 e3 e4 e5 nn hle q2 ga d2 d1
    go_wp2_with fail
    refine (attempt_ok0 ⟨g, 0, none⟩ 123 _ w2 _ enter_Dg HQ.out).mono ?_
    rintro e w4 ⟨rfl, h4⟩
    have H4 := Lib.hid h4
    clear h4
    go_wp2_with fail
    go_end0
    exact ⟨rfl, HCl.out _ _ (HP.out.1.trans (HP.out.2.trans H4.out))⟩

/-- codec.put. -/
theorem put_Dg (w : World) (F : Nat → Prop) (s : WSt) (h : WI w0 E g F s w) (hs : s.2.length ≤ 3000000) (A : Option Addr) (n c : Nat) (L : List (List Int)) (hn : L.length = n) (hA : RowAt w0 A dgV 16 L) (hok : ∀ x ∈ L, isDig x) (had : ∀ x ∈ L, Adds 1200 (sDig x)) (most : Int) :
    Calls Tryz.prog 106 #[.agg #[.pointer (some ⟨g, 0, none⟩)], .slice A n c, .int .i64 most, .func (.func 61) #[] #[]] w fun e w' => e = .returned (.tuple #[]) ∧ WP w0 E g F (sPut n most (sAll sDig L) s) w w' := by
  have hmf : ∀ (fn : Fn) (first cap : Array Value) (w : World), (Instr.makeFunc fn first cap).run Tryz.prog w = .ok (.func fn first cap) w := fun _ _ _ _ => rfl
  obtain ⟨W1, hW1⟩ : ∃ W1, (w.alloc (.cells #[.pointer (some ⟨g, 0, none⟩)] 118)).alloc (.cells #[.func (.func 61) #[] #[]] 194) = W1 := ⟨_, rfl⟩
  have g1 : w.grownBy W1 none := by rw [← hW1]; exact grown_trans (World.grownBy_alloc _ _ none) (World.grownBy_alloc _ _ none)
  have d1 : W1.cell? ⟨w.heap.size, 0, none⟩ = some (.pointer (some ⟨g, 0, none⟩)) := by rw [← hW1]; exact ((Blk.new w 118 #[.pointer (some ⟨g, 0, none⟩)]).alloc _).cell 0
  have d2 : W1.cell? ⟨w.heap.size + 1, 0, none⟩ = some (.func (.func 61) #[] #[]) := by
    have h := (Blk.new (w.alloc (.cells #[.pointer (some ⟨g, 0, none⟩)] 118)) 194 #[.func (.func 61) #[] #[]]).cell 0
    rw [World.size_alloc, hW1] at h
    exact h
  have hi := h.opened g1
  have HQ := Lib.hid (wput_Dg he W1 _ s hi hs (w.heap.size + 1) w.heap.size A n c L hn hA hok had most d2 d1 (fun h => absurd h.2 (by omega)) (fun h => absurd h.2 (by omega)))
  have HCl := Lib.hid (fun w2 s2 (P : WP w0 E g (fun k => F k ∧ k < w.heap.size) s2 W1 w2) => WP.closed (F := F) h g1 P)
  have HW := Lib.hid hW1
  clear h hs hn hA hok had he hi hW1 g1 d2
  go_enter Tryz.func106, Tryz.ntmps106
  go_upto_region 1 with (fail)
  rw [HW.out]
  go_wp2_with fail
  refine HQ.out.mono ?_
  rintro e w4 ⟨rfl, h4⟩
  have H4 := Lib.hid h4
  clear h4
  go_wp2_with fail
  go_end0
  exact ⟨rfl, HCl.out _ _ H4.out⟩
end
end Go.Proofs.YtmoebkdbnldbdaaGreatDoor
/-
  A signature that is written, and who signed.
-/
namespace Go.Proofs.YtmoebkdbnldbdaaGreatDoor
open Go.RowKit

theorem sz_Sig : (Tryz.prog.info? 134).map (·.size) = some 3 := by kernel_rfl
section
variable {w0 : World} {E : Nat → Addr} {g : Nat} (he : ErrAt w0 w0.heap.size 1 (E 0))
include he
set_option maxRecDepth 100000 in
set_option maxHeartbeats 1000000 in
theorem sig_st (w : World) (F : Nat → Prop) (s : WSt) (h : WI w0 E g F s w) (hs : s.2.length ≤ 2100000) (lf : Int) (A1 A2 : Option Addr) (n1 c1 n2 c2 : Nat) (cs ps : List (List Int)) (hC : DigRow w0 A1 n1 cs) (hP : DigRow w0 A2 n2 ps) (sv : Array Value) (hsv : sv = sigV lf (.slice A1 n1 c1) (.slice A2 n2 c2)) :
    Calls Tryz.prog 95 #[.agg #[.pointer (some ⟨g, 0, none⟩)], .agg sv] w fun e w' => e = .returned (.tuple #[]) ∧ WP w0 E g F (sSig lf cs ps s) w w' := by
  subst hsv
  unfold sigV
  have e1 : sSig lf cs ps s = sPut n2 5 (sAll sDig ps) (sPut n1 68 (sAll sDig cs) (sNum lf 1 s)) := by rw [sSig, hC.1, hP.1]
  rw [e1]
  have HD := Lib.hid (And.intro hC hP)
  clear e1 hC hP
  obtain ⟨W1, hW1⟩ : ∃ W1, ((w.alloc (.cells #[.pointer (some ⟨g, 0, none⟩)] 118)).alloc (.cells #[.int .i64 lf, .slice A1 n1 c1, .slice A2 n2 c2] 134)) = W1 := ⟨_, rfl⟩
  have g1 : w.grownBy W1 none := by rw [← hW1]; exact grown_trans (World.grownBy_alloc _ _ none) (World.grownBy_alloc _ _ none)
  have bw : Blk W1 w.heap.size 118 #[.pointer (some ⟨g, 0, none⟩)] := by rw [← hW1]; exact (Blk.new w _ _).alloc _
  have bx : Blk W1 (w.heap.size + 1) 134 #[.int .i64 lf, .slice A1 n1 c1, .slice A2 n2 c2] := by
    have := Blk.new (w.alloc (.cells #[.pointer (some ⟨g, 0, none⟩)] 118)) 134 #[.int .i64 lf, .slice A1 n1 c1, .slice A2 n2 c2]
    rw [← hW1]; simpa using this
  have hi := h.opened g1
  have HCl := Lib.hid (fun (w2 : World) (s2 : WSt) (P : WP w0 E g (fun k => F k ∧ k < w.heap.size) s2 W1 w2) => WP.closed (F := F) h g1 P)
  have HB := Lib.hid (fun (V : World) (s' : WSt) (P : WP w0 E g (fun k => F k ∧ k < w.heap.size) s' W1 V) => (show V.cell? ⟨w.heap.size, 0, none⟩ = some (.pointer (some ⟨g, 0, none⟩)) ∧ V.cell? ⟨w.heap.size + 1, 0, none⟩ = some (.int .i64 lf) ∧ V.cell? ⟨w.heap.size + 1, 1, none⟩ = some (.slice A1 n1 c1) ∧ V.cell? ⟨w.heap.size + 1, 2, none⟩ = some (.slice A2 n2 c2) from
    by
      have kw : Blk V w.heap.size 118 #[.pointer (some ⟨g, 0, none⟩)] := bw.kept P.fine (fun h => absurd h.2 (by omega))
      have bx : Blk V (w.heap.size + 1) 134 #[.int .i64 lf, .slice A1 n1 c1, .slice A2 n2 c2] := bx.kept P.fine (fun h => absurd h.2 (by omega))
      exact ⟨by simpa using kw.cell 0, by have := bx.cell 0; simpa using this, by have := bx.cell 1; simpa using this, by have := bx.cell 2; simpa using this⟩))
  have HP0 := Lib.hid hi.same
  have HE := Lib.hid he
  have HS := Lib.hid hs
  have HW := Lib.hid hW1
  clear h hi bw bx g1 hW1 hs he
  go_enter Tryz.func95, Tryz.ntmps95
  go_upto_region 1 with (fail)
  rw [HW.out]
  obtain ⟨k0, k1, k2, k3⟩ := HB.out _ _ HP0.out
  clear k2 k3
  go_wp2_with fail
  refine (number_st HE.out HP0.out.wi (Nat.le_trans HS.out (by omega)) lf 1).mono ?_
  rintro e V1 ⟨rfl, q0⟩
  have HP1 := Lib.hid (HP0.out.trans q0)
  clear q0 k0 k1
  have HS1 := Lib.hid (show (sNum lf 1 s).2.length ≤ 2200000 from by have h1 := adds_num lf 1 s; have h2 := HS.out; have h3 : sNum lf 1 s = sNum lf ((1 : Nat) : Int) s := rfl; rw [h3]; omega)
  obtain ⟨k0, k1, k2, k3⟩ := HB.out _ _ HP1.out
  clear k1 k3
  go_wp2_with fail
  refine (put_Dg HE.out _ _ _ HP1.out.wi (Nat.le_trans HS1.out (by omega)) A1 n1 c1 cs HD.out.1.1 HD.out.1.row HD.out.1.2.1 (fun x hx => (adds_dig (HD.out.1.sixteen x hx)).mono (by omega)) 68).mono ?_
  rintro e V2 ⟨rfl, q1⟩
  have HP2 := Lib.hid (HP1.out.trans q1)
  clear q1 k0 k2
  have HS2 := Lib.hid (show (sPut n1 68 (sAll sDig cs) (sNum lf 1 s)).2.length ≤ 2300000 from by have h1 : (sPut n1 68 (sAll sDig cs) (sNum lf 1 s)).2.length ≤ (sNum lf 1 s).2.length + (1 + 68 * 16) := adds_put (m := 68) (n := n1) (c := 16) rfl (fun _ => HD.out.1.1 ▸ adds_digs HD.out.1.sixteen) (sNum lf 1 s); have h2 := HS1.out; omega)
  obtain ⟨k0, k1, k2, k3⟩ := HB.out _ _ HP2.out
  clear k1 k2
  go_wp2_with fail
  refine (put_Dg HE.out _ _ _ HP2.out.wi (Nat.le_trans HS2.out (by omega)) A2 n2 c2 ps HD.out.2.1 HD.out.2.row HD.out.2.2.1 (fun x hx => (adds_dig (HD.out.2.sixteen x hx)).mono (by omega)) 5).mono ?_
  rintro e V3 ⟨rfl, q2⟩
  have HP3 := Lib.hid (HP2.out.trans q2)
  clear q2 k0 k3
  go_wp2_with fail
  go_end0
  exact ⟨rfl, HCl.out _ _ HP3.out⟩

set_option maxRecDepth 100000 in
set_option maxHeartbeats 1000000 in
theorem el_Sg (w : World) (F : Nat → Prop) (s : WSt) (h : WI w0 E g F s w) (hs : s.2.length ≤ 2000000) (x : Sg) (hx : DigRow w0 x.A1 x.n1 x.cs ∧ DigRow w0 x.A2 x.n2 x.ps) (cs : Array Value) (hcs : cs = x.cells.toList.toArray) :
    Calls Tryz.prog 79 #[.agg #[.pointer (some ⟨g, 0, none⟩)], .agg cs] w fun e w' => e = .returned (.tuple #[]) ∧ WP w0 E g F (sSg x s) w w' := by
  have hc0 : cs = #[.int .i64 x.who] ++ x.sig := by rw [hcs, Array.toArray_toList]; rfl
  obtain ⟨sg, hsg⟩ : ∃ sg, sg = x.sig := ⟨_, rfl⟩
  have hs3 : sg.size = 3 := by rw [hsg]; rfl
  rw [← hsg] at hc0
  have H3 := Lib.hid (And.intro hs3 hsg)
  obtain ⟨W1, hW1⟩ : ∃ W1, ((w.alloc (.cells #[.pointer (some ⟨g, 0, none⟩)] 118)).alloc (.cells cs 136)) = W1 := ⟨_, rfl⟩
  have g1 : w.grownBy W1 none := by rw [← hW1]; exact grown_trans (World.grownBy_alloc _ _ none) (World.grownBy_alloc _ _ none)
  have bw : Blk W1 w.heap.size 118 #[.pointer (some ⟨g, 0, none⟩)] := by rw [← hW1]; exact (Blk.new w _ _).alloc _
  have bx : Blk W1 (w.heap.size + 1) 136 cs := by
    have := Blk.new (w.alloc (.cells #[.pointer (some ⟨g, 0, none⟩)] 118)) 136 cs
    rw [← hW1]; simpa using this
  have hi := h.opened g1
  have HCl := Lib.hid (fun (w2 : World) (s2 : WSt) (P : WP w0 E g (fun k => F k ∧ k < w.heap.size) s2 W1 w2) => WP.closed (F := F) h g1 P)
  have HB := Lib.hid (fun (V : World) (s' : WSt) (P : WP w0 E g (fun k => F k ∧ k < w.heap.size) s' W1 V) => (show V.cell? ⟨w.heap.size, 0, none⟩ = some (.pointer (some ⟨g, 0, none⟩)) ∧ V.cell? ⟨w.heap.size + 1, 0, none⟩ = some (.int .i64 x.who) ∧ V.rangeAt (w.heap.size + 1) 1 sg.toList from
    by
      have kw : Blk V w.heap.size 118 #[.pointer (some ⟨g, 0, none⟩)] := bw.kept P.fine (fun h => absurd h.2 (by omega))
      have bx : Blk V (w.heap.size + 1) 136 cs := bx.kept P.fine (fun h => absurd h.2 (by omega))
      exact ⟨by simpa using kw.cell 0, by have r := range_blk0 bx; have := r 0 (.int .i64 x.who) (by rw [hc0]; simp); simpa using this, by have r := range_blk0 bx; rw [hc0] at r; exact fun j v hv => by have := r (1 + j) v (by simp only [Array.toList_append]; rw [List.getElem?_append_right (by simp)]; simpa using hv); rwa [Nat.zero_add] at this⟩))
  have HP0 := Lib.hid hi.same
  have HE := Lib.hid he
  have HS := Lib.hid hs
  have HW := Lib.hid hW1
  clear h hi bw bx g1 hW1 hs he hcs hc0 hs3 hsg
  go_enter Tryz.func79, Tryz.ntmps79
  go_upto_region 1 with (fail)
  rw [HW.out]
  obtain ⟨k0, k1, k2⟩ := HB.out _ _ HP0.out
  clear k2
  go_wp2_with fail
  refine (number_st HE.out HP0.out.wi (Nat.le_trans HS.out (by omega)) x.who 1).mono ?_
  rintro e V1 ⟨rfl, q0⟩
  have HP1 := Lib.hid (HP0.out.trans q0)
  clear q0 k0 k1
  have HS1 := Lib.hid (show (sNum x.who 1 s).2.length ≤ 2100000 from by have h1 := adds_num x.who 1 s; have h2 := HS.out; have h3 : sNum x.who 1 s = sNum x.who ((1 : Nat) : Int) s := rfl; rw [h3]; omega)
  obtain ⟨k0, k1, k2⟩ := HB.out _ _ HP1.out
  clear k1
  have HR := Lib.hid k2
  clear k2
  go_wp2_with (refine wpList_load_mid rfl 134 _ rfl (w.heap.size + 1) 1 rfl (sg.toList) _ HR.out Tryz.underlying134 rfl (by rw [Array.length_toList, H3.out.1]; exact sz_Sig) ?_; rw [Array.toArray_toList])
  refine (sig_st HE.out _ _ _ HP1.out.wi HS1.out x.lf x.A1 x.A2 x.n1 x.c1 x.n2 x.c2 x.cs x.ps hx.1 hx.2 sg H3.out.2).mono ?_
  rintro e V2 ⟨rfl, q1⟩
  have HP2 := Lib.hid (HP1.out.trans q1)
  clear q1 k0
  go_wp2_with fail
  go_end0
  exact ⟨rfl, HCl.out _ _ HP2.out⟩

end
end Go.Proofs.YtmoebkdbnldbdaaGreatDoor
/-
  Lists that are written: of quorate/api.Signed.
-/
namespace Go.Proofs.YtmoebkdbnldbdaaGreatDoor
open Go.RowKit

theorem enter_Sg (args : Array Value) (w : World) : (callFunc 105 args).run Tryz.prog w = .ok (.enter 105 args) w := by kernel_rfl
section
variable {w0 : World} {E : Nat → Addr} {g : Nat} (he : ErrAt w0 w0.heap.size 1 (E 0))
include he
set_option maxRecDepth 100000 in
set_option maxHeartbeats 1000000 in
theorem pcl_Sg (w : World) (F : Nat → Prop) (s : WSt) (h : WI w0 E g F s w) (hs : s.2.length ≤ 2000000) (x : Sg) (hx : (DigRow w0 x.A1 x.n1 x.cs ∧ DigRow w0 x.A2 x.n2 x.ps)) (cs : Array Value) (hcs : cs = ((fun s : Sg => s.cells.toList) x).toArray) (b1 b2 : Nat)
    (h4 : w.cell? ⟨b1, 0, none⟩ = some (.func (.func 79) #[] #[])) (h5 : w.cell? ⟨b2, 0, none⟩ = some (.pointer (some ⟨g, 0, none⟩))) :
    Calls Tryz.prog 94 #[.pointer (some ⟨g, 0, none⟩), .agg cs, .pointer (some ⟨b1, 0, none⟩), .pointer (some ⟨b2, 0, none⟩)] w fun e w' => e = .returned (.tuple #[]) ∧ WP w0 E g F (sSg x s) w w' := by
  obtain ⟨W1, hW1⟩ : ∃ W1, w.alloc (.cells cs 136) = W1 := ⟨_, rfl⟩
  have g1 : w.grownBy W1 none := by rw [← hW1]; exact World.grownBy_alloc _ _ none
  have bx : Blk W1 w.heap.size 136 cs := by rw [← hW1]; exact Blk.new w _ _
  have c1 := g1.cell h4 (by simp)
  have c2 := g1.cell h5 (by simp)
  have hcz : cs.size = 4 := by rw [hcs]; exact cz_Sg hx
  have P1 := h.grown g1
  have H := Lib.hid (el_Sg he _ _ _ P1.wi hs x hx cs hcs)
  have HX := Lib.hid (And.intro hcz (range_blk0 bx))
  have HP := Lib.hid P1
  have HW := Lib.hid hW1
  clear h hx hs hcs P1 bx hcz g1 hW1 h4 h5
  go_enter Tryz.func94, Tryz.ntmps94
  go_upto_region 1 with (fail)
  rw [HW.out]
  go_wp2_with (refine wpList_load_mid rfl 136 _ rfl w.heap.size 0 rfl cs.toList _ HX.out.2 Tryz.underlying136 rfl (by rw [Array.length_toList, HX.out.1]; exact sz_Sg) ?_; rw [Array.toArray_toList])
  refine H.out.mono ?_
  rintro e w1 ⟨rfl, h1⟩
  have H1 := Lib.hid h1
  clear h1
  go_wp2_with fail
  go_end0
  exact ⟨rfl, HP.out.trans H1.out⟩

set_option maxRecDepth 100000 in
set_option maxHeartbeats 1000000 in
theorem ploop_Sg (w : World) (F : Nat → Prop) (s : WSt) (h : WI w0 E g F s w) (hs : s.2.length ≤ 1000000) (lb ob wb b1 b2 : Nat) (A : Option Addr) (n c : Nat) (L : List Sg) (hn : L.length = n) (hL : n ≤ 255) (hA : RowAt w0 A (fun s : Sg => s.cells.toList) 4 L) (hok : ∀ x ∈ L, (DigRow w0 x.A1 x.n1 x.cs ∧ DigRow w0 x.A2 x.n2 x.ps)) (had : ∀ x ∈ L, Adds 1200 (sSg x))
    (h1 : w.cell? ⟨lb, 0, none⟩ = some (.slice A n c)) (h2 : w.cell? ⟨ob, 0, none⟩ = some (.func (.func 94) #[] #[.pointer (some ⟨b1, 0, none⟩), .pointer (some ⟨b2, 0, none⟩)])) (h3 : w.cell? ⟨wb, 0, none⟩ = some (.pointer (some ⟨g, 0, none⟩)))
    (h4 : w.cell? ⟨b1, 0, none⟩ = some (.func (.func 79) #[] #[])) (h5 : w.cell? ⟨b2, 0, none⟩ = some (.pointer (some ⟨g, 0, none⟩)))
    (n2 : ¬ F ob) (n3 : ¬ F wb) (n4 : ¬ F b1) (n5 : ¬ F b2) :
    Calls Tryz.prog 105 #[.pointer (some ⟨lb, 0, none⟩), .pointer (some ⟨ob, 0, none⟩), .pointer (some ⟨wb, 0, none⟩)] w fun e w' => e = .returned (.tuple #[]) ∧ WP w0 E g F (sAll sSg L s) w w' := by
  have hzz := zz_Sg
  obtain ⟨ZZ, hZZ⟩ : ∃ Z, zv_Sg = Z := ⟨_, rfl⟩
  rw [hZZ] at hzz
  have HZZ := Lib.hid (show 4 = ZZ.size by rw [← hZZ]; rfl)
  clear hZZ
  have HH := Lib.hid (And.intro h (And.intro hs (And.intro hn (And.intro hA (And.intro hok had)))))
  have HC := Lib.hid (And.intro h2 (And.intro h3 (And.intro h4 h5)))
  have HN := Lib.hid (And.intro n2 (And.intro n3 (And.intro n4 n5)))
  have HE := Lib.hid he
  clear h hs hn hA hok had h2 h3 h4 h5 n2 n3 n4 n5 he
  go_enter Tryz.func105, Tryz.ntmps105
  go_wp2_with fail
  clear h1
  go_loopw [7] (fun i wr => ∃ k : Nat, k ≤ n ∧ i = .int .i64 (k : Int) ∧ WP w0 E g F (sAll sSg (L.take k) s) w wr) (fun i _ => n - (intOf i).toNat)
  case atStart => exact ⟨0, Nat.zero_le _, rfl, by simpa [sAll] using HH.out.1.same⟩
  case round =>
    obtain ⟨k, hk, hi, hP⟩ := hrel
    obtain ⟨I, hI⟩ : ∃ I : Int, I = (k : Int) := ⟨_, rfl⟩
    rw [← hI] at hi
    subst hi
    rename World => wr
    by_cases hlt : k < n
    · have hlt' : k < L.length := by have := HH.out.2.2.1; omega
      have hne : L ≠ [] := by rintro rfl; simp at hlt'
      obtain ⟨b, off, rfl, hc⟩ := HH.out.2.2.2.1 hne
      have d2 : decide (I < (n : Int)) = true := by simp; omega
      have hIV : I < (n : Int) := by omega
      have hI0 : 0 ≤ I ∧ I < 1000 := by omega
      have hkI : I.toNat = k := by omega
      have r1 := range_low hP.wi.kept (hc k hlt')
      obtain ⟨x, hxe⟩ : ∃ x, x = L[k] := ⟨_, rfl⟩
      have hxm : x ∈ L := by rw [hxe]; exact List.getElem_mem hlt'
      rw [← hxe] at r1
      rw [← hkI] at r1
      have c2 := hP.fine.cell HC.out.1 HN.out.1
      have c3 := hP.fine.cell HC.out.2.1 HN.out.2.1
      have c4 := hP.fine.cell HC.out.2.2.1 HN.out.2.2.1
      have c5 := hP.fine.cell HC.out.2.2.2 HN.out.2.2.2
      have hlen : (sAll sSg (L.take k) s).2.length ≤ 2000000 := by
        have h1 := adds_all (f := sSg) (c := 1200) (L.take k) (fun y hy => HH.out.2.2.2.2.2 y (List.mem_of_mem_take hy)) s
        have h2 := HH.out.2.1
        have h3 : (L.take k).length * 1200 ≤ 255 * 1200 := Nat.mul_le_mul_right 1200 (by rw [List.length_take]; omega)
        omega
      have htake : sAll sSg (L.take (k + 1)) s = sSg x (sAll sSg (L.take k) s) := by rw [List.take_succ_eq_append_getElem hlt', ← hxe, sAll_snoc]
      obtain ⟨cs, hcs⟩ : ∃ cs, cs = ((fun s : Sg => s.cells.toList) x).toArray := ⟨_, rfl⟩
      have hcz : cs.size = 4 := by rw [hcs]; exact cz_Sg (HH.out.2.2.2.2.1 x hxm)
      have hc1 : (cs.all fun v => v.oneCell') = true := by rw [hcs]; exact c1_Sg x
      have r2 : wr.rangeAt b (off + I.toNat * 4) cs.toList := by rw [hcs]; exact r1
      obtain ⟨W0, hW0⟩ : ∃ W0, W0 = (wr.alloc (.cells ZZ 136)).setRow wr.heap.size cs := ⟨_, rfl⟩
      have hG0 : wr.grownBy W0 none := by rw [hW0]; exact grown_row (World.grownBy_alloc wr _ none) (.inl (Nat.le_refl _)) cs
      have bS : Blk W0 wr.heap.size 136 cs := by rw [hW0]; exact (Blk.new wr 136 ZZ).row cs
      have e2 := hG0.cell c2 (by simp)
      have e3 := hG0.cell c3 (by simp)
      have P0 := hP.wi.grown hG0
      have HS := Lib.hid (pcl_Sg HE.out W0 _ _ P0.wi hlen x (HH.out.2.2.2.2.1 x hxm) cs hcs b1 b2 (hG0.cell c4 (by simp)) (hG0.cell c5 (by simp)))
      have HP := Lib.hid (And.intro (And.intro hP P0) (And.intro htake (And.intro hI hlt')))
      have HX := Lib.hid (And.intro hcz (And.intro hc1 (And.intro r2 (range_blk0 bS))))
      have HW := Lib.hid hW0
      clear hP P0 hcz hc1 r1 r2 hW0 hG0 bS hcs c2 c3 c4 c5 hxm hxe htake hlen hc hne hkI hI hlt'
      go_wp2_with (first
        | (refine wpList_load_mid rfl 136 _ rfl b (off + I.toNat * 4) rfl cs.toList _ HX.out.2.2.1 Tryz.underlying136 rfl (by rw [Array.length_toList, HX.out.1]; exact sz_Sg) ?_; rw [Array.toArray_toList])
        | (refine wpList_store_row rfl 136 _ _ rfl wr.heap.size cs rfl rfl 136 _ (heap_alloc_new wr _) (by rw [HX.out.1]; exact sz_Sg) (by rw [HX.out.1]; first | exact HZZ.out | exact HZZ.out.symm) HX.out.2.1 ?_
           rw [← HW.out])
        | (refine wpList_load_mid rfl 136 _ rfl wr.heap.size 0 rfl cs.toList _ HX.out.2.2.2 Tryz.underlying136 rfl (by rw [Array.length_toList, HX.out.1]; exact sz_Sg) ?_; rw [Array.toArray_toList]))
      refine HS.out.mono ?_
      rintro e3 W3 ⟨rfl, h3⟩
      have H3 := Lib.hid h3
      clear h3
      go_wp2_with fail
      go_roundw
      case rel => exact ⟨k + 1, by omega, by rw [HP.out.2.2.1]; rfl, by rw [HP.out.2.1]; exact HP.out.1.1.trans (HP.out.1.2.trans H3.out)⟩
      case measure => have := HP.out.2.2.1; simp [intOf]; omega
    · have d2 : decide (I < (n : Int)) = false := by simp; omega
      have hf : L.take k = L := List.take_of_length_le (by have := HH.out.2.2.1; omega)
      rw [hf] at hP
      have HP := Lib.hid hP
      clear hP hf hlt hI hk
      go_wp2_with fail
      go_end0
      exact ⟨rfl, HP.out⟩

/-- wire.Put. -/
theorem wput_Sg (w : World) (F : Nat → Prop) (s : WSt) (h : WI w0 E g F s w) (hs : s.2.length ≤ 900000) (b1 b2 : Nat) (A : Option Addr) (n c : Nat) (L : List Sg) (hn : L.length = n) (hA : RowAt w0 A (fun s : Sg => s.cells.toList) 4 L) (hok : ∀ x ∈ L, (DigRow w0 x.A1 x.n1 x.cs ∧ DigRow w0 x.A2 x.n2 x.ps)) (had : ∀ x ∈ L, Adds 1200 (sSg x)) (most : Int)
    (h4 : w.cell? ⟨b1, 0, none⟩ = some (.func (.func 79) #[] #[])) (h5 : w.cell? ⟨b2, 0, none⟩ = some (.pointer (some ⟨g, 0, none⟩))) (n4 : ¬ F b1) (n5 : ¬ F b2) :
    Calls Tryz.prog 93 #[.pointer (some ⟨g, 0, none⟩), .slice A n c, .int .i64 most, .func (.func 94) #[] #[.pointer (some ⟨b1, 0, none⟩), .pointer (some ⟨b2, 0, none⟩)]] w fun e w' => e = .returned (.tuple #[]) ∧ WP w0 E g F (sPut n most (sAll sSg L) s) w w' := by
  have hmf : ∀ (fn : Fn) (first cap : Array Value) (w : World), (Instr.makeFunc fn first cap).run Tryz.prog w = .ok (.func fn first cap) w := fun _ _ _ _ => rfl
  obtain ⟨W1, hW1⟩ : ∃ W1, ((w.alloc (.cells #[.pointer (some ⟨g, 0, none⟩)] 116)).alloc (.cells #[.slice A n c] 44)).alloc (.cells #[.func (.func 94) #[] #[.pointer (some ⟨b1, 0, none⟩), .pointer (some ⟨b2, 0, none⟩)]] 183) = W1 := ⟨_, rfl⟩
  have z1 : W1.heap.size = w.heap.size + 3 := by rw [← hW1]; simp
  have g1 : w.grownBy W1 none := by rw [← hW1]; exact grown_trans (grown_trans (World.grownBy_alloc _ _ none) (World.grownBy_alloc _ _ none)) (World.grownBy_alloc _ _ none)
  have d1 : W1.cell? ⟨w.heap.size, 0, none⟩ = some (.pointer (some ⟨g, 0, none⟩)) := by rw [← hW1]; exact (((Blk.new w 116 #[.pointer (some ⟨g, 0, none⟩)]).alloc _).alloc _).cell 0
  have d2 : W1.cell? ⟨w.heap.size + 1, 0, none⟩ = some (.slice A n c) := by
    have h := ((Blk.new (w.alloc (.cells #[.pointer (some ⟨g, 0, none⟩)] 116)) 44 #[.slice A n c]).alloc (.cells #[.func (.func 94) #[] #[.pointer (some ⟨b1, 0, none⟩), .pointer (some ⟨b2, 0, none⟩)]] 183)).cell 0
    rw [← hW1]; simpa using h
  have d3 : W1.cell? ⟨w.heap.size + 1 + 1, 0, none⟩ = some (.func (.func 94) #[] #[.pointer (some ⟨b1, 0, none⟩), .pointer (some ⟨b2, 0, none⟩)]) := by
    have h := (Blk.new ((w.alloc (.cells #[.pointer (some ⟨g, 0, none⟩)] 116)).alloc (.cells #[.slice A n c] 44)) 183 #[.func (.func 94) #[] #[.pointer (some ⟨b1, 0, none⟩), .pointer (some ⟨b2, 0, none⟩)]]).cell 0
    rw [← hW1]; simpa using h
  have hi := h.opened g1
  have d4 := g1.cell h4 (by simp)
  have d5 := g1.cell h5 (by simp)
  have hr := (hi.err he (Nat.le_refl _)).1
  obtain ⟨F0, hF0⟩ : ∃ F0 : Nat → Prop, F0 = fun k => F k ∧ k < w.heap.size := ⟨_, rfl⟩
  rw [← hF0] at hi
  have m1 : ¬ F0 w.heap.size := by rw [hF0]; intro h; exact absurd h.2 (by omega)
  have m2 : ¬ F0 (w.heap.size + 1) := by rw [hF0]; intro h; exact absurd h.2 (by omega)
  have m3 : ¬ F0 (w.heap.size + 1 + 1) := by rw [hF0]; intro h; exact absurd h.2 (by omega)
  have m4 : ¬ F0 b1 := by rw [hF0]; intro h; exact n4 h.1
  have m5 : ¬ F0 b2 := by rw [hF0]; intro h; exact n5 h.1
  have hlt : ∀ (a : Addr) (v : Value), W1.cell? a = some v → a.block < W1.heap.size := fun _ _ h => World.block_lt_of_cell? W1 _ h
  have HCl := Lib.hid (fun w2 s2 (P : WP w0 E g F0 s2 W1 w2) => WP.closed (F := F) h g1 (hF0 ▸ P))
  have HI := Lib.hid (And.intro hi (And.intro he (And.intro hs (And.intro hn (And.intro hA (And.intro hok had))))))
  have HD := Lib.hid (And.intro d3 (And.intro d4 (And.intro d5 (And.intro True.intro (And.intro m1 (And.intro m2 (And.intro m3 (And.intro m4 m5))))))))
  have HW := Lib.hid hW1
  have HZ := Lib.hid z1
  have HL := Lib.hid hlt
  by_cases hlong : most < (n : Int) ∨ 255 < n
  · have hsp : sPut n most (sAll sSg L) s = sFail 1 s := by rw [sPut, if_pos hlong]
    rw [hsp]
    clear h hs hn hA hok had h4 h5 n4 n5 he hi d3 d4 d5 m1 m2 m3 m4 m5 hF0 hW1 z1 g1 hsp hlt
    rcases long_cases0 hlong with a1 | ⟨a1, a2⟩
    all_goals
      clear hlong
      go_enter Tryz.func93, Tryz.ntmps93
      go_upto_region 1 with (fail)
      rw [HW.out]
      go_wp2_with fail
      go_region_with (go_at_call 91; refine (fail_st HI.out.1.drew 0).mono ?_; rintro e w1 ⟨rfl, q⟩; replace q := Lib.hid q)
      all_goals
        go_wp2
        first | go_end0 | refine bodyPost_ret (results_none rfl _ _ _) rfl ?_
        refine ⟨rfl, HCl.out _ _ ?_⟩
        exact drew_first HI.out.1 q.out
  · have hsp : sPut n most (sAll sSg L) s = sAll sSg L (sNum (n : Int) 1 s) := by rw [sPut, if_neg hlong]
    rw [hsp]
    have a1 : decide (most < (n : Int)) = false := by simp; omega
    have a2 : decide ((255 : Int) < (n : Int)) = false := by simp; omega
    have hn255 : n ≤ 255 := by omega
    clear h hs hn hA hok had h4 h5 n4 n5 he hi d3 d4 d5 m1 m2 m3 m4 m5 hF0 hW1 z1 g1 hsp hlt hr hlong
    go_enter Tryz.func93, Tryz.ntmps93
    go_upto_region 1 with (fail)
    rw [HW.out]
    go_wp2_with fail
    obtain ⟨hi, he, hs, hn, hA, hok, had⟩ := HI.out
    obtain ⟨d3, d4, d5, _, m1, m2, m3, m4, m5⟩ := HD.out
    refine (number_st he hi (by omega) (n : Int) 1).mono ?_
    rintro e w2 ⟨rfl, P2⟩
    have e1 := P2.fine.cell d1 m1
    have e2 := P2.fine.cell d2 m2
    have e3 := P2.fine.cell d3 m3
    have e4 := P2.fine.cell d4 m4
    have e5 := P2.fine.cell d5 m5
    have nn : ∀ j, ¬ F0 j → j < W1.heap.size → ¬ upTo F0 W1.heap.size w2.heap.size j := fun j hj hl hu => by
      rcases hu with hu | hu
      · exact hj hu
      · omega
    have hle : (sNum (n : Int) 1 s).2.length ≤ 1000000 := by
      have := adds_num (n : Int) 1 s
      have h4 : sNum (n : Int) 1 s = sNum (n : Int) ((1 : Nat) : Int) s := rfl
      rw [h4]; omega
    have PA := P2.alloc (.cells #[.pointer (some ⟨g, 0, none⟩)] 192)
    have ga : w2.grownBy (w2.alloc (.cells #[.pointer (some ⟨g, 0, none⟩)] 192)) none := World.grownBy_alloc _ _ none
    have q2 := P2.wi.grown ga
    have HQ := Lib.hid (ploop_Sg he (w2.alloc (.cells #[.pointer (some ⟨g, 0, none⟩)] 192)) _ _ q2.wi hle (w.heap.size + 1) (w.heap.size + 1 + 1) w.heap.size b1 b2 A n c L hn hn255 hA hok had (ga.cell e2 (by simp)) (ga.cell e3 (by simp)) (ga.cell e1 (by simp)) (ga.cell e4 (by simp)) (ga.cell e5 (by simp))
      (nn_alloc (nn _ m3 (HL.out _ _ d3)) (HL.out _ _ d3) P2.fine.size) (nn_alloc (nn _ m1 (HL.out _ _ d1)) (HL.out _ _ d1) P2.fine.size) (nn_alloc (nn _ m4 (HL.out _ _ d4)) (HL.out _ _ d4) P2.fine.size) (nn_alloc (nn _ m5 (HL.out _ _ d5)) (HL.out _ _ d5) P2.fine.size))
    have HP := Lib.hid (And.intro P2 q2)
    have e1' := e1
    clear hi he hs hn hA hok had d3 d4 d5 m1 m2 m3 m4 m5 P2 PA e2 e3 e4 e5 nn hle q2 ga d2 d1
    go_wp2_with fail
    refine (attempt_ok0 ⟨g, 0, none⟩ 105 _ w2 _ enter_Sg HQ.out).mono ?_
    rintro e w4 ⟨rfl, h4⟩
    have H4 := Lib.hid h4
    clear h4
    go_wp2_with fail
    go_end0
    exact ⟨rfl, HCl.out _ _ (HP.out.1.trans (HP.out.2.trans H4.out))⟩

/-- codec.put. -/
theorem put_Sg (w : World) (F : Nat → Prop) (s : WSt) (h : WI w0 E g F s w) (hs : s.2.length ≤ 900000) (A : Option Addr) (n c : Nat) (L : List Sg) (hn : L.length = n) (hA : RowAt w0 A (fun s : Sg => s.cells.toList) 4 L) (hok : ∀ x ∈ L, (DigRow w0 x.A1 x.n1 x.cs ∧ DigRow w0 x.A2 x.n2 x.ps)) (had : ∀ x ∈ L, Adds 1200 (sSg x)) (most : Int) :
    Calls Tryz.prog 78 #[.agg #[.pointer (some ⟨g, 0, none⟩)], .slice A n c, .int .i64 most, .func (.func 79) #[] #[]] w fun e w' => e = .returned (.tuple #[]) ∧ WP w0 E g F (sPut n most (sAll sSg L) s) w w' := by
  have hmf : ∀ (fn : Fn) (first cap : Array Value) (w : World), (Instr.makeFunc fn first cap).run Tryz.prog w = .ok (.func fn first cap) w := fun _ _ _ _ => rfl
  obtain ⟨W1, hW1⟩ : ∃ W1, (w.alloc (.cells #[.pointer (some ⟨g, 0, none⟩)] 118)).alloc (.cells #[.func (.func 79) #[] #[]] 166) = W1 := ⟨_, rfl⟩
  have g1 : w.grownBy W1 none := by rw [← hW1]; exact grown_trans (World.grownBy_alloc _ _ none) (World.grownBy_alloc _ _ none)
  have d1 : W1.cell? ⟨w.heap.size, 0, none⟩ = some (.pointer (some ⟨g, 0, none⟩)) := by rw [← hW1]; exact ((Blk.new w 118 #[.pointer (some ⟨g, 0, none⟩)]).alloc _).cell 0
  have d2 : W1.cell? ⟨w.heap.size + 1, 0, none⟩ = some (.func (.func 79) #[] #[]) := by
    have h := (Blk.new (w.alloc (.cells #[.pointer (some ⟨g, 0, none⟩)] 118)) 166 #[.func (.func 79) #[] #[]]).cell 0
    rw [World.size_alloc, hW1] at h
    exact h
  have hi := h.opened g1
  have HQ := Lib.hid (wput_Sg he W1 _ s hi hs (w.heap.size + 1) w.heap.size A n c L hn hA hok had most d2 d1 (fun h => absurd h.2 (by omega)) (fun h => absurd h.2 (by omega)))
  have HCl := Lib.hid (fun w2 s2 (P : WP w0 E g (fun k => F k ∧ k < w.heap.size) s2 W1 w2) => WP.closed (F := F) h g1 P)
  have HW := Lib.hid hW1
  clear h hs hn hA hok had he hi hW1 g1 d2
  go_enter Tryz.func78, Tryz.ntmps78
  go_upto_region 1 with (fail)
  rw [HW.out]
  go_wp2_with fail
  refine HQ.out.mono ?_
  rintro e w4 ⟨rfl, h4⟩
  have H4 := Lib.hid h4
  clear h4
  go_wp2_with fail
  go_end0
  exact ⟨rfl, HCl.out _ _ H4.out⟩
end
end Go.Proofs.YtmoebkdbnldbdaaGreatDoor
