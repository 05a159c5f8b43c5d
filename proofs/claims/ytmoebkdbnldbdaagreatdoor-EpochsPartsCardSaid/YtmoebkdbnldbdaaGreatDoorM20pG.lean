/-
  Several texts in one: ChZ, Ks, TrE, Kv.
-/
import Derived.Test.YtmoebkdbnldbdaaGreatDoorM20pw
import Derived.Test.YtmoebkdbnldbdaaGreatDoorM20pF
import Derived.Test.YtmoebkdbnldbdaaGreatDoorNum
import Derived.Test.YtmoebkdbnldbdaaGreatDoorM20pk
import Derived.Test.YtmoebkdbnldbdaaGreatDoorM20pE
import Derived.Test.YtmoebkdbnldbdaaGreatDoorM20pB
/-
  ChainsSigns, walked.
-/
namespace Go.Proofs.YtmoebkdbnldbdaaGreatDoor
open Go.RowKit

theorem back_v (w : World) (hR : Rounds w) (lf : Int) (hlf : 0 ≤ lf ∧ lf < 32) (b off c : Nat) (seed : List Int) (d : List Int) (hd : isDig d) (hD : DigsAt w b off (sigsS seed lf d)) (dd rs : Array Value) (h2 : dd = arrV .u8 d) (hrs : rs = arrV .u8 (pubS seed lf)) :
    Calls Tryz.prog 99 #[.int .i64 lf, .slice (some ⟨b, off, none⟩) 68 c, .agg dd] w fun e w' => e = .returned (.tuple #[.agg rs, .nilIface]) ∧ w.grownBy w' none := by
  subst h2; exact recover_ok w hR lf hlf b off c (sigsS seed lf d) (sigsS_length _ _ _) (sigsS_dig _ _ _) hD d hd rs (by rw [hrs, recC_sigs])
end Go.Proofs.YtmoebkdbnldbdaaGreatDoor
/-
  (*Key).Sign by a leaf.
-/
namespace Go.Proofs.YtmoebkdbnldbdaaGreatDoor
open Go.RowKit

def sigZ : Array Value := #[.int .i64 0, .slice none 0 0, .slice none 0 0]
theorem sigz_build (w : World) : Sem.run Tryz.prog (Instr.build 134 #[]) w = .ok (.agg sigZ) w := by
  refine run_build w 134 _ _ ?_
  kernel_rfl
theorem sigz_run (w : World) : Sem.run Tryz.prog (zeroValue 134) w = .ok (.agg sigZ) w := zrun w (by kernel_rfl)
theorem info3 : (Tryz.prog.info? 134).map (·.size) = some 3 := by kernel_rfl
theorem build_sig (w : World) (lf : Int) (A1 A2 : Option Addr) (n1 c1 n2 c2 : Nat) : Sem.run Tryz.prog (Instr.build 134 #[(0, .int .i64 lf), (1, .slice A1 n1 c1), (2, .slice A2 n2 c2)]) w = .ok (.agg (sigV lf (.slice A1 n1 c1) (.slice A2 n2 c2))) w := by
  refine run_build w 134 _ _ ?_
  kernel_rfl
theorem wpList_build3 {P : Program} {ops : Array Oper} {rest : List Oper} {o : Oper} {a : Act} {w : World} {Q : Exit → Act → World → Prop} (hgd : o.guard = none) (t : TypeId) (x y z : Operand) (ho : o.op = .build t #[(0, x), (1, y), (2, z)]) (u v t' V : Value) (hx : a.eval x = u) (hy : a.eval y = v) (hz : a.eval z = t')
    (hr : Sem.run P (Instr.build t #[(0, u), (1, v), (2, t')]) w = .ok V w) (h : wpList P ops Q rest (a.put o.dst V) w) : wpList P ops Q (o :: rest) a w :=
  wpList_plain hgd fun K hK => by
    have hm : (#[(0, x), (1, y), (2, z)] : Array (Nat × Operand)).map (fun (i, x) => (i, a.eval x)) = #[(0, u), (1, v), (2, t')] := by simp [hx, hy, hz]
    unfold Oper.wp execOp
    simp only [ho, Sem.run_bind, hm, hr, Result.andThen_ok]
    exact hK _ _ h

/-- A signature that a key made, in memory. -/
structure SigAt (w : World) (seed : List Int) (lf : Int) (i : Nat) (d : List Int) (b p : Nat) : Prop where
  chains : DigsAt w b 0 (sigsS seed lf d)
  path : DigsAt w p 0 (upto (wayC (leavesC seed) i) 5)
  bthere : w.there b 0 1088
  pthere : w.there p 0 80
  apart : b ≠ p
theorem SigAt.to {w w' : World} {seed d : List Int} {lf : Int} {i b p : Nat} {row : Option Nat} (h : SigAt w seed lf i d b p) (hg : w.grownBy w' row) (h1 : some b ≠ row) (h2 : some p ≠ row) : SigAt w' seed lf i d b p :=
  ⟨fun j hj => range_to (h.chains j hj) hg h1, fun j hj => range_to (h.path j hj) hg h2, there_to h.bthere hg h1, there_to h.pthere hg h2, h.apart⟩
theorem SigAt.grown {w w' : World} {seed d : List Int} {lf : Int} {i b p : Nat} (h : SigAt w seed lf i d b p) (hg : w.grownBy w' none) : SigAt w' seed lf i d b p := h.to hg (by simp) (by simp)

end Go.Proofs.YtmoebkdbnldbdaaGreatDoor
/-
  quorateref04.Climb.
-/

namespace Go.Proofs.YtmoebkdbnldbdaaGreatDoor
open Go.RowKit

theorem half (i : Int) (h : 0 ≤ i ∧ i < 32) (k : Nat) (hk : k < 5) : ∃ v v' p : Int, i / 2 ^ k = v ∧ i / 2 ^ (k + 1) = v' ∧ (0 ≤ v ∧ v < 32) ∧ v.tmod 2 = p ∧ v % 2 = p ∧ v.tdiv 2 = v' ∧ v / 2 = v' ∧ IntKind.i64.wrap v' = v' ∧ (p = 0 ∨ p = 1) := by
  have hv : 0 ≤ i / 2 ^ k ∧ i / 2 ^ k < 32 := by
    have : k = 0 ∨ k = 1 ∨ k = 2 ∨ k = 3 ∨ k = 4 := by omega
    rcases this with rfl | rfl | rfl | rfl | rfl <;> simp <;> omega
  have hv2 : i / 2 ^ (k + 1) = i / 2 ^ k / 2 := by
    have : k = 0 ∨ k = 1 ∨ k = 2 ∨ k = 3 ∨ k = 4 := by omega
    rcases this with rfl | rfl | rfl | rfl | rfl <;> simp <;> omega
  refine ⟨i / 2 ^ k, i / 2 ^ k / 2, i / 2 ^ k % 2, rfl, hv2, hv, Int.tmod_eq_emod_of_nonneg hv.1, rfl, Int.tdiv_eq_ediv_of_nonneg hv.1, rfl, by rw [IntKind.wrap_i64]; omega, by omega⟩

end Go.Proofs.YtmoebkdbnldbdaaGreatDoor
/-
  keys.Verify and quorateref05.Right.
-/
namespace Go.Proofs.YtmoebkdbnldbdaaGreatDoor
open Go.RowKit

set_option maxRecDepth 100000 in
set_option maxHeartbeats 4000000 in
theorem verify_a (w : World) (rt dd : Array Value) (hrt : rt.size = 16) (hdd : dd.size = 16) (lf : Int) (A1 A2 : Option Addr) (n1 c1 n2 c2 : Nat) (xs : Array Value) (hxs : xs.size = 16) (hx1 : (xs.all fun v => v.oneCell') = true) (a : Addr) (H1 : ∀ z, w.grownBy z none → Calls Tryz.prog 99 #[.int .i64 lf, .slice A1 n1 c1, .agg dd] z fun e w' => e = .returned (.tuple #[.agg xs, errV a]) ∧ z.grownBy w' none) :
    Calls Tryz.prog 87 #[.agg rt, .agg dd, .agg (sigV lf (.slice A1 n1 c1) (.slice A2 n2 c2))] w fun e w' => e = .returned (.bool false) ∧ w.grownBy w' none := by
  obtain ⟨Z16, hZ16⟩ : ∃ Z, Z = arrV .u8 (List.replicate 16 0) := ⟨_, rfl⟩
  have hz16 : ∀ w, Sem.run Tryz.prog (zeroValue 24) w = .ok (.agg Z16) w := fun w => by rw [hZ16]; exact z16run w
  have K1 := Lib.hid H1
  have HS := Lib.hid (And.intro hrt (And.intro hdd (And.intro (show Z16.size = 16 by rw [hZ16]; rfl) (And.intro hxs (show (xs.all fun v => v.oneCell') = true from hx1)))))
  have B3 := Lib.hid (show Blk (((w.alloc (.cells rt 24)).alloc (.cells dd 24)).alloc (.cells #[.int .i64 lf, .slice A1 n1 c1, .slice A2 n2 c2] 134)) w.heap.size 24 rt ∧ Blk (((w.alloc (.cells rt 24)).alloc (.cells dd 24)).alloc (.cells #[.int .i64 lf, .slice A1 n1 c1, .slice A2 n2 c2] 134)) (w.heap.size + 1) 24 dd ∧ Blk (((w.alloc (.cells rt 24)).alloc (.cells dd 24)).alloc (.cells #[.int .i64 lf, .slice A1 n1 c1, .slice A2 n2 c2] 134)) (w.heap.size + 1 + 1) 134 #[.int .i64 lf, .slice A1 n1 c1, .slice A2 n2 c2] ∧ w.grownBy (((w.alloc (.cells rt 24)).alloc (.cells dd 24)).alloc (.cells #[.int .i64 lf, .slice A1 n1 c1, .slice A2 n2 c2] 134)) none from by
    have b1 := (Blk.new (w.alloc (.cells rt 24)) 24 dd).alloc (.cells #[.int .i64 lf, .slice A1 n1 c1, .slice A2 n2 c2] 134)
    have b2 := Blk.new ((w.alloc (.cells rt 24)).alloc (.cells dd 24)) 134 #[.int .i64 lf, .slice A1 n1 c1, .slice A2 n2 c2]
    simp only [World.size_alloc] at b1 b2
    exact ⟨((Blk.new w 24 rt).alloc _).alloc _, b1, b2, grown_trans (grown_trans (World.grownBy_alloc w _ none) (World.grownBy_alloc _ _ none)) (World.grownBy_alloc _ _ none)⟩)
  simp only [sigV]
  clear H1 hZ16 hrt hdd hxs hx1
  go_enter Tryz.func87, Tryz.ntmps87
  go_wp2_with (refine wpList_load_row rfl 24 _ rfl (w.heap.size + 1) rfl 24 dd (0, 0) _ B3.out.2.1 Tryz.underlying24 rfl (by rw [HS.out.2.1]; exact info16) ?_)
  refine (K1.out _ B3.out.2.2.2).mono ?_
  rintro e w2 ⟨rfl, hk2⟩
  have H2' := Lib.hid (show Blk w2 w.heap.size 24 rt ∧ Blk w2 (w.heap.size + 1 + 1) 134 #[.int .i64 lf, .slice A1 n1 c1, .slice A2 n2 c2] ∧ w.grownBy w2 none from ⟨B3.out.1.grown hk2 (by simp), B3.out.2.2.1.grown hk2 (by simp), grown_trans B3.out.2.2.2 hk2⟩)
  clear hk2
  go_wp2_with (first
    | (refine wpList_store_row rfl 24 _ _ rfl w2.heap.size xs rfl rfl 24 _ (heap_alloc_new w2 _) (by rw [HS.out.2.2.2.1]; exact info16) (by rw [HS.out.2.2.1, HS.out.2.2.2.1]) HS.out.2.2.2.2 ?_
       obtain ⟨w3, hw3⟩ : ∃ w3, w3 = (w2.alloc (.cells Z16 24)).setRow w2.heap.size xs := ⟨_, rfl⟩
       obtain ⟨pb, hpb⟩ : ∃ pb, pb = w2.heap.size := ⟨_, rfl⟩
       rw [← hw3, ← hpb]
       have H3 := Lib.hid (show Blk w3 pb 24 xs ∧ Blk w3 w.heap.size 24 rt ∧ Blk w3 (w.heap.size + 1 + 1) 134 #[.int .i64 lf, .slice A1 n1 c1, .slice A2 n2 c2] ∧ w.grownBy w3 none from by
         rw [hw3, hpb]
         have g3 := grown_row (World.grownBy_alloc w2 (.cells Z16 24) none) (.inl (Nat.le_refl _)) xs
         exact ⟨(Blk.new w2 24 Z16).row xs, H2'.out.1.grown g3 (by simp), H2'.out.2.1.grown g3 (by simp), grown_trans H2'.out.2.2 g3⟩)
       have c0' := H3.out.2.2.1.cell 0
       have c2' := H3.out.2.2.1.cell 2
       simp only [List.getElem?_toArray, List.getElem?_cons_zero, List.getElem?_cons_succ] at c0' c2'
       clear hw3 hpb)
    | (refine wpList_load_row rfl 24 _ rfl pb rfl 24 xs (0, 0) _ H3.out.1 Tryz.underlying24 rfl (by rw [HS.out.2.2.2.1]; exact info16) ?_))
  go_ret
  exact ⟨rfl, H3.out.2.2.2⟩
set_option maxRecDepth 100000 in
set_option maxHeartbeats 4000000 in
theorem verify_b (w : World) (rt dd : Array Value) (hrt : rt.size = 16) (hdd : dd.size = 16) (lf : Int) (A1 A2 : Option Addr) (n1 c1 n2 c2 : Nat) (xs ts : Array Value) (hxs : xs.size = 16) (hx1 : (xs.all fun v => v.oneCell') = true) (hts : ts.size = 16) (ht1 : (ts.all fun v => v.oneCell') = true) (a : Addr) (H1 : ∀ z, w.grownBy z none → Calls Tryz.prog 99 #[.int .i64 lf, .slice A1 n1 c1, .agg dd] z fun e w' => e = .returned (.tuple #[.agg xs, .nilIface]) ∧ z.grownBy w' none) (H2 : ∀ z, w.grownBy z none → Calls Tryz.prog 100 #[.agg xs, .int .i64 lf, .slice A2 n2 c2] z fun e w' => e = .returned (.tuple #[.agg ts, errV a]) ∧ z.grownBy w' none) :
    Calls Tryz.prog 87 #[.agg rt, .agg dd, .agg (sigV lf (.slice A1 n1 c1) (.slice A2 n2 c2))] w fun e w' => e = .returned (.bool false) ∧ w.grownBy w' none := by
  obtain ⟨Z16, hZ16⟩ : ∃ Z, Z = arrV .u8 (List.replicate 16 0) := ⟨_, rfl⟩
  have hz16 : ∀ w, Sem.run Tryz.prog (zeroValue 24) w = .ok (.agg Z16) w := fun w => by rw [hZ16]; exact z16run w
  have K2 := Lib.hid H2
  have HT := Lib.hid (And.intro hts ht1)
  clear H2 hts ht1
  have K1 := Lib.hid H1
  have HS := Lib.hid (And.intro hrt (And.intro hdd (And.intro (show Z16.size = 16 by rw [hZ16]; rfl) (And.intro hxs (show (xs.all fun v => v.oneCell') = true from hx1)))))
  have B3 := Lib.hid (show Blk (((w.alloc (.cells rt 24)).alloc (.cells dd 24)).alloc (.cells #[.int .i64 lf, .slice A1 n1 c1, .slice A2 n2 c2] 134)) w.heap.size 24 rt ∧ Blk (((w.alloc (.cells rt 24)).alloc (.cells dd 24)).alloc (.cells #[.int .i64 lf, .slice A1 n1 c1, .slice A2 n2 c2] 134)) (w.heap.size + 1) 24 dd ∧ Blk (((w.alloc (.cells rt 24)).alloc (.cells dd 24)).alloc (.cells #[.int .i64 lf, .slice A1 n1 c1, .slice A2 n2 c2] 134)) (w.heap.size + 1 + 1) 134 #[.int .i64 lf, .slice A1 n1 c1, .slice A2 n2 c2] ∧ w.grownBy (((w.alloc (.cells rt 24)).alloc (.cells dd 24)).alloc (.cells #[.int .i64 lf, .slice A1 n1 c1, .slice A2 n2 c2] 134)) none from by
    have b1 := (Blk.new (w.alloc (.cells rt 24)) 24 dd).alloc (.cells #[.int .i64 lf, .slice A1 n1 c1, .slice A2 n2 c2] 134)
    have b2 := Blk.new ((w.alloc (.cells rt 24)).alloc (.cells dd 24)) 134 #[.int .i64 lf, .slice A1 n1 c1, .slice A2 n2 c2]
    simp only [World.size_alloc] at b1 b2
    exact ⟨((Blk.new w 24 rt).alloc _).alloc _, b1, b2, grown_trans (grown_trans (World.grownBy_alloc w _ none) (World.grownBy_alloc _ _ none)) (World.grownBy_alloc _ _ none)⟩)
  simp only [sigV]
  clear H1 hZ16 hrt hdd hxs hx1
  go_enter Tryz.func87, Tryz.ntmps87
  go_wp2_with (refine wpList_load_row rfl 24 _ rfl (w.heap.size + 1) rfl 24 dd (0, 0) _ B3.out.2.1 Tryz.underlying24 rfl (by rw [HS.out.2.1]; exact info16) ?_)
  refine (K1.out _ B3.out.2.2.2).mono ?_
  rintro e w2 ⟨rfl, hk2⟩
  have H2' := Lib.hid (show Blk w2 w.heap.size 24 rt ∧ Blk w2 (w.heap.size + 1 + 1) 134 #[.int .i64 lf, .slice A1 n1 c1, .slice A2 n2 c2] ∧ w.grownBy w2 none from ⟨B3.out.1.grown hk2 (by simp), B3.out.2.2.1.grown hk2 (by simp), grown_trans B3.out.2.2.2 hk2⟩)
  clear hk2
  go_wp2_with (first
    | (refine wpList_store_row rfl 24 _ _ rfl w2.heap.size xs rfl rfl 24 _ (heap_alloc_new w2 _) (by rw [HS.out.2.2.2.1]; exact info16) (by rw [HS.out.2.2.1, HS.out.2.2.2.1]) HS.out.2.2.2.2 ?_
       obtain ⟨w3, hw3⟩ : ∃ w3, w3 = (w2.alloc (.cells Z16 24)).setRow w2.heap.size xs := ⟨_, rfl⟩
       obtain ⟨pb, hpb⟩ : ∃ pb, pb = w2.heap.size := ⟨_, rfl⟩
       rw [← hw3, ← hpb]
       have H3 := Lib.hid (show Blk w3 pb 24 xs ∧ Blk w3 w.heap.size 24 rt ∧ Blk w3 (w.heap.size + 1 + 1) 134 #[.int .i64 lf, .slice A1 n1 c1, .slice A2 n2 c2] ∧ w.grownBy w3 none from by
         rw [hw3, hpb]
         have g3 := grown_row (World.grownBy_alloc w2 (.cells Z16 24) none) (.inl (Nat.le_refl _)) xs
         exact ⟨(Blk.new w2 24 Z16).row xs, H2'.out.1.grown g3 (by simp), H2'.out.2.1.grown g3 (by simp), grown_trans H2'.out.2.2 g3⟩)
       have c0' := H3.out.2.2.1.cell 0
       have c2' := H3.out.2.2.1.cell 2
       simp only [List.getElem?_toArray, List.getElem?_cons_zero, List.getElem?_cons_succ] at c0' c2'
       clear hw3 hpb)
    | (refine wpList_load_row rfl 24 _ rfl pb rfl 24 xs (0, 0) _ H3.out.1 Tryz.underlying24 rfl (by rw [HS.out.2.2.2.1]; exact info16) ?_))
  refine (K2.out _ H3.out.2.2.2).mono ?_
  rintro e w4 ⟨rfl, hk4⟩
  have H4 := Lib.hid (And.intro (H3.out.2.1.grown hk4 (by simp)) (grown_trans H3.out.2.2.2 hk4))
  clear hk4 c0' c2'
  go_wp2_with (first
    | (refine wpList_store_row rfl 24 _ _ rfl w4.heap.size ts rfl rfl 24 _ (heap_alloc_new w4 _) (by rw [HT.out.1]; exact info16) (by rw [HS.out.2.2.1, HT.out.1]) HT.out.2 ?_
       obtain ⟨w5, hw5⟩ : ∃ w5, w5 = (w4.alloc (.cells Z16 24)).setRow w4.heap.size ts := ⟨_, rfl⟩
       obtain ⟨qb, hqb⟩ : ∃ qb, qb = w4.heap.size := ⟨_, rfl⟩
       rw [← hw5, ← hqb]
       have H5 := Lib.hid (show Blk w5 qb 24 ts ∧ Blk w5 w.heap.size 24 rt ∧ w.grownBy w5 none from by
         rw [hw5, hqb]
         have g5 := grown_row (World.grownBy_alloc w4 (.cells Z16 24) none) (.inl (Nat.le_refl _)) ts
         exact ⟨(Blk.new w4 24 Z16).row ts, H4.out.1.grown g5 (by simp), grown_trans H4.out.2 g5⟩)
       clear hw5 hqb)
    | (refine wpList_load_row_w (by rfl) 24 _ rfl qb rfl 24 ts (0, 0) _ H5.out.1 Tryz.underlying24 rfl (by rw [HT.out.1]; exact info16) ?_)
    | (refine wpList_load_row_w (by rfl) 24 _ rfl w.heap.size rfl 24 rt (0, 0) _ H5.out.2.1 Tryz.underlying24 rfl (by rw [HS.out.1]; exact info16) ?_))
  go_ret
  exact ⟨rfl, H5.out.2.2⟩
set_option maxRecDepth 100000 in
set_option maxHeartbeats 4000000 in
theorem verify_c (w : World) (rt dd : Array Value) (hrt : rt.size = 16) (hdd : dd.size = 16) (lf : Int) (A1 A2 : Option Addr) (n1 c1 n2 c2 : Nat) (xs ts : Array Value) (hxs : xs.size = 16) (hx1 : (xs.all fun v => v.oneCell') = true) (hts : ts.size = 16) (ht1 : (ts.all fun v => v.oneCell') = true) (r : Bool) (hq : ∀ V, Sem.run Tryz.prog (Op.equalIn 10000 24 (.agg ts) (.agg rt)) V = .ok r V) (H1 : ∀ z, w.grownBy z none → Calls Tryz.prog 99 #[.int .i64 lf, .slice A1 n1 c1, .agg dd] z fun e w' => e = .returned (.tuple #[.agg xs, .nilIface]) ∧ z.grownBy w' none) (H2 : ∀ z, w.grownBy z none → Calls Tryz.prog 100 #[.agg xs, .int .i64 lf, .slice A2 n2 c2] z fun e w' => e = .returned (.tuple #[.agg ts, .nilIface]) ∧ z.grownBy w' none) :
    Calls Tryz.prog 87 #[.agg rt, .agg dd, .agg (sigV lf (.slice A1 n1 c1) (.slice A2 n2 c2))] w fun e w' => e = .returned (.bool r) ∧ w.grownBy w' none := by
  obtain ⟨Z16, hZ16⟩ : ∃ Z, Z = arrV .u8 (List.replicate 16 0) := ⟨_, rfl⟩
  have hz16 : ∀ w, Sem.run Tryz.prog (zeroValue 24) w = .ok (.agg Z16) w := fun w => by rw [hZ16]; exact z16run w
  have K2 := Lib.hid H2
  have HT := Lib.hid (And.intro hts ht1)
  clear H2 hts ht1
  have K1 := Lib.hid H1
  have HS := Lib.hid (And.intro hrt (And.intro hdd (And.intro (show Z16.size = 16 by rw [hZ16]; rfl) (And.intro hxs (show (xs.all fun v => v.oneCell') = true from hx1)))))
  have B3 := Lib.hid (show Blk (((w.alloc (.cells rt 24)).alloc (.cells dd 24)).alloc (.cells #[.int .i64 lf, .slice A1 n1 c1, .slice A2 n2 c2] 134)) w.heap.size 24 rt ∧ Blk (((w.alloc (.cells rt 24)).alloc (.cells dd 24)).alloc (.cells #[.int .i64 lf, .slice A1 n1 c1, .slice A2 n2 c2] 134)) (w.heap.size + 1) 24 dd ∧ Blk (((w.alloc (.cells rt 24)).alloc (.cells dd 24)).alloc (.cells #[.int .i64 lf, .slice A1 n1 c1, .slice A2 n2 c2] 134)) (w.heap.size + 1 + 1) 134 #[.int .i64 lf, .slice A1 n1 c1, .slice A2 n2 c2] ∧ w.grownBy (((w.alloc (.cells rt 24)).alloc (.cells dd 24)).alloc (.cells #[.int .i64 lf, .slice A1 n1 c1, .slice A2 n2 c2] 134)) none from by
    have b1 := (Blk.new (w.alloc (.cells rt 24)) 24 dd).alloc (.cells #[.int .i64 lf, .slice A1 n1 c1, .slice A2 n2 c2] 134)
    have b2 := Blk.new ((w.alloc (.cells rt 24)).alloc (.cells dd 24)) 134 #[.int .i64 lf, .slice A1 n1 c1, .slice A2 n2 c2]
    simp only [World.size_alloc] at b1 b2
    exact ⟨((Blk.new w 24 rt).alloc _).alloc _, b1, b2, grown_trans (grown_trans (World.grownBy_alloc w _ none) (World.grownBy_alloc _ _ none)) (World.grownBy_alloc _ _ none)⟩)
  simp only [sigV]
  clear H1 hZ16 hrt hdd hxs hx1
  go_enter Tryz.func87, Tryz.ntmps87
  go_wp2_with (refine wpList_load_row rfl 24 _ rfl (w.heap.size + 1) rfl 24 dd (0, 0) _ B3.out.2.1 Tryz.underlying24 rfl (by rw [HS.out.2.1]; exact info16) ?_)
  refine (K1.out _ B3.out.2.2.2).mono ?_
  rintro e w2 ⟨rfl, hk2⟩
  have H2' := Lib.hid (show Blk w2 w.heap.size 24 rt ∧ Blk w2 (w.heap.size + 1 + 1) 134 #[.int .i64 lf, .slice A1 n1 c1, .slice A2 n2 c2] ∧ w.grownBy w2 none from ⟨B3.out.1.grown hk2 (by simp), B3.out.2.2.1.grown hk2 (by simp), grown_trans B3.out.2.2.2 hk2⟩)
  clear hk2
  go_wp2_with (first
    | (refine wpList_store_row rfl 24 _ _ rfl w2.heap.size xs rfl rfl 24 _ (heap_alloc_new w2 _) (by rw [HS.out.2.2.2.1]; exact info16) (by rw [HS.out.2.2.1, HS.out.2.2.2.1]) HS.out.2.2.2.2 ?_
       obtain ⟨w3, hw3⟩ : ∃ w3, w3 = (w2.alloc (.cells Z16 24)).setRow w2.heap.size xs := ⟨_, rfl⟩
       obtain ⟨pb, hpb⟩ : ∃ pb, pb = w2.heap.size := ⟨_, rfl⟩
       rw [← hw3, ← hpb]
       have H3 := Lib.hid (show Blk w3 pb 24 xs ∧ Blk w3 w.heap.size 24 rt ∧ Blk w3 (w.heap.size + 1 + 1) 134 #[.int .i64 lf, .slice A1 n1 c1, .slice A2 n2 c2] ∧ w.grownBy w3 none from by
         rw [hw3, hpb]
         have g3 := grown_row (World.grownBy_alloc w2 (.cells Z16 24) none) (.inl (Nat.le_refl _)) xs
         exact ⟨(Blk.new w2 24 Z16).row xs, H2'.out.1.grown g3 (by simp), H2'.out.2.1.grown g3 (by simp), grown_trans H2'.out.2.2 g3⟩)
       have c0' := H3.out.2.2.1.cell 0
       have c2' := H3.out.2.2.1.cell 2
       simp only [List.getElem?_toArray, List.getElem?_cons_zero, List.getElem?_cons_succ] at c0' c2'
       clear hw3 hpb)
    | (refine wpList_load_row rfl 24 _ rfl pb rfl 24 xs (0, 0) _ H3.out.1 Tryz.underlying24 rfl (by rw [HS.out.2.2.2.1]; exact info16) ?_))
  refine (K2.out _ H3.out.2.2.2).mono ?_
  rintro e w4 ⟨rfl, hk4⟩
  have H4 := Lib.hid (And.intro (H3.out.2.1.grown hk4 (by simp)) (grown_trans H3.out.2.2.2 hk4))
  clear hk4 c0' c2'
  go_wp2_with (first
    | (refine wpList_store_row rfl 24 _ _ rfl w4.heap.size ts rfl rfl 24 _ (heap_alloc_new w4 _) (by rw [HT.out.1]; exact info16) (by rw [HS.out.2.2.1, HT.out.1]) HT.out.2 ?_
       obtain ⟨w5, hw5⟩ : ∃ w5, w5 = (w4.alloc (.cells Z16 24)).setRow w4.heap.size ts := ⟨_, rfl⟩
       obtain ⟨qb, hqb⟩ : ∃ qb, qb = w4.heap.size := ⟨_, rfl⟩
       rw [← hw5, ← hqb]
       have H5 := Lib.hid (show Blk w5 qb 24 ts ∧ Blk w5 w.heap.size 24 rt ∧ w.grownBy w5 none from by
         rw [hw5, hqb]
         have g5 := grown_row (World.grownBy_alloc w4 (.cells Z16 24) none) (.inl (Nat.le_refl _)) ts
         exact ⟨(Blk.new w4 24 Z16).row ts, H4.out.1.grown g5 (by simp), grown_trans H4.out.2 g5⟩)
       clear hw5 hqb)
    | (refine wpList_load_row_w (by rfl) 24 _ rfl qb rfl 24 ts (0, 0) _ H5.out.1 Tryz.underlying24 rfl (by rw [HT.out.1]; exact info16) ?_)
    | (refine wpList_load_row_w (by rfl) 24 _ rfl w.heap.size rfl 24 rt (0, 0) _ H5.out.2.1 Tryz.underlying24 rfl (by rw [HS.out.1]; exact info16) ?_))
  go_ret
  exact ⟨rfl, H5.out.2.2⟩
end Go.Proofs.YtmoebkdbnldbdaaGreatDoor
