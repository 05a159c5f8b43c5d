/-
  ChainsNoLess, walked.
-/
import Derived.Test.YtjcbfenkpdpbeaaDg3
import Derived.Test.YtjcbfenkpdpbeaaArrEq
import Derived.Deep.RegionHeld3
import Derived.BigQuiet
namespace Go.Proofs.Ytjcbfenkpdpbeaa
open Go.RowKit

theorem zero_run3 {P : Program} {t : TypeId} {v : Value} (w : World) (h : (P.info? t).bind (·.zero) = some v) : Sem.run P (zeroValue t) w = .ok v w := by
  cases hq : P.info? t with
  | none => simp [hq] at h
  | some i =>
    have h1 : i.zero = some v := by simpa [hq] using h
    simp [zeroValue, typeInfo, hq, h1]
theorem eqD (w : World) (l1 l2 : List Int) (h1 : l1.length = 16) (h2 : l2.length = 16) : Sem.run Try.prog (Op.equalIn 10000 23 (.agg (arrV .u8 l1)) (.agg (arrV .u8 l2))) w = .ok (decide (l1 = l2)) w :=
  eq_arr w 9998 Try.underlying23 (by kernel_rfl) Try.underlying5 (by kernel_rfl) (by kernel_rfl) l1 l2 h1 h2

set_option maxRecDepth 100000 in
set_option maxHeartbeats 1000000 in
theorem alive_is (w : World) : Calls Try.prog 5 #[] w fun e w' => e = .returned (.bool true) ∧ w.grownBy w' none := by
  obtain ⟨zs, hzs⟩ : ∃ zs, zs = arrV .u8 (List.replicate 16 0) := ⟨_, rfl⟩
  have hz : ∀ w, Sem.run Try.prog (zeroValue 23) w = .ok (.agg zs) w := fun w => by rw [hzs]; exact zero_run3 w (by kernel_rfl)
  have HZ := Lib.hid hzs
  clear hzs
  go_enter Try.func5, Try.ntmps5
  go_wp2_with fail
  rw [HZ.out]
  refine (digits_is w (List.replicate 16 0) (by simp) (fun z hz => by have := List.eq_of_mem_replicate hz; omega)).mono ?_
  rintro e w1 ⟨g, cap, rfl, hc, _, hk⟩
  have c0 := hc 0 (by omega)
  have c1 := hc 63 (by omega)
  have c2 := hc 64 (by omega)
  have c3 := hc 65 (by omega)
  have c4 := hc 67 (by omega)
  rw [show (digitsS (List.replicate 16 0)).getD 0 0 = 0 by kernel_rfl] at c0
  rw [show (digitsS (List.replicate 16 0)).getD 63 0 = 0 by kernel_rfl] at c1
  rw [show (digitsS (List.replicate 16 0)).getD 64 0 = 3 by kernel_rfl] at c2
  rw [show (digitsS (List.replicate 16 0)).getD 65 0 = 0 by kernel_rfl] at c3
  rw [show (digitsS (List.replicate 16 0)).getD 67 0 = 0 by kernel_rfl] at c4
  clear hc
  go_wp2_with fail
  go_ret
  exact ⟨rfl, hk⟩

theorem wpList_load_mid_want {P : Program} {ops : Array Oper} {rest : List Oper} {op : Oper} {a : Act} {w : World} {Q : Exit → Act → World → Prop} (hw : Region.wanted op (yielded ops a.tmps) = true) (ty : TypeId) (x : Operand) (ho : op.op = .load ty x)
    (b o : Nat) (hx : a.eval x = .pointer (some ⟨b, o, none⟩)) (cs : List Value) (d : TypeDesc) (hc : w.rangeAt b o cs)
    (hu : P.underlying ty = some d) (hd : d.isRow = true) (hi : (P.info? ty).map (·.size) = some cs.length)
    (h : wpList P ops Q rest (a.put op.dst (.agg cs.toArray)) w) : wpList P ops Q (op :: rest) a w :=
  BigFrame.wpList_want hw fun _ hK => wp_load_mid ty x ho b o hx cs d hc hu hd hi (hK _ _ h)

def lessK (x y : List Int) (k : Nat) : Bool := (List.range k).any fun j => decide (x.getD j 0 < y.getD j 0)
theorem lessK_succ (x y : List Int) (k : Nat) : lessK x y (k + 1) = (lessK x y k || decide (x.getD k 0 < y.getD k 0)) := by
  rw [lessK, List.range_succ, List.any_append]; simp [lessK]
theorem lessK_all (a b : List Int) (ha : a.length = 16) (hb : b.length = 16) (ra : ∀ z ∈ a, 0 ≤ z ∧ z < 256) (rb : ∀ z ∈ b, 0 ≤ z ∧ z < 256) : lessK (digitsS a) (digitsS b) 68 = !decide (a = b) := by
  by_cases h : a = b
  · subst h
    simp [lessK]
  · rw [show (!decide (a = b)) = true by simp [h]]
    cases hl : lessK (digitsS a) (digitsS b) 68 with
    | true => rfl
    | false =>
      exfalso
      refine h (no_less a b ha hb ra rb fun i hi => ?_)
      have := List.any_eq_false.1 hl i (List.mem_range.2 hi)
      simpa using this

set_option linter.unusedSimpArgs false in
set_option maxRecDepth 100000 in
set_option maxHeartbeats 2000000 in
theorem less_any (w : World) (a b : List Int) (ha : a.length = 16) (hb : b.length = 16) (ra : ∀ z ∈ a, 0 ≤ z ∧ z < 256) (rb : ∀ z ∈ b, 0 ≤ z ∧ z < 256) :
    Calls Try.prog 4 #[.agg (arrV .u8 a), .agg (arrV .u8 b)] w fun e w' => e = .returned (.bool true) ∧ w.grownBy w' none := by
  obtain ⟨da, hda⟩ : ∃ da, da = arrV .u8 a := ⟨_, rfl⟩
  obtain ⟨db, hdb⟩ : ∃ db, db = arrV .u8 b := ⟨_, rfl⟩
  rw [← hda, ← hdb]
  have HA := Lib.hid (And.intro hda (And.intro ha ra))
  have HB := Lib.hid (And.intro hdb (And.intro hb rb))
  have HBA := Lib.hid (Blk.alloc (Blk.new w 23 da) (.cells db 23))
  have hbb := Blk.new (w.alloc (.cells da 23)) 23 db
  rw [World.size_alloc] at hbb
  have HBB := Lib.hid hbb
  have HG0 := Lib.hid (grown_trans (World.grownBy_alloc w (.cells da 23) none) (World.grownBy_alloc _ (.cells db 23) none))
  clear hda hdb ha hb ra rb hbb
  go_enter Try.func4, Try.ntmps4
  go_wp2_with fail
  generalize (w.alloc (.cells da 23)).alloc (.cells db 23) = w0 at *
  refine (alive_is w0).mono ?_
  rintro e w1 ⟨rfl, hk1⟩
  have HBA1 := Lib.hid (HBA.out.grown hk1 (by simp))
  have HBB1 := Lib.hid (HBB.out.grown hk1 (by simp))
  have HG1 := Lib.hid (grown_trans HG0.out hk1)
  clear hk1 HBA HBB HG0
  obtain ⟨la, hla⟩ : ∃ la, la = da.toList := ⟨_, rfl⟩
  obtain ⟨lb, hlb⟩ : ∃ lb, lb = db.toList := ⟨_, rfl⟩
  have hS : ∀ W, w1.grownBy W none → W.rangeAt w.heap.size 0 la ∧ W.rangeAt (w.heap.size + 1) 0 lb := fun W hW => by
    have h1 := HBA1.out.grown hW (by simp)
    have h2 := HBB1.out.grown hW (by simp)
    refine ⟨fun j v hv => ?_, fun j v hv => ?_⟩
    · rw [Nat.zero_add, h1.cell, ← Array.getElem?_toList, ← hla]; exact hv
    · rw [Nat.zero_add, h2.cell, ← Array.getElem?_toList, ← hlb]; exact hv
  have HS := Lib.hid hS
  have hua := Try.underlying23
  have hia : (Try.prog.info? 23).map (·.size) = some la.length := by rw [hla, HA.out.1, Array.length_toList, arr_size, HA.out.2.1]; kernel_rfl
  have hib : (Try.prog.info? 23).map (·.size) = some lb.length := by rw [hlb, HB.out.1, Array.length_toList, arr_size, HB.out.2.1]; kernel_rfl
  have hma : Array.mk la = da := by rw [hla]
  have hmb : Array.mk lb = db := by rw [hlb]
  have hS1 := hS w1.drew (grown_drew (World.grownBy.refl w1 none))
  clear hS hla hlb
  go_wp2_with fail
  refine wp_region_held_drew (S := fun W => W.rangeAt w.heap.size 0 la ∧ W.rangeAt (w.heap.size + 1) 0 lb) (by kernel_rfl) hS1 (fun _ => ?_)
  refine wpAnyH_take (i := 0) (oi := _) (v := .agg la.toArray) rfl (by kernel_rfl) (by kernel_rfl) (by kernel_rfl) (fun _ _ _ h => h) (yieldsIf_load_mid (by rfl) 23 _ rfl w.heap.size 0 rfl la _ (fun W hSw => hSw.1) hua rfl hia) (by assumption) ?_
  try simp only [Act.put, List.setIfInBounds_toArray, List.set_cons_zero, List.set_cons_succ]
  refine wpAnyH_take (i := 2) (oi := _) (v := .agg lb.toArray) rfl (by kernel_rfl) (by kernel_rfl) (by kernel_rfl) (fun _ _ _ h => h) (yieldsIf_load_mid (by rfl) 23 _ rfl (w.heap.size + 1) 0 rfl lb _ (fun W hSw => hSw.2) hua rfl hib) (by assumption) ?_
  try simp only [Act.put, List.setIfInBounds_toArray, List.set_cons_zero, List.set_cons_succ]
  refine wpAnyH_ready (rs := [1]) (by kernel_rfl) (by simp) ?_
  refine AllReadyH.cons (o := _) rfl (fun Ka hKa => ?_) AllReadyH.nil
  go_simp
  go_at_call 7
  rw [HA.out.1]
  refine (digits_is _ a HA.out.2.1 HA.out.2.2).mono ?_
  rintro e wa ⟨ga, capa, rfl, hca, _, hka⟩
  rw [← HA.out.1]
  have hGa : w1.grownBy wa none := grown_trans (grown_drew (World.grownBy.refl w1 none)) hka
  have hSa := HS.out wa hGa
  go_wp2_with fail
  refine hKa.out _ _ hSa (fun _ => ?_)
  clear hKa Ka
  try simp only [Act.put, List.setIfInBounds_toArray, List.set_cons_zero, List.set_cons_succ]
  refine wpAnyH_ready (rs := [3]) (by kernel_rfl) (by simp) ?_
  refine AllReadyH.cons (o := _) rfl (fun Kb hKb => ?_) AllReadyH.nil
  go_simp
  go_at_call 7
  rw [HB.out.1]
  refine (digits_is _ b HB.out.2.1 HB.out.2.2).mono ?_
  rintro e wb ⟨gb, capb, rfl, hcb, _, hkb⟩
  rw [← HB.out.1]
  have hGb : w1.grownBy wb none := grown_trans hGa hkb
  have hSb := HS.out wb hGb
  go_wp2_with fail
  refine hKb.out _ _ hSb (fun _ => ?_)
  clear hKb Kb
  try simp only [Act.put, List.setIfInBounds_toArray, List.set_cons_zero, List.set_cons_succ]
  refine wpAnyH_take (i := 4) (oi := _) (v := ?va4) rfl (by kernel_rfl) (by kernel_rfl) (by kernel_rfl) (fun _ _ _ h => h) (Or.inl ⟨by rfl, ?hya4⟩) (by assumption) ?resta4
  case hya4 => (intro W hSw; (try dsimp only at hSw); go_simp) <;> with_reducible rfl
  try simp only [Act.put, List.setIfInBounds_toArray, List.set_cons_zero, List.set_cons_succ]
  refine wpAnyH_take (i := 5) (oi := _) (v := ?va5) rfl (by kernel_rfl) (by kernel_rfl) (by kernel_rfl) (fun _ _ _ h => h) (Or.inl ⟨by rfl, ?hya5⟩) (by assumption) ?resta5
  case hya5 => (intro W hSw; (try dsimp only at hSw); go_simp) <;> with_reducible rfl
  try simp only [Act.put, List.setIfInBounds_toArray, List.set_cons_zero, List.set_cons_succ]
  refine wpAnyH_done (by kernel_rfl) ?_ _
  have HXa := Lib.hid (fun j (hj : j < 68) => hkb.cell (hca j hj) (by simp))
  have HXb := Lib.hid hcb
  have HGf := Lib.hid (grown_trans HG1.out hGb)
  have HSf := Lib.hid (fun W hW => HS.out W (grown_trans hGb hW))
  clear hGa hGb hca hcb hka hkb hSa hSb
  generalize wb = wf at HXa HXb HGf HSf ⊢
  obtain ⟨x, hx⟩ : ∃ x, x = digitsS a := ⟨_, rfl⟩
  obtain ⟨y, hy⟩ : ∃ y, y = digitsS b := ⟨_, rfl⟩
  rw [← hx] at HXa
  rw [← hy] at HXb
  have hxl : x.length = 68 := by rw [hx, digitsS_length, HA.out.2.1]
  have hyl : y.length = 68 := by rw [hy, digitsS_length, HB.out.2.1]
  have hxr : ∀ k, k < 68 → 0 ≤ x.getD k 0 ∧ x.getD k 0 ≤ 3 := fun k hk => by
    rw [List.getD, List.getElem?_eq_getElem (by rw [hxl]; exact hk)]
    exact digitsS_range a _ (hx ▸ List.getElem_mem _)
  have HXR := Lib.hid hxr
  have hall : lessK x y 68 = !decide (a = b) := by rw [hx, hy]; exact lessK_all a b HA.out.2.1 HB.out.2.1 HA.out.2.2 HB.out.2.2
  have hall2 : lessK y x 68 = !decide (a = b) := by
    rw [hx, hy, lessK_all b a HB.out.2.1 HA.out.2.1 HB.out.2.2 HA.out.2.2]
    congr 1
    rw [decide_eq_decide]
    exact eq_comm
  have HALL := Lib.hid (And.intro hall hall2)
  clear hx hy hxl hyl hxr hall hall2
  go_wp2_with fail
  go_loopw [26, 7, 8] (fun i p q wr => ∃ k : Nat, k ≤ 68 ∧ i = .int .i64 (k : Int) ∧ p = .bool (lessK x y k) ∧ q = .bool (lessK y x k) ∧ wf.grownBy wr none) (fun i _ _ _ => 68 - (intOf i).toNat)
  case atStart => exact ⟨0, by omega, rfl, rfl, rfl, World.grownBy.refl wf none⟩
  case round =>
    obtain ⟨k, hk, hi, hp, hq, hK⟩ := hrel
    obtain ⟨I, hI⟩ : ∃ I : Int, I = (k : Int) := ⟨_, rfl⟩
    rw [← hI] at hi
    obtain ⟨P, hP⟩ : ∃ P, P = lessK x y k := ⟨_, rfl⟩
    obtain ⟨R, hR⟩ : ∃ R, R = lessK y x k := ⟨_, rfl⟩
    rw [← hP] at hp
    rw [← hR] at hq
    subst hi hp hq
    by_cases hlt : k < 68
    · have d1 : decide (I < 68) = true := by simp; omega
      obtain ⟨X, hX⟩ : ∃ X, X = x.getD k 0 := ⟨_, rfl⟩
      obtain ⟨Y, hY⟩ : ∃ Y, Y = y.getD k 0 := ⟨_, rfl⟩
      have hkI : I.toNat = k := by omega
      have cX : wr.cell? ⟨ga, I.toNat, none⟩ = some (.int .i64 X) := by rw [hkI, hX]; exact hK.cell (HXa.out k hlt) (by simp)
      have cY : wr.cell? ⟨gb, I.toNat, none⟩ = some (.int .i64 Y) := by rw [hkI, hY]; exact hK.cell (HXb.out k hlt) (by simp)
      have hXr := HXR.out k hlt
      rw [← hX] at hXr
      have e0 : decide (X < 0) = false := by simp; omega
      have e3 : decide (3 < X) = false := by simp; omega
      have hI68 : 0 ≤ I ∧ I < 68 := by omega
      have s1 := lessK_succ x y k
      have s2 := lessK_succ y x k
      rw [← hP, ← hX, ← hY] at s1
      rw [← hR, ← hX, ← hY] at s2
      have HK := Lib.hid (And.intro hI (And.intro hlt (And.intro s1 s2)))
      have HG := Lib.hid hK
      clear hI hlt s1 s2 hP hR hX hY hK hk hkI hXr
      cases P
      · cases R
        · go_wp2_with fail
          go_quiet (fail)
          generalize nq = m1
          go_wp2_with fail
          go_quiet (fail)
          go_wp2_with fail
          go_roundw
          case rel =>
            obtain ⟨hI, hlt, s1, s2⟩ := HK.out
            exact ⟨k + 1, by omega, by rw [hI]; rfl, by rw [s1]; rfl, by rw [s2]; rfl, ⟨HG.out.os, HG.out.tape, HG.out.output, HG.out.size, HG.out.block⟩⟩
          case measure => obtain ⟨hI, hlt, _⟩ := HK.out; simp [intOf]; omega
        · go_wp2_with fail
          go_quiet (fail)
          generalize nq = m1
          go_wp2_with fail
          go_quiet (fail)
          go_wp2_with fail
          go_roundw
          case rel =>
            obtain ⟨hI, hlt, s1, s2⟩ := HK.out
            exact ⟨k + 1, by omega, by rw [hI]; rfl, by rw [s1]; rfl, by rw [s2]; rfl, ⟨HG.out.os, HG.out.tape, HG.out.output, HG.out.size, HG.out.block⟩⟩
          case measure => obtain ⟨hI, hlt, _⟩ := HK.out; simp [intOf]; omega
      · cases R
        · go_wp2_with fail
          go_quiet (fail)
          generalize nq = m1
          go_wp2_with fail
          go_quiet (fail)
          go_wp2_with fail
          go_roundw
          case rel =>
            obtain ⟨hI, hlt, s1, s2⟩ := HK.out
            exact ⟨k + 1, by omega, by rw [hI]; rfl, by rw [s1]; rfl, by rw [s2]; rfl, ⟨HG.out.os, HG.out.tape, HG.out.output, HG.out.size, HG.out.block⟩⟩
          case measure => obtain ⟨hI, hlt, _⟩ := HK.out; simp [intOf]; omega
        · go_wp2_with fail
          go_quiet (fail)
          generalize nq = m1
          go_wp2_with fail
          go_quiet (fail)
          go_wp2_with fail
          go_roundw
          case rel =>
            obtain ⟨hI, hlt, s1, s2⟩ := HK.out
            exact ⟨k + 1, by omega, by rw [hI]; rfl, by rw [s1]; rfl, by rw [s2]; rfl, ⟨HG.out.os, HG.out.tape, HG.out.output, HG.out.size, HG.out.block⟩⟩
          case measure => obtain ⟨hI, hlt, _⟩ := HK.out; simp [intOf]; omega
    · have d1 : decide (I < 68) = false := by simp; omega
      obtain rfl : k = 68 := by omega
      obtain ⟨bz, hbz⟩ : ∃ bz, bz = decide (a = b) := ⟨_, rfl⟩
      rw [HALL.out.1, ← hbz] at hP
      rw [HALL.out.2, ← hbz] at hR
      have heq : ∀ w, Sem.run Try.prog (Op.equalIn 10000 23 (.agg da) (.agg db)) w = .ok bz w := fun w => by rw [HA.out.1, HB.out.1, hbz]; exact eqD w a b HA.out.2.1 HB.out.2.1
      have HR2 := Lib.hid (HSf.out wr hK)
      have HIL := Lib.hid (And.intro hia hib)
      have HU := Lib.hid hua
      have HM := Lib.hid (And.intro (show la.toArray = da from hma) (show lb.toArray = db from hmb))
      have HG := Lib.hid hK
      subst hP hR
      clear hI hlt hK hk hbz hia hib hua hma hmb
      cases bz
      · go_wp2_with (first
          | (refine wpList_load_mid rfl 23 _ rfl w.heap.size 0 rfl la _ HR2.out.1 HU.out rfl HIL.out.1 ?_; rw [HM.out.1])
          | (refine wpList_load_mid rfl 23 _ rfl (w.heap.size + 1) 0 rfl lb _ HR2.out.2 HU.out rfl HIL.out.2 ?_; rw [HM.out.2])
          | (refine wpList_load_mid_want (by rfl) 23 _ rfl w.heap.size 0 rfl la _ HR2.out.1 HU.out rfl HIL.out.1 ?_; rw [HM.out.1])
          | (refine wpList_load_mid_want (by rfl) 23 _ rfl (w.heap.size + 1) 0 rfl lb _ HR2.out.2 HU.out rfl HIL.out.2 ?_; rw [HM.out.2]))
        go_ret
        exact ⟨rfl, grown_trans HGf.out HG.out⟩
      · go_wp2_with (first
          | (refine wpList_load_mid rfl 23 _ rfl w.heap.size 0 rfl la _ HR2.out.1 HU.out rfl HIL.out.1 ?_; rw [HM.out.1])
          | (refine wpList_load_mid rfl 23 _ rfl (w.heap.size + 1) 0 rfl lb _ HR2.out.2 HU.out rfl HIL.out.2 ?_; rw [HM.out.2])
          | (refine wpList_load_mid_want (by rfl) 23 _ rfl w.heap.size 0 rfl la _ HR2.out.1 HU.out rfl HIL.out.1 ?_; rw [HM.out.1])
          | (refine wpList_load_mid_want (by rfl) 23 _ rfl (w.heap.size + 1) 0 rfl lb _ HR2.out.2 HU.out rfl HIL.out.2 ?_; rw [HM.out.2]))
        go_ret
        exact ⟨rfl, grown_trans HGf.out HG.out⟩
end Go.Proofs.Ytjcbfenkpdpbeaa
