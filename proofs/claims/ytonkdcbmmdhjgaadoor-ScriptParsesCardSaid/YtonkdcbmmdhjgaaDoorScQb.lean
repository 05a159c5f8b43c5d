/-
  The document's own: bits that belong to an op.
-/
import Derived.Test.YtonkdcbmmdhjgaaDoorScQ
namespace Go.Proofs.YtonkdcbmmdhjgaaDoor
open Go.RowKit Go.Shelf

attribute [local go_sem] Oper.semAt_some

set_option maxRecDepth 100000 in
set_option maxHeartbeats 2000000 in
theorem partB_is (w : World) (g base : Nat) (o : OpM) (hb : Blk w g 56 o.val) (ho : o.Own w base) (hbase : base ≤ w.heap.size) (h3 : o.A2 = none ∧ o.c2 = 0 ∧ o.v.keep = []) (s : ByteArray) (l : List UInt8) (hl : s.data.toList = l) (hs : s.size ≤ 100000) (hd : ¬ s = ⟨#[45]⟩) (he : ¬ s = ⟨#[]⟩) :
    Calls Tryd.prog 19 #[.pointer (some ⟨g, 0, none⟩), .int .u8 98, .string s] w (PartPost w g base 98 l o) := by
  obtain ⟨Q, hQ⟩ : ∃ Q, Q = PartPost w g base 98 l o := ⟨_, rfl⟩
  rw [← hQ]
  obtain ⟨i0, hi0, hz0, hz1, hz2⟩ := info_parts bool_info
  have HI0 := Lib.hid (And.intro hi0 (And.intro hz0 (And.intro hz1 hz2)))
  have hln : l.length = s.size := by rw [← hl]; exact Array.length_toList
  have dd := lit_neB (a := [45]) hd
  have de := lit_neB (a := []) he
  have hdl : ¬ l = [45] := fun e => hd (by rw [← strB_of s, hl, e]; rfl)
  have hel : ¬ l = [] := fun e => he (by rw [← strB_of s, hl, e]; rfl)
  have h1l : 1 ≤ l.length := List.length_pos_iff.2 hel
  have hr := Lib.hid (show readS 98 l o.v = (if l.all bitOk = true ∧ l.length ≤ 64 then some (l.map (· == 49)) else none).map fun v => { o.v with keep := v } by
    show (bitsS l).map _ = _
    unfold bitsS
    rw [if_neg hdl]
    by_cases h : l.all bitOk = true ∧ l.length ≤ 64
    · rw [if_pos h, if_pos ⟨h.1, h1l, h.2⟩]
    · rw [if_neg h, if_neg (fun q => h ⟨q.1, q.2.2⟩)])
  have HX := Lib.hid (And.intro hQ (And.intro hl (And.intro hln (And.intro hb (And.intro ho hbase)))))
  have H3 := Lib.hid h3
  clear hQ hb ho hl hi0 hz0 hz1 hz2 hdl hel hd he hbase h3 h1l
  go_enter Tryd.func19, Tryd.ntmps19
  go_wp2_with fail
  go_loopw [14] (fun i wr => ∃ (k : Nat) (A2 : Option Addr) (c2 : Nat), k ≤ s.size ∧ i = .int .i64 (k : Int) ∧ Hid ((l.take k).all bitOk = true ∧ Blk wr g 56 #[.int .i64 o.v.kind, .int .i64 o.v.node, .int .i64 o.v.n, .slice o.A1 o.v.set.length o.c1, .slice A2 k c2, .slice o.A3 o.v.data.length o.c3] ∧ wr.ownsRow w.heap.size 4 1 (.slice A2 k c2) k (((l.take k).map (· == 49)).map Value.bool) ∧ w.grownBy wr (some g))) (fun i _ => s.size - (intOf i).toNat)
  case atStart =>
    refine ⟨0, none, 0, Nat.zero_le _, rfl, Lib.hid ⟨rfl, ?_, World.ownsRow_nil _ _ _ _, World.grownBy.refl _ _⟩⟩
    have h := HX.out.2.2.2.1
    unfold OpM.val at h
    rwa [H3.out.1, H3.out.2.1, H3.out.2.2] at h
  case round =>
    obtain ⟨k, A2, c2, hk, rfl, HI⟩ := hrel
    rename World => wr
    by_cases hlt : k < s.size
    · have d1 : decide ((k : Int) < (s.size : Int)) = true := by simp; omega
      have hkl : k < l.length := by rw [HX.out.2.2.1]; exact hlt
      obtain ⟨b, hbx⟩ : ∃ b, b = l[k] := ⟨_, rfl⟩
      have hbq : l[k]? = some b := by rw [hbx]; exact List.getElem?_eq_getElem hkl
      have hbm : b ∈ l := by rw [hbx]; exact List.getElem_mem hkl
      obtain ⟨B, hB⟩ : ∃ B : Int, B = (b.toNat : Int) := ⟨_, rfl⟩
      have hix : ∀ W, Sem.run Tryd.prog (Instr.index 9 (.string s) (.int .i64 (k : Int))) W = .ok (.int .u8 B) W := fun W => by rw [hB]; exact str_at _ k b (by rw [HX.out.2.1]; exact hbq) W
      have htk : l.take (k + 1) = l.take k ++ [b] := by rw [List.take_add_one, hbq]; rfl
      have c4 : wr.cell? ⟨g, 4, none⟩ = some (.slice A2 k c2) := HI.out.2.1.cell 4
      have HH := Lib.hid (And.intro hB (And.intro htk hbm))
      clear hB htk hbm hbq hbx hkl
      by_cases hB48 : B = 48
      · skip
        have hbv : (b == 49) = false := by rw [show b = 48 from UInt8.toNat_inj.1 (by show b.toNat = 48; have := HH.out.1; omega)]; rfl
        have hok : bitOk b = true := by rw [show b = 48 from UInt8.toNat_inj.1 (by show b.toNat = 48; have := HH.out.1; omega)]; rfl
        have e3 : (B == 49) = false := by rw [hB48]; rfl
        have e4 : (B != 48) = false := by rw [hB48]; rfl
        have e5 : (B != 49) = true := by rw [hB48]; rfl
        have HV := Lib.hid (And.intro hbv hok)
        clear hbv hok hB48
        have hrun : ∃ A' c' w', (Builtin.append_ #[36, 36] 36 #[.slice A2 k c2, .slice (some ⟨wr.heap.size, 0, none⟩) 1 1]).run Tryd.prog (wr.drew.alloc (.cells #[.bool false] 4)) = .ok (.slice A' (k + 1) c') w' ∧ w'.ownsRow w.heap.size 4 1 (.slice A' (k + 1) c') (k + 1) (((l.take k).map (· == 49)).map Value.bool ++ [.bool false]) ∧ wr.drew.grownBy w' (Value.slice A2 k c2).ownBlock := by
          obtain ⟨v', w', h1, h2, h3⟩ := push_run wr.drew 36 36 4 4 i0 (.bool false) 1 Tryd.underlying36 HI0.out.1 HI0.out.2.1 HI0.out.2.2.1 HI0.out.2.2.2 rfl w.heap.size (.slice A2 k c2) k _ HI.out.2.2.1 [.bool false] (by simp [Value.oneCell']) (by omega) (by simp) (by omega) HI.out.2.2.2.size
          obtain ⟨A', c', rfl⟩ := own_slice _ h2
          exact ⟨A', c', w', h1, h2, h3⟩
        obtain ⟨A', c', w3, hrun, hown3, hgrow⟩ := hrun
        have b3 := (HI.out.2.1.grown (grown_drew (World.grownBy.refl wr none)) (by simp)).grown hgrow (own_ne HI.out.2.2.1 HI.out.2.1 (by decide)).symm
        have c6 : w3.cell? ⟨g, 4, none⟩ = some (.slice A2 k c2) := b3.cell 4
        have f6 := b3.frozen 4
        have c7 : (wr.drew.alloc (.cells #[.bool false] 4)).cell? ⟨g, 4, none⟩ = some (.slice A2 k c2) := (World.grownBy_alloc wr.drew _ none).cell (show wr.drew.cell? ⟨g, 4, none⟩ = some (.slice A2 k c2) from c4) (by simp)
        have c8 : (wr.alloc (.cells #[.bool false] 4)).drew.cell? ⟨g, 4, none⟩ = some (.slice A2 k c2) := c7
        have c9 : (wr.alloc (.cells #[.bool false] 4)).cell? ⟨g, 4, none⟩ = some (.slice A2 k c2) := c7
        have gs := gset w3 g 4 (.slice A' (k + 1) c')
        have g3 : w.grownBy w3 (some g) := by
          cases hob : (Value.slice A2 k c2).ownBlock with
          | none => rw [hob] at hgrow; exact grown_trans (grown_drew HI.out.2.2.2) (grown_weak hgrow (some g))
          | some gx => rw [hob] at hgrow; exact grown_fresh (grown_drew HI.out.2.2.2) hgrow (HI.out.2.2.1.lt gx hob).1
        have HN := Lib.hid (And.intro (b3.set 4 (.slice A' (k + 1) c')) (And.intro (own_apart hown3 b3 (by decide) gs) (grown_trans g3 gs)))
        clear b3 gs g3 hown3 hgrow
        go_upto_region 40 with (fail)
        refine wp_region_held_drew (S := fun _ => True) (by kernel_rfl) trivial (fun hHeld => ?_)
        refine wpAnyH_take (i := 0) (oi := _) (v := ?va480) rfl (by kernel_rfl) (by kernel_rfl) (by kernel_rfl) (fun _ _ _ h => h) (Or.inl ⟨by rfl, ?hya480⟩) (by assumption) ?resta480
        case hya480 => (intro V hSw; (try dsimp only at hSw); go_simp) <;> with_reducible rfl
        try simp only [Act.put, List.getElem_toArray, List.getElem_cons_succ, List.getElem_cons_zero, List.setIfInBounds_toArray, List.set_cons_zero, List.set_cons_succ]
        refine wpAnyH_take (i := 1) (oi := _) (v := ?va481) rfl (by kernel_rfl) (by kernel_rfl) (by kernel_rfl) (fun _ _ _ h => h) (Or.inl ⟨by rfl, ?hya481⟩) (by assumption) ?resta481
        case hya481 => (intro V hSw; (try dsimp only at hSw); go_simp) <;> with_reducible rfl
        try simp only [Act.put, List.getElem_toArray, List.getElem_cons_succ, List.getElem_cons_zero, List.setIfInBounds_toArray, List.set_cons_zero, List.set_cons_succ]
        refine wpAnyH_take (i := 2) (oi := _) (v := ?va482) rfl (by kernel_rfl) (by kernel_rfl) (by kernel_rfl) (fun _ _ _ h => h) (Or.inl ⟨by rfl, ?hya482⟩) (by assumption) ?resta482
        case hya482 => (intro V hSw; (try dsimp only at hSw); go_simp) <;> with_reducible rfl
        try simp only [Act.put, List.getElem_toArray, List.getElem_cons_succ, List.getElem_cons_zero, List.setIfInBounds_toArray, List.set_cons_zero, List.set_cons_succ]
        refine wpAnyH_take (i := 3) (oi := _) (v := ?va483) rfl (by kernel_rfl) (by kernel_rfl) (by kernel_rfl) (fun _ _ _ h => h) (Or.inl ⟨by rfl, ?hya483⟩) (by assumption) ?resta483
        case hya483 => (intro V hSw; (try dsimp only at hSw); go_simp) <;> with_reducible rfl
        try simp only [Act.put, List.getElem_toArray, List.getElem_cons_succ, List.getElem_cons_zero, List.setIfInBounds_toArray, List.set_cons_zero, List.set_cons_succ]
        refine wpAnyH_take (i := 5) (oi := _) (v := ?va485) rfl (by kernel_rfl) (by kernel_rfl) (by kernel_rfl) (fun _ _ _ h => h) (Or.inl ⟨by rfl, ?hya485⟩) (by assumption) ?resta485
        case hya485 => (intro V hSw; (try dsimp only at hSw); go_simp) <;> with_reducible rfl
        try simp only [Act.put, List.getElem_toArray, List.getElem_cons_succ, List.getElem_cons_zero, List.setIfInBounds_toArray, List.set_cons_zero, List.set_cons_succ]
        refine wpAnyH_take (i := 6) (oi := _) (v := ?va486) rfl (by kernel_rfl) (by kernel_rfl) (by kernel_rfl) (fun _ _ _ h => h) (Or.inl ⟨by rfl, ?hya486⟩) (by assumption) ?resta486
        case hya486 => (intro V hSw; (try dsimp only at hSw); go_simp) <;> with_reducible rfl
        try simp only [Act.put, List.getElem_toArray, List.getElem_cons_succ, List.getElem_cons_zero, List.setIfInBounds_toArray, List.set_cons_zero, List.set_cons_succ]
        refine wpAnyH_take (i := 7) (oi := _) (v := ?va487) rfl (by kernel_rfl) (by kernel_rfl) (by kernel_rfl) (fun _ _ _ h => h) (Or.inl ⟨by rfl, ?hya487⟩) (by assumption) ?resta487
        case hya487 => (intro V hSw; (try dsimp only at hSw); go_simp) <;> with_reducible rfl
        try simp only [Act.put, List.getElem_toArray, List.getElem_cons_succ, List.getElem_cons_zero, List.setIfInBounds_toArray, List.set_cons_zero, List.set_cons_succ]
        refine wpAnyH_take (i := 8) (oi := _) (v := ?va488) rfl (by kernel_rfl) (by kernel_rfl) (by kernel_rfl) (fun _ _ _ h => h) (Or.inl ⟨by rfl, ?hya488⟩) (by assumption) ?resta488
        case hya488 => (intro V hSw; (try dsimp only at hSw); go_simp) <;> with_reducible rfl
        try simp only [Act.put, List.getElem_toArray, List.getElem_cons_succ, List.getElem_cons_zero, List.setIfInBounds_toArray, List.set_cons_zero, List.set_cons_succ]
        refine wpAnyH_ready (rs := [4, 9]) (by kernel_rfl) (by simp) ?_
        refine (AllReadyH.cons (o := _) rfl (fun K9 hK => ?_) (AllReadyH.cons (o := _) rfl (fun K9 hK => ?_) AllReadyH.nil))
        · go_simp
          refine hK.out _ _ trivial (fun hHeld => ?_)
          clear hK K9
          try simp only [Act.put, List.getElem_toArray, List.getElem_cons_succ, List.getElem_cons_zero, List.setIfInBounds_toArray, List.set_cons_zero, List.set_cons_succ]
          refine wpAnyH_ready (rs := [9]) (by kernel_rfl) (by simp) ?_
          refine (AllReadyH.cons (o := _) rfl (fun K9 hK => ?_) AllReadyH.nil)
          go_simp
          refine hK.out _ _ trivial (fun hHeld => ?_)
          clear hK K9
          try simp only [Act.put, List.getElem_toArray, List.getElem_cons_succ, List.getElem_cons_zero, List.setIfInBounds_toArray, List.set_cons_zero, List.set_cons_succ]
          refine wpAnyH_ready (rs := [10]) (by kernel_rfl) (by simp) ?_
          refine (AllReadyH.cons (o := _) rfl (fun K9 hK => ?_) AllReadyH.nil)
          rw [if_pos (by rfl)]
          refine wp_append rfl rfl rfl hrun ?_
          refine hK.out _ _ trivial (fun hHeld => ?_)
          clear hK K9
          try simp only [Act.put, List.getElem_toArray, List.getElem_cons_succ, List.getElem_cons_zero, List.setIfInBounds_toArray, List.set_cons_zero, List.set_cons_succ]
          refine wpAnyH_take (i := 11) (oi := _) (v := ?va48z911) rfl (by kernel_rfl) (by kernel_rfl) (by kernel_rfl) (fun _ _ _ h => h) (Or.inl ⟨by rfl, ?hya48z911⟩) (by assumption) ?resta48z911
          case hya48z911 => (intro V hSw; (try dsimp only at hSw); go_simp) <;> with_reducible rfl
          try simp only [Act.put, List.getElem_toArray, List.getElem_cons_succ, List.getElem_cons_zero, List.setIfInBounds_toArray, List.set_cons_zero, List.set_cons_succ]
          refine wpAnyH_take (i := 12) (oi := _) (v := ?va48z912) rfl (by kernel_rfl) (by kernel_rfl) (by kernel_rfl) (fun _ _ _ h => h) (Or.inl ⟨by rfl, ?hya48z912⟩) (by assumption) ?resta48z912
          case hya48z912 => (intro V hSw; (try dsimp only at hSw); go_simp) <;> with_reducible rfl
          try simp only [Act.put, List.getElem_toArray, List.getElem_cons_succ, List.getElem_cons_zero, List.setIfInBounds_toArray, List.set_cons_zero, List.set_cons_succ]
          refine wpAnyH_ready (rs := [13]) (by kernel_rfl) (by simp) ?_
          refine (AllReadyH.cons (o := _) rfl (fun K9 hK => ?_) AllReadyH.nil)
          go_simp
          refine hK.out _ _ trivial (fun hHeld => ?_)
          clear hK K9
          try simp only [Act.put, List.getElem_toArray, List.getElem_cons_succ, List.getElem_cons_zero, List.setIfInBounds_toArray, List.set_cons_zero, List.set_cons_succ]
          refine wpAnyH_done (by kernel_rfl) ?_ _
          go_wp2_with fail
          go_roundw
          case rel =>
            obtain ⟨n1, n2, n3⟩ := HN.out
            refine ⟨k + 1, A', c', by omega, rfl, Lib.hid ⟨?_, n1, ?_, n3⟩⟩
            · rw [HH.out.2.1, List.all_append, HI.out.1]; simp [HV.out.2]
            · rw [HH.out.2.1, List.map_append, List.map_append]
              simp only [List.map_cons, List.map_nil, HV.out.1]
              exact n2
          case measure => simp [intOf]; omega
        · go_simp
          refine hK.out _ _ trivial (fun hHeld => ?_)
          clear hK K9
          try simp only [Act.put, List.getElem_toArray, List.getElem_cons_succ, List.getElem_cons_zero, List.setIfInBounds_toArray, List.set_cons_zero, List.set_cons_succ]
          refine wpAnyH_ready (rs := [4]) (by kernel_rfl) (by simp) ?_
          refine (AllReadyH.cons (o := _) rfl (fun K9 hK => ?_) AllReadyH.nil)
          go_simp
          refine hK.out _ _ trivial (fun hHeld => ?_)
          clear hK K9
          try simp only [Act.put, List.getElem_toArray, List.getElem_cons_succ, List.getElem_cons_zero, List.setIfInBounds_toArray, List.set_cons_zero, List.set_cons_succ]
          refine wpAnyH_ready (rs := [10]) (by kernel_rfl) (by simp) ?_
          refine (AllReadyH.cons (o := _) rfl (fun K9 hK => ?_) AllReadyH.nil)
          rw [if_pos (by rfl)]
          refine wp_append rfl rfl rfl hrun ?_
          refine hK.out _ _ trivial (fun hHeld => ?_)
          clear hK K9
          try simp only [Act.put, List.getElem_toArray, List.getElem_cons_succ, List.getElem_cons_zero, List.setIfInBounds_toArray, List.set_cons_zero, List.set_cons_succ]
          refine wpAnyH_take (i := 11) (oi := _) (v := ?va48z411) rfl (by kernel_rfl) (by kernel_rfl) (by kernel_rfl) (fun _ _ _ h => h) (Or.inl ⟨by rfl, ?hya48z411⟩) (by assumption) ?resta48z411
          case hya48z411 => (intro V hSw; (try dsimp only at hSw); go_simp) <;> with_reducible rfl
          try simp only [Act.put, List.getElem_toArray, List.getElem_cons_succ, List.getElem_cons_zero, List.setIfInBounds_toArray, List.set_cons_zero, List.set_cons_succ]
          refine wpAnyH_take (i := 12) (oi := _) (v := ?va48z412) rfl (by kernel_rfl) (by kernel_rfl) (by kernel_rfl) (fun _ _ _ h => h) (Or.inl ⟨by rfl, ?hya48z412⟩) (by assumption) ?resta48z412
          case hya48z412 => (intro V hSw; (try dsimp only at hSw); go_simp) <;> with_reducible rfl
          try simp only [Act.put, List.getElem_toArray, List.getElem_cons_succ, List.getElem_cons_zero, List.setIfInBounds_toArray, List.set_cons_zero, List.set_cons_succ]
          refine wpAnyH_ready (rs := [13]) (by kernel_rfl) (by simp) ?_
          refine (AllReadyH.cons (o := _) rfl (fun K9 hK => ?_) AllReadyH.nil)
          go_simp
          refine hK.out _ _ trivial (fun hHeld => ?_)
          clear hK K9
          try simp only [Act.put, List.getElem_toArray, List.getElem_cons_succ, List.getElem_cons_zero, List.setIfInBounds_toArray, List.set_cons_zero, List.set_cons_succ]
          refine wpAnyH_done (by kernel_rfl) ?_ _
          go_wp2_with fail
          go_roundw
          case rel =>
            obtain ⟨n1, n2, n3⟩ := HN.out
            refine ⟨k + 1, A', c', by omega, rfl, Lib.hid ⟨?_, n1, ?_, n3⟩⟩
            · rw [HH.out.2.1, List.all_append, HI.out.1]; simp [HV.out.2]
            · rw [HH.out.2.1, List.map_append, List.map_append]
              simp only [List.map_cons, List.map_nil, HV.out.1]
              exact n2
          case measure => simp [intOf]; omega
      by_cases hB49 : B = 49
      · skip
        have hbv : (b == 49) = true := by rw [show b = 49 from UInt8.toNat_inj.1 (by show b.toNat = 49; have := HH.out.1; omega)]; rfl
        have hok : bitOk b = true := by rw [show b = 49 from UInt8.toNat_inj.1 (by show b.toNat = 49; have := HH.out.1; omega)]; rfl
        have e3 : (B == 49) = true := by rw [hB49]; rfl
        have e4 : (B != 48) = true := by rw [hB49]; rfl
        have e5 : (B != 49) = false := by rw [hB49]; rfl
        have HV := Lib.hid (And.intro hbv hok)
        clear hbv hok hB49
        have hrun : ∃ A' c' w', (Builtin.append_ #[36, 36] 36 #[.slice A2 k c2, .slice (some ⟨wr.heap.size, 0, none⟩) 1 1]).run Tryd.prog (wr.drew.alloc (.cells #[.bool true] 4)) = .ok (.slice A' (k + 1) c') w' ∧ w'.ownsRow w.heap.size 4 1 (.slice A' (k + 1) c') (k + 1) (((l.take k).map (· == 49)).map Value.bool ++ [.bool true]) ∧ wr.drew.grownBy w' (Value.slice A2 k c2).ownBlock := by
          obtain ⟨v', w', h1, h2, h3⟩ := push_run wr.drew 36 36 4 4 i0 (.bool false) 1 Tryd.underlying36 HI0.out.1 HI0.out.2.1 HI0.out.2.2.1 HI0.out.2.2.2 rfl w.heap.size (.slice A2 k c2) k _ HI.out.2.2.1 [.bool true] (by simp [Value.oneCell']) (by omega) (by simp) (by omega) HI.out.2.2.2.size
          obtain ⟨A', c', rfl⟩ := own_slice _ h2
          exact ⟨A', c', w', h1, h2, h3⟩
        obtain ⟨A', c', w3, hrun, hown3, hgrow⟩ := hrun
        have b3 := (HI.out.2.1.grown (grown_drew (World.grownBy.refl wr none)) (by simp)).grown hgrow (own_ne HI.out.2.2.1 HI.out.2.1 (by decide)).symm
        have c6 : w3.cell? ⟨g, 4, none⟩ = some (.slice A2 k c2) := b3.cell 4
        have f6 := b3.frozen 4
        have c7 : (wr.drew.alloc (.cells #[.bool true] 4)).cell? ⟨g, 4, none⟩ = some (.slice A2 k c2) := (World.grownBy_alloc wr.drew _ none).cell (show wr.drew.cell? ⟨g, 4, none⟩ = some (.slice A2 k c2) from c4) (by simp)
        have c8 : (wr.alloc (.cells #[.bool true] 4)).drew.cell? ⟨g, 4, none⟩ = some (.slice A2 k c2) := c7
        have c9 : (wr.alloc (.cells #[.bool true] 4)).cell? ⟨g, 4, none⟩ = some (.slice A2 k c2) := c7
        have gs := gset w3 g 4 (.slice A' (k + 1) c')
        have g3 : w.grownBy w3 (some g) := by
          cases hob : (Value.slice A2 k c2).ownBlock with
          | none => rw [hob] at hgrow; exact grown_trans (grown_drew HI.out.2.2.2) (grown_weak hgrow (some g))
          | some gx => rw [hob] at hgrow; exact grown_fresh (grown_drew HI.out.2.2.2) hgrow (HI.out.2.2.1.lt gx hob).1
        have HN := Lib.hid (And.intro (b3.set 4 (.slice A' (k + 1) c')) (And.intro (own_apart hown3 b3 (by decide) gs) (grown_trans g3 gs)))
        clear b3 gs g3 hown3 hgrow
        go_upto_region 40 with (fail)
        refine wp_region_held_drew (S := fun _ => True) (by kernel_rfl) trivial (fun hHeld => ?_)
        refine wpAnyH_take (i := 0) (oi := _) (v := ?va490) rfl (by kernel_rfl) (by kernel_rfl) (by kernel_rfl) (fun _ _ _ h => h) (Or.inl ⟨by rfl, ?hya490⟩) (by assumption) ?resta490
        case hya490 => (intro V hSw; (try dsimp only at hSw); go_simp) <;> with_reducible rfl
        try simp only [Act.put, List.getElem_toArray, List.getElem_cons_succ, List.getElem_cons_zero, List.setIfInBounds_toArray, List.set_cons_zero, List.set_cons_succ]
        refine wpAnyH_take (i := 1) (oi := _) (v := ?va491) rfl (by kernel_rfl) (by kernel_rfl) (by kernel_rfl) (fun _ _ _ h => h) (Or.inl ⟨by rfl, ?hya491⟩) (by assumption) ?resta491
        case hya491 => (intro V hSw; (try dsimp only at hSw); go_simp) <;> with_reducible rfl
        try simp only [Act.put, List.getElem_toArray, List.getElem_cons_succ, List.getElem_cons_zero, List.setIfInBounds_toArray, List.set_cons_zero, List.set_cons_succ]
        refine wpAnyH_take (i := 2) (oi := _) (v := ?va492) rfl (by kernel_rfl) (by kernel_rfl) (by kernel_rfl) (fun _ _ _ h => h) (Or.inl ⟨by rfl, ?hya492⟩) (by assumption) ?resta492
        case hya492 => (intro V hSw; (try dsimp only at hSw); go_simp) <;> with_reducible rfl
        try simp only [Act.put, List.getElem_toArray, List.getElem_cons_succ, List.getElem_cons_zero, List.setIfInBounds_toArray, List.set_cons_zero, List.set_cons_succ]
        refine wpAnyH_take (i := 3) (oi := _) (v := ?va493) rfl (by kernel_rfl) (by kernel_rfl) (by kernel_rfl) (fun _ _ _ h => h) (Or.inl ⟨by rfl, ?hya493⟩) (by assumption) ?resta493
        case hya493 => (intro V hSw; (try dsimp only at hSw); go_simp) <;> with_reducible rfl
        try simp only [Act.put, List.getElem_toArray, List.getElem_cons_succ, List.getElem_cons_zero, List.setIfInBounds_toArray, List.set_cons_zero, List.set_cons_succ]
        refine wpAnyH_take (i := 5) (oi := _) (v := ?va495) rfl (by kernel_rfl) (by kernel_rfl) (by kernel_rfl) (fun _ _ _ h => h) (Or.inl ⟨by rfl, ?hya495⟩) (by assumption) ?resta495
        case hya495 => (intro V hSw; (try dsimp only at hSw); go_simp) <;> with_reducible rfl
        try simp only [Act.put, List.getElem_toArray, List.getElem_cons_succ, List.getElem_cons_zero, List.setIfInBounds_toArray, List.set_cons_zero, List.set_cons_succ]
        refine wpAnyH_take (i := 6) (oi := _) (v := ?va496) rfl (by kernel_rfl) (by kernel_rfl) (by kernel_rfl) (fun _ _ _ h => h) (Or.inl ⟨by rfl, ?hya496⟩) (by assumption) ?resta496
        case hya496 => (intro V hSw; (try dsimp only at hSw); go_simp) <;> with_reducible rfl
        try simp only [Act.put, List.getElem_toArray, List.getElem_cons_succ, List.getElem_cons_zero, List.setIfInBounds_toArray, List.set_cons_zero, List.set_cons_succ]
        refine wpAnyH_take (i := 7) (oi := _) (v := ?va497) rfl (by kernel_rfl) (by kernel_rfl) (by kernel_rfl) (fun _ _ _ h => h) (Or.inl ⟨by rfl, ?hya497⟩) (by assumption) ?resta497
        case hya497 => (intro V hSw; (try dsimp only at hSw); go_simp) <;> with_reducible rfl
        try simp only [Act.put, List.getElem_toArray, List.getElem_cons_succ, List.getElem_cons_zero, List.setIfInBounds_toArray, List.set_cons_zero, List.set_cons_succ]
        refine wpAnyH_take (i := 8) (oi := _) (v := ?va498) rfl (by kernel_rfl) (by kernel_rfl) (by kernel_rfl) (fun _ _ _ h => h) (Or.inl ⟨by rfl, ?hya498⟩) (by assumption) ?resta498
        case hya498 => (intro V hSw; (try dsimp only at hSw); go_simp) <;> with_reducible rfl
        try simp only [Act.put, List.getElem_toArray, List.getElem_cons_succ, List.getElem_cons_zero, List.setIfInBounds_toArray, List.set_cons_zero, List.set_cons_succ]
        refine wpAnyH_ready (rs := [4, 9]) (by kernel_rfl) (by simp) ?_
        refine (AllReadyH.cons (o := _) rfl (fun K9 hK => ?_) (AllReadyH.cons (o := _) rfl (fun K9 hK => ?_) AllReadyH.nil))
        · go_simp
          refine hK.out _ _ trivial (fun hHeld => ?_)
          clear hK K9
          try simp only [Act.put, List.getElem_toArray, List.getElem_cons_succ, List.getElem_cons_zero, List.setIfInBounds_toArray, List.set_cons_zero, List.set_cons_succ]
          refine wpAnyH_ready (rs := [9]) (by kernel_rfl) (by simp) ?_
          refine (AllReadyH.cons (o := _) rfl (fun K9 hK => ?_) AllReadyH.nil)
          go_simp
          refine hK.out _ _ trivial (fun hHeld => ?_)
          clear hK K9
          try simp only [Act.put, List.getElem_toArray, List.getElem_cons_succ, List.getElem_cons_zero, List.setIfInBounds_toArray, List.set_cons_zero, List.set_cons_succ]
          refine wpAnyH_ready (rs := [10]) (by kernel_rfl) (by simp) ?_
          refine (AllReadyH.cons (o := _) rfl (fun K9 hK => ?_) AllReadyH.nil)
          rw [if_pos (by rfl)]
          refine wp_append rfl rfl rfl hrun ?_
          refine hK.out _ _ trivial (fun hHeld => ?_)
          clear hK K9
          try simp only [Act.put, List.getElem_toArray, List.getElem_cons_succ, List.getElem_cons_zero, List.setIfInBounds_toArray, List.set_cons_zero, List.set_cons_succ]
          refine wpAnyH_take (i := 11) (oi := _) (v := ?va49z911) rfl (by kernel_rfl) (by kernel_rfl) (by kernel_rfl) (fun _ _ _ h => h) (Or.inl ⟨by rfl, ?hya49z911⟩) (by assumption) ?resta49z911
          case hya49z911 => (intro V hSw; (try dsimp only at hSw); go_simp) <;> with_reducible rfl
          try simp only [Act.put, List.getElem_toArray, List.getElem_cons_succ, List.getElem_cons_zero, List.setIfInBounds_toArray, List.set_cons_zero, List.set_cons_succ]
          refine wpAnyH_take (i := 12) (oi := _) (v := ?va49z912) rfl (by kernel_rfl) (by kernel_rfl) (by kernel_rfl) (fun _ _ _ h => h) (Or.inl ⟨by rfl, ?hya49z912⟩) (by assumption) ?resta49z912
          case hya49z912 => (intro V hSw; (try dsimp only at hSw); go_simp) <;> with_reducible rfl
          try simp only [Act.put, List.getElem_toArray, List.getElem_cons_succ, List.getElem_cons_zero, List.setIfInBounds_toArray, List.set_cons_zero, List.set_cons_succ]
          refine wpAnyH_ready (rs := [13]) (by kernel_rfl) (by simp) ?_
          refine (AllReadyH.cons (o := _) rfl (fun K9 hK => ?_) AllReadyH.nil)
          go_simp
          refine hK.out _ _ trivial (fun hHeld => ?_)
          clear hK K9
          try simp only [Act.put, List.getElem_toArray, List.getElem_cons_succ, List.getElem_cons_zero, List.setIfInBounds_toArray, List.set_cons_zero, List.set_cons_succ]
          refine wpAnyH_done (by kernel_rfl) ?_ _
          go_wp2_with fail
          go_roundw
          case rel =>
            obtain ⟨n1, n2, n3⟩ := HN.out
            refine ⟨k + 1, A', c', by omega, rfl, Lib.hid ⟨?_, n1, ?_, n3⟩⟩
            · rw [HH.out.2.1, List.all_append, HI.out.1]; simp [HV.out.2]
            · rw [HH.out.2.1, List.map_append, List.map_append]
              simp only [List.map_cons, List.map_nil, HV.out.1]
              exact n2
          case measure => simp [intOf]; omega
        · go_simp
          refine hK.out _ _ trivial (fun hHeld => ?_)
          clear hK K9
          try simp only [Act.put, List.getElem_toArray, List.getElem_cons_succ, List.getElem_cons_zero, List.setIfInBounds_toArray, List.set_cons_zero, List.set_cons_succ]
          refine wpAnyH_ready (rs := [4]) (by kernel_rfl) (by simp) ?_
          refine (AllReadyH.cons (o := _) rfl (fun K9 hK => ?_) AllReadyH.nil)
          go_simp
          refine hK.out _ _ trivial (fun hHeld => ?_)
          clear hK K9
          try simp only [Act.put, List.getElem_toArray, List.getElem_cons_succ, List.getElem_cons_zero, List.setIfInBounds_toArray, List.set_cons_zero, List.set_cons_succ]
          refine wpAnyH_ready (rs := [10]) (by kernel_rfl) (by simp) ?_
          refine (AllReadyH.cons (o := _) rfl (fun K9 hK => ?_) AllReadyH.nil)
          rw [if_pos (by rfl)]
          refine wp_append rfl rfl rfl hrun ?_
          refine hK.out _ _ trivial (fun hHeld => ?_)
          clear hK K9
          try simp only [Act.put, List.getElem_toArray, List.getElem_cons_succ, List.getElem_cons_zero, List.setIfInBounds_toArray, List.set_cons_zero, List.set_cons_succ]
          refine wpAnyH_take (i := 11) (oi := _) (v := ?va49z411) rfl (by kernel_rfl) (by kernel_rfl) (by kernel_rfl) (fun _ _ _ h => h) (Or.inl ⟨by rfl, ?hya49z411⟩) (by assumption) ?resta49z411
          case hya49z411 => (intro V hSw; (try dsimp only at hSw); go_simp) <;> with_reducible rfl
          try simp only [Act.put, List.getElem_toArray, List.getElem_cons_succ, List.getElem_cons_zero, List.setIfInBounds_toArray, List.set_cons_zero, List.set_cons_succ]
          refine wpAnyH_take (i := 12) (oi := _) (v := ?va49z412) rfl (by kernel_rfl) (by kernel_rfl) (by kernel_rfl) (fun _ _ _ h => h) (Or.inl ⟨by rfl, ?hya49z412⟩) (by assumption) ?resta49z412
          case hya49z412 => (intro V hSw; (try dsimp only at hSw); go_simp) <;> with_reducible rfl
          try simp only [Act.put, List.getElem_toArray, List.getElem_cons_succ, List.getElem_cons_zero, List.setIfInBounds_toArray, List.set_cons_zero, List.set_cons_succ]
          refine wpAnyH_ready (rs := [13]) (by kernel_rfl) (by simp) ?_
          refine (AllReadyH.cons (o := _) rfl (fun K9 hK => ?_) AllReadyH.nil)
          go_simp
          refine hK.out _ _ trivial (fun hHeld => ?_)
          clear hK K9
          try simp only [Act.put, List.getElem_toArray, List.getElem_cons_succ, List.getElem_cons_zero, List.setIfInBounds_toArray, List.set_cons_zero, List.set_cons_succ]
          refine wpAnyH_done (by kernel_rfl) ?_ _
          go_wp2_with fail
          go_roundw
          case rel =>
            obtain ⟨n1, n2, n3⟩ := HN.out
            refine ⟨k + 1, A', c', by omega, rfl, Lib.hid ⟨?_, n1, ?_, n3⟩⟩
            · rw [HH.out.2.1, List.all_append, HI.out.1]; simp [HV.out.2]
            · rw [HH.out.2.1, List.map_append, List.map_append]
              simp only [List.map_cons, List.map_nil, HV.out.1]
              exact n2
          case measure => simp [intOf]; omega
      have e4 : (B != 48) = true := by simpa using hB48
      have e5 : (B != 49) = true := by simpa using hB49
      have HN := Lib.hid (show ¬ (l.all bitOk = true ∧ l.length ≤ 64) by
        rintro ⟨h, _⟩
        have h2 := List.all_eq_true.1 h b HH.out.2.2
        have h3 := HH.out.1
        simp only [bitOk, Bool.or_eq_true, beq_iff_eq] at h2
        rcases h2 with h2 | h2
        · rw [h2] at h3; exact hB48 (by simpa using h3)
        · rw [h2] at h3; exact hB49 (by simpa using h3))
      clear c4
      go_wp2_with fail
      rw [HX.out.1]
      exact ⟨HI.out.2.2.2, by rw [hr.out, if_neg HN.out]; rfl⟩
    · have d1 : decide ((k : Int) < (s.size : Int)) = false := by simp; omega
      obtain rfl : k = s.size := by omega
      have htk : l.take s.size = l := List.take_of_length_le (by rw [HX.out.2.2.1]; exact Nat.le_refl _)
      have HT := Lib.hid htk
      clear htk
      by_cases h64 : s.size ≤ 64
      · have e1 : decide ((s.size : Int) ≤ 64) = true := by simp; omega
        go_wp2_with fail
        rw [HX.out.1]
        refine ⟨HI.out.2.2.2, ?_⟩
        obtain ⟨hall, hb, hown, hg⟩ := HI.out
        rw [HT.out] at hall hown
        rw [hr.out, if_pos ⟨hall, by rw [HX.out.2.2.1]; exact h64⟩]
        have h9 := HX.out.2.2.2.2.1.apartR HX.out.2.2.2.1 hg
        have hlen : s.size = (l.map (· == 49)).length := by rw [List.length_map, HX.out.2.2.1]
        rw [hlen] at hb hown
        exact ⟨⟨{ o.v with keep := l.map (· == 49) }, o.A1, o.c1, A2, c2, o.A3, o.c3⟩, rfl, rfl, hb, ⟨h9.1, own_mono hown HX.out.2.2.2.2.2, h9.2.2⟩, fun c' hne h => ⟨h.1, h.2.1, fun e => absurd e hne⟩⟩
      · have e1 : decide ((s.size : Int) ≤ 64) = false := by simp; omega
        have HN := Lib.hid (show ¬ (l.all bitOk = true ∧ l.length ≤ 64) from fun q => h64 (by rw [← HX.out.2.2.1]; exact q.2))
        go_wp2_with fail
        rw [HX.out.1]
        exact ⟨HI.out.2.2.2, by rw [hr.out, if_neg HN.out]; rfl⟩
end Go.Proofs.YtonkdcbmmdhjgaaDoor
