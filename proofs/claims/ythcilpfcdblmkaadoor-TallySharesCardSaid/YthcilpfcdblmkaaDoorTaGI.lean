/-
  Tally, keys of type int: Power, Enough.
-/
import Derived.Test.YthcilpfcdblmkaaDoorTaFI
namespace Go.Proofs.YthcilpfcdblmkaaDoor
open Go.RowKit Go.Shelf

theorem TalI.vds {w : World} {S : Nat → Prop} {t b : Nat} {V : List Vd} {W0 : List (Wd Int)} (h : TalI w S t b V W0) : ∃ A c, w.cell? ⟨t, 0, none⟩ = some (.slice A V.length c) ∧ VdsAt w A V := by
  obtain ⟨_, _, _, _, _, _, _, A, c, h8, h9, _⟩ := h
  exact ⟨A, c, h8.cell 0, h9⟩

set_option maxRecDepth 100000 in
set_option maxHeartbeats 1000000 in
theorem enoughI_is (w : World) (S : Nat → Prop) (t b B : Nat) (V0 : List Vd) (W0 : List (Wd Int)) (h : TalI w S t b V0 W0) (key : Int) (es er et : Addr) (hB : B ≤ w.heap.size) (he : ErrAt w B 10 es) (her : ErrAt w B 0 er) (het : ErrAt w B 16 et) :
    Calls Tryd.prog 20 #[.pointer (some ⟨t, 0, none⟩), (.int .i64 key)] w fun e w' => e = .returned (.bool (enoughS V0 (whoL W0 key))) ∧ w.grownBy w' none := by
  obtain ⟨A, c, hc0, hvA⟩ := h.vds
  have hlen := h.len
  have hok := h.2.2.2.2.2.1
  have hwn := h.2.2.2.1
  have HW9 := Lib.hid (fun (V2 : World) (hg : w.grownBy V2 none) => whoI_is V2 t b V0.length W0 hwn (by omega) (h.grown hg).words (h.grown hg).2.2.2.2.2.2.1 key)
  have HT := Lib.hid (And.intro hc0 (And.intro hvA (And.intro hok (And.intro hwn (And.intro hlen (And.intro he (And.intro her (And.intro het hB))))))))
  clear hwn hlen hok hvA hc0 h he her het hB
  go_enter Tryd.func20, Tryd.ntmps20
  go_wp2_with fail
  have g0 := grown_drew (World.grownBy.refl w none)
  obtain ⟨V2, hV2⟩ : ∃ V2, w.drew = V2 := ⟨_, rfl⟩
  rw [hV2] at g0
  have HG0 := Lib.hid g0
  clear g0
  refine wp_region_held_drew (S := fun V => V.cell? ⟨t, 0, none⟩ = some (.slice A V0.length c)) (by kernel_rfl) (by rw [hV2]; exact HG0.out.cell HT.out.1 (by simp)) (fun hHeld => ?_)
  rw [hV2] at hHeld ⊢
  refine wpAnyH_take (i := 0) (oi := _) (v := ?ve0) rfl (by kernel_rfl) (by kernel_rfl) (by kernel_rfl) (fun _ _ _ h => h) (Or.inl ⟨by rfl, ?hye0⟩) (by assumption) ?reste0
  case hye0 => (intro V hSw; (try dsimp only at hSw); go_simp) <;> with_reducible rfl
  try simp only [Act.put, List.getElem_toArray, List.getElem_cons_succ, List.getElem_cons_zero, List.setIfInBounds_toArray, List.set_cons_zero, List.set_cons_succ]
  refine wpAnyH_take (i := 1) (oi := _) (v := ?ve1) rfl (by kernel_rfl) (by kernel_rfl) (by kernel_rfl) (fun _ _ _ h => h) (Or.inl ⟨by rfl, ?hye1⟩) (by assumption) ?reste1
  case hye1 => (intro V hSw; (try dsimp only at hSw); go_simp) <;> with_reducible rfl
  try simp only [Act.put, List.getElem_toArray, List.getElem_cons_succ, List.getElem_cons_zero, List.setIfInBounds_toArray, List.set_cons_zero, List.set_cons_succ]
  refine wpAnyH_take (i := 2) (oi := _) (v := ?ve2) rfl (by kernel_rfl) (by kernel_rfl) (by kernel_rfl) (fun _ _ _ h => h) (Or.inl ⟨by rfl, ?hye2⟩) (by assumption) ?reste2
  case hye2 => (intro V hSw; (try dsimp only at hSw); go_simp) <;> with_reducible rfl
  try simp only [Act.put, List.getElem_toArray, List.getElem_cons_succ, List.getElem_cons_zero, List.setIfInBounds_toArray, List.set_cons_zero, List.set_cons_succ]
  refine wpAnyH_take (i := 3) (oi := _) (v := ?ve3) rfl (by kernel_rfl) (by kernel_rfl) (by kernel_rfl) (fun _ _ _ h => h) (Or.inl ⟨by rfl, ?hye3⟩) (by assumption) ?reste3
  case hye3 => (intro V hSw; (try dsimp only at hSw); go_simp) <;> with_reducible rfl
  try simp only [Act.put, List.getElem_toArray, List.getElem_cons_succ, List.getElem_cons_zero, List.setIfInBounds_toArray, List.set_cons_zero, List.set_cons_succ]
  refine wpAnyH_take (i := 4) (oi := _) (v := ?ve4) rfl (by kernel_rfl) (by kernel_rfl) (by kernel_rfl) (fun _ _ _ h => h) (Or.inl ⟨by rfl, ?hye4⟩) (by assumption) ?reste4
  case hye4 => (intro V hSw; (try dsimp only at hSw); go_simp) <;> with_reducible rfl
  try simp only [Act.put, List.getElem_toArray, List.getElem_cons_succ, List.getElem_cons_zero, List.setIfInBounds_toArray, List.set_cons_zero, List.set_cons_succ]
  refine wpAnyH_take (i := 5) (oi := _) (v := ?ve5) rfl (by kernel_rfl) (by kernel_rfl) (by kernel_rfl) (fun _ _ _ h => h) (Or.inl ⟨by rfl, ?hye5⟩) (by assumption) ?reste5
  case hye5 => (intro V hSw; (try dsimp only at hSw); go_simp) <;> with_reducible rfl
  try simp only [Act.put, List.getElem_toArray, List.getElem_cons_succ, List.getElem_cons_zero, List.setIfInBounds_toArray, List.set_cons_zero, List.set_cons_succ]
  refine wpAnyH_ready (rs := [6]) (by kernel_rfl) (by simp) ?_
  refine (AllReadyH.cons (o := _) rfl (fun K9 hK => ?_) AllReadyH.nil)
  go_simp
  refine (HW9.out V2 HG0.out).mono ?_
  rintro e w2 ⟨A2, c2, rfl, hi2, hc2, k2⟩
  have hg2 : w.grownBy w2 none := grown_trans HG0.out k2
  have HC2 := Lib.hid (enough_is w2 A A2 c c2 B V0 (whoL W0 key) es er et (HT.out.2.1.grown hg2) HT.out.2.2.1 (by have := HT.out.2.2.2.2.1; omega) hi2 (by have := whoL_length W0 key; have := HT.out.2.2.2.1; have := HT.out.2.2.2.2.1; omega) hc2 (Nat.le_trans HT.out.2.2.2.2.2.2.2.2 hg2.size) (HT.out.2.2.2.2.2.1.grown hg2 (by simp)) (HT.out.2.2.2.2.2.2.1.grown hg2 (by simp)) (HT.out.2.2.2.2.2.2.2.1.grown hg2 (by simp)))
  have HG2 := Lib.hid hg2
  clear hi2 hc2 k2 hg2
  go_wp2_with fail
  refine hK.out _ _ (HG2.out.cell HT.out.1 (by simp)) (fun hHeld => ?_)
  clear hK K9
  try simp only [Act.put, List.getElem_toArray, List.getElem_cons_succ, List.getElem_cons_zero, List.setIfInBounds_toArray, List.set_cons_zero, List.set_cons_succ]
  refine wpAnyH_ready (rs := [7]) (by kernel_rfl) (by simp) ?_
  refine (AllReadyH.cons (o := _) rfl (fun K9 hK => ?_) AllReadyH.nil)
  go_simp
  refine HC2.out.mono ?_
  rintro e w3 ⟨rfl, k3⟩
  have HG3 := Lib.hid (grown_trans HG2.out (grown_below0 k3))
  clear k3
  go_wp2_with fail
  refine hK.out _ _ (HG3.out.cell HT.out.1 (by simp)) (fun hHeld => ?_)
  clear hK K9
  try simp only [Act.put, List.getElem_toArray, List.getElem_cons_succ, List.getElem_cons_zero, List.setIfInBounds_toArray, List.set_cons_zero, List.set_cons_succ]
  refine wpAnyH_take (i := 8) (oi := _) (v := ?ve8) rfl (by kernel_rfl) (by kernel_rfl) (by kernel_rfl) (fun _ _ _ h => h) (Or.inl ⟨by rfl, ?hye8⟩) (by assumption) ?reste8
  case hye8 => (intro V hSw; (try dsimp only at hSw); go_simp) <;> with_reducible rfl
  try simp only [Act.put, List.getElem_toArray, List.getElem_cons_succ, List.getElem_cons_zero, List.setIfInBounds_toArray, List.set_cons_zero, List.set_cons_succ]
  refine wpAnyH_done (by kernel_rfl) ?_ _
  go_wp2
  go_ret
  exact ⟨rfl, HG3.out⟩

set_option maxRecDepth 100000 in
set_option maxHeartbeats 1000000 in
theorem powerI_is (w : World) (S : Nat → Prop) (t b B : Nat) (V0 : List Vd) (W0 : List (Wd Int)) (h : TalI w S t b V0 W0) (key : Int) (es er et : Addr) (hB : B ≤ w.heap.size) (he : ErrAt w B 10 es) (her : ErrAt w B 0 er) (het : ErrAt w B 16 et) :
    Calls Tryd.prog 19 #[.pointer (some ⟨t, 0, none⟩), (.int .i64 key)] w fun e w' => e = .returned (.int .i64 (sumVal V0 (whoL W0 key))) ∧ w.grownBy w' none := by
  obtain ⟨A, c, hc0, hvA⟩ := h.vds
  have hlen := h.len
  have hok := h.2.2.2.2.2.1
  have hwn := h.2.2.2.1
  have HW9 := Lib.hid (fun (V2 : World) (hg : w.grownBy V2 none) => whoI_is V2 t b V0.length W0 hwn (by omega) (h.grown hg).words (h.grown hg).2.2.2.2.2.2.1 key)
  have HT := Lib.hid (And.intro hc0 (And.intro hvA (And.intro hok (And.intro hwn (And.intro hlen (And.intro he (And.intro her (And.intro het hB))))))))
  clear hwn hlen hok hvA hc0 h he her het hB
  go_enter Tryd.func19, Tryd.ntmps19
  go_wp2_with fail
  have g0 := grown_drew (World.grownBy.refl w none)
  obtain ⟨V2, hV2⟩ : ∃ V2, w.drew = V2 := ⟨_, rfl⟩
  rw [hV2] at g0
  have HG0 := Lib.hid g0
  clear g0
  refine wp_region_held_drew (S := fun V => V.cell? ⟨t, 0, none⟩ = some (.slice A V0.length c)) (by kernel_rfl) (by rw [hV2]; exact HG0.out.cell HT.out.1 (by simp)) (fun hHeld => ?_)
  rw [hV2] at hHeld ⊢
  refine wpAnyH_take (i := 0) (oi := _) (v := ?vp0) rfl (by kernel_rfl) (by kernel_rfl) (by kernel_rfl) (fun _ _ _ h => h) (Or.inl ⟨by rfl, ?hyp0⟩) (by assumption) ?restp0
  case hyp0 => (intro V hSw; (try dsimp only at hSw); go_simp) <;> with_reducible rfl
  try simp only [Act.put, List.getElem_toArray, List.getElem_cons_succ, List.getElem_cons_zero, List.setIfInBounds_toArray, List.set_cons_zero, List.set_cons_succ]
  refine wpAnyH_take (i := 1) (oi := _) (v := ?vp1) rfl (by kernel_rfl) (by kernel_rfl) (by kernel_rfl) (fun _ _ _ h => h) (Or.inl ⟨by rfl, ?hyp1⟩) (by assumption) ?restp1
  case hyp1 => (intro V hSw; (try dsimp only at hSw); go_simp) <;> with_reducible rfl
  try simp only [Act.put, List.getElem_toArray, List.getElem_cons_succ, List.getElem_cons_zero, List.setIfInBounds_toArray, List.set_cons_zero, List.set_cons_succ]
  refine wpAnyH_take (i := 2) (oi := _) (v := ?vp2) rfl (by kernel_rfl) (by kernel_rfl) (by kernel_rfl) (fun _ _ _ h => h) (Or.inl ⟨by rfl, ?hyp2⟩) (by assumption) ?restp2
  case hyp2 => (intro V hSw; (try dsimp only at hSw); go_simp) <;> with_reducible rfl
  try simp only [Act.put, List.getElem_toArray, List.getElem_cons_succ, List.getElem_cons_zero, List.setIfInBounds_toArray, List.set_cons_zero, List.set_cons_succ]
  refine wpAnyH_take (i := 3) (oi := _) (v := ?vp3) rfl (by kernel_rfl) (by kernel_rfl) (by kernel_rfl) (fun _ _ _ h => h) (Or.inl ⟨by rfl, ?hyp3⟩) (by assumption) ?restp3
  case hyp3 => (intro V hSw; (try dsimp only at hSw); go_simp) <;> with_reducible rfl
  try simp only [Act.put, List.getElem_toArray, List.getElem_cons_succ, List.getElem_cons_zero, List.setIfInBounds_toArray, List.set_cons_zero, List.set_cons_succ]
  refine wpAnyH_take (i := 4) (oi := _) (v := ?vp4) rfl (by kernel_rfl) (by kernel_rfl) (by kernel_rfl) (fun _ _ _ h => h) (Or.inl ⟨by rfl, ?hyp4⟩) (by assumption) ?restp4
  case hyp4 => (intro V hSw; (try dsimp only at hSw); go_simp) <;> with_reducible rfl
  try simp only [Act.put, List.getElem_toArray, List.getElem_cons_succ, List.getElem_cons_zero, List.setIfInBounds_toArray, List.set_cons_zero, List.set_cons_succ]
  refine wpAnyH_take (i := 5) (oi := _) (v := ?vp5) rfl (by kernel_rfl) (by kernel_rfl) (by kernel_rfl) (fun _ _ _ h => h) (Or.inl ⟨by rfl, ?hyp5⟩) (by assumption) ?restp5
  case hyp5 => (intro V hSw; (try dsimp only at hSw); go_simp) <;> with_reducible rfl
  try simp only [Act.put, List.getElem_toArray, List.getElem_cons_succ, List.getElem_cons_zero, List.setIfInBounds_toArray, List.set_cons_zero, List.set_cons_succ]
  refine wpAnyH_ready (rs := [6]) (by kernel_rfl) (by simp) ?_
  refine (AllReadyH.cons (o := _) rfl (fun K9 hK => ?_) AllReadyH.nil)
  go_simp
  refine (HW9.out V2 HG0.out).mono ?_
  rintro e w2 ⟨A2, c2, rfl, hi2, hc2, k2⟩
  have hg2 : w.grownBy w2 none := grown_trans HG0.out k2
  have HC2 := Lib.hid (sum_is w2 A A2 c c2 B V0 (whoL W0 key) es er et (HT.out.2.1.grown hg2) HT.out.2.2.1 (by have := HT.out.2.2.2.2.1; omega) hi2 (by have := whoL_length W0 key; have := HT.out.2.2.2.1; have := HT.out.2.2.2.2.1; omega) hc2 (Nat.le_trans HT.out.2.2.2.2.2.2.2.2 hg2.size) (HT.out.2.2.2.2.2.1.grown hg2 (by simp)) (HT.out.2.2.2.2.2.2.1.grown hg2 (by simp)) (HT.out.2.2.2.2.2.2.2.1.grown hg2 (by simp)))
  have HG2 := Lib.hid hg2
  clear hi2 hc2 k2 hg2
  go_wp2_with fail
  refine hK.out _ _ (HG2.out.cell HT.out.1 (by simp)) (fun hHeld => ?_)
  clear hK K9
  try simp only [Act.put, List.getElem_toArray, List.getElem_cons_succ, List.getElem_cons_zero, List.setIfInBounds_toArray, List.set_cons_zero, List.set_cons_succ]
  refine wpAnyH_ready (rs := [7]) (by kernel_rfl) (by simp) ?_
  refine (AllReadyH.cons (o := _) rfl (fun K9 hK => ?_) AllReadyH.nil)
  go_simp
  refine HC2.out.mono ?_
  rintro e w3 ⟨rfl, k3⟩
  have HG3 := Lib.hid (grown_trans HG2.out (grown_below0 k3))
  clear k3
  go_wp2_with fail
  refine hK.out _ _ (HG3.out.cell HT.out.1 (by simp)) (fun hHeld => ?_)
  clear hK K9
  try simp only [Act.put, List.getElem_toArray, List.getElem_cons_succ, List.getElem_cons_zero, List.setIfInBounds_toArray, List.set_cons_zero, List.set_cons_succ]
  refine wpAnyH_take (i := 8) (oi := _) (v := ?vp8) rfl (by kernel_rfl) (by kernel_rfl) (by kernel_rfl) (fun _ _ _ h => h) (Or.inl ⟨by rfl, ?hyp8⟩) (by assumption) ?restp8
  case hyp8 => (intro V hSw; (try dsimp only at hSw); go_simp) <;> with_reducible rfl
  try simp only [Act.put, List.getElem_toArray, List.getElem_cons_succ, List.getElem_cons_zero, List.setIfInBounds_toArray, List.set_cons_zero, List.set_cons_succ]
  refine wpAnyH_take (i := 9) (oi := _) (v := ?vp9) rfl (by kernel_rfl) (by kernel_rfl) (by kernel_rfl) (fun _ _ _ h => h) (Or.inl ⟨by rfl, ?hyp9⟩) (by assumption) ?restp9
  case hyp9 => (intro V hSw; (try dsimp only at hSw); go_simp) <;> with_reducible rfl
  try simp only [Act.put, List.getElem_toArray, List.getElem_cons_succ, List.getElem_cons_zero, List.setIfInBounds_toArray, List.set_cons_zero, List.set_cons_succ]
  refine wpAnyH_take (i := 10) (oi := _) (v := ?vp10) rfl (by kernel_rfl) (by kernel_rfl) (by kernel_rfl) (fun _ _ _ h => h) (Or.inl ⟨by rfl, ?hyp10⟩) (by assumption) ?restp10
  case hyp10 => (intro V hSw; (try dsimp only at hSw); go_simp) <;> with_reducible rfl
  try simp only [Act.put, List.getElem_toArray, List.getElem_cons_succ, List.getElem_cons_zero, List.setIfInBounds_toArray, List.set_cons_zero, List.set_cons_succ]
  refine wpAnyH_take (i := 11) (oi := _) (v := ?vp11) rfl (by kernel_rfl) (by kernel_rfl) (by kernel_rfl) (fun _ _ _ h => h) (Or.inl ⟨by rfl, ?hyp11⟩) (by assumption) ?restp11
  case hyp11 => (intro V hSw; (try dsimp only at hSw); go_simp) <;> with_reducible rfl
  try simp only [Act.put, List.getElem_toArray, List.getElem_cons_succ, List.getElem_cons_zero, List.setIfInBounds_toArray, List.set_cons_zero, List.set_cons_succ]
  refine wpAnyH_take (i := 12) (oi := _) (v := ?vp12) rfl (by kernel_rfl) (by kernel_rfl) (by kernel_rfl) (fun _ _ _ h => h) (Or.inl ⟨by rfl, ?hyp12⟩) (by assumption) ?restp12
  case hyp12 => (intro V hSw; (try dsimp only at hSw); go_simp) <;> with_reducible rfl
  try simp only [Act.put, List.getElem_toArray, List.getElem_cons_succ, List.getElem_cons_zero, List.setIfInBounds_toArray, List.set_cons_zero, List.set_cons_succ]
  refine wpAnyH_done (by kernel_rfl) ?_ _
  go_wp2
  go_ret
  exact ⟨rfl, HG3.out⟩
end Go.Proofs.YthcilpfcdblmkaaDoor
