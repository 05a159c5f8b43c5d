/-
  EpochsRows, walked.
-/
import Derived.Test.YtpdfkgmgmndcfaaDoorEpD
import Derived.Test.YtpdfkgmgmndcfaaDoorDiK
namespace Go.Proofs.YtpdfkgmgmndcfaaDoor
open Go.RowKit

attribute [local go_sem] Oper.semAt_some

set_option maxRecDepth 100000 in
theorem eqV_same (w : World) (x : Vd) (hx : x.key.length = 16) : Sem.run Tryd.prog (Op.equalIn 10000 45 (.agg x.cells.toArray) (.agg x.cells.toArray)) w = .ok true w := by
  obtain ⟨key, p⟩ := x
  have hx : key.length = 16 := hx
  match key, hx with
  | [a0, a1, a2, a3, a4, a5, a6, a7, a8, a9, a10, a11, a12, a13, a14, a15], _ =>
    have e : Sem.run Tryd.prog (Op.equalIn 9999 24 (.agg (arrV .u8 [a0, a1, a2, a3, a4, a5, a6, a7, a8, a9, a10, a11, a12, a13, a14, a15])) (.agg (arrV .u8 [a0, a1, a2, a3, a4, a5, a6, a7, a8, a9, a10, a11, a12, a13, a14, a15]))) w = .ok true w := by
      rw [eq_arr w 9997 Tryd.underlying24 (by kernel_rfl) Tryd.underlying5 (by kernel_rfl) (by kernel_rfl) _ _ rfl rfl]
      simp
    simp [arrV] at e
    simp only [Vd.cells, List.map_cons, List.map_nil, List.cons_append, List.nil_append]
    go_simp
theorem wp_append_e {P : Program} {o : Oper} {a : Act} {w w' : World} {K : Act → World → Prop} {Q : Exit → Act → World → Prop} {s x : Operand} {t : TypeId} {v y v' : Value} (hop : o.op = .call { callee := .builtin .append, args := #[s, x], argTypes := #[t, t] }) (hs : a.eval s = v) (hx : a.eval x = y)
    (hrun : (Builtin.append_ #[t, t] o.type #[v, y]).run P w = .ok v' w') (h : K (a.put o.dst v') w') : Oper.wp P o a w K Q := by
  unfold Oper.wp
  simp [execOp, hop, resolve, invoke, builtin, hs, hx, hrun, Result.andThen]
  exact h
theorem wpList_append_e {P : Program} {ops : Array Oper} {rest : List Oper} {o : Oper} {a : Act} {w w' : World} {Q : Exit → Act → World → Prop} {s x : Operand} {t : TypeId} {v y v' : Value} (hgd : o.guard = none) (hop : o.op = .call { callee := .builtin .append, args := #[s, x], argTypes := #[t, t] }) (hs : a.eval s = v) (hx : a.eval x = y)
    (hrun : (Builtin.append_ #[t, t] o.type #[v, y]).run P w = .ok v' w') (h : wpList P ops Q rest (a.put o.dst v') w') : wpList P ops Q (o :: rest) a w :=
  wpList_plain hgd fun _ hK => wp_append_e hop hs hx hrun (hK _ _ h)
theorem range_set_e {w : World} {b g o i : Nat} {cs : List Value} (h : w.rangeAt b o cs) (hne : g ≠ b) (v : Value) : (w.setCell ⟨g, i, none⟩ v).rangeAt b o cs := fun j u hu => by
  rw [World.cell?_setCell_far _ _ _ _ (by simpa using hne)]
  exact h j u hu
set_option maxRecDepth 100000 in
/-- A copy of validators, appended to an empty row. -/
theorem copy_vds (w : World) (A : Option Addr) (c n : Nat) (V : List Vd) (hn : V.length = n) (hV : VdsAt w A V) (ok : keysOk V) (hl : n < 1000) :
    ∃ A' c' w', (Builtin.append_ #[22, 22] 22 #[.slice (some ⟨w.heap.size, 0, none⟩) 0 0, .slice A n c]).run Tryd.prog (w.alloc (.cells #[] 45)) = .ok (.slice A' n c') w' ∧ w'.ownsRow w.heap.size 45 17 (.slice A' n c') n (V.flatMap Vd.cells) ∧ w.grownBy w' none := by
  obtain ⟨i0, hi, hz0, hz1, hz2⟩ := info_parts vd_info
  have hown := World.ownsRow_made (base := w.heap.size) (e := 45) (size := 17) w #[] 0 (Nat.le_refl _) (Nat.zero_le _) rfl
  have hg := World.grownBy_alloc w (.cells #[] 45) none
  rcases A with _ | ad
  · have h0 : V = [] := by
      rcases V with _ | ⟨x, r⟩
      · rfl
      · obtain ⟨b, off, e, _⟩ := hV (by simp)
        cases e
    subst h0
    obtain rfl : n = 0 := by simpa using hn.symm
    refine ⟨_, _, _, run_append_nilsrc _ w.heap.size 22 22 45 i0 17 Tryd.underlying22 hi _ 0 [] hown c, hown, hg⟩
  · have hcells : ∀ j u, (V.flatMap Vd.cells)[j]? = some u → (w.alloc (.cells #[] 45)).cell? (ad.add j) = some u := fun j u hu => by
      have hne : V ≠ [] := by rintro rfl; simp at hu
      obtain ⟨b, off, e, hat⟩ := hV hne
      injection e with e
      subst e
      rw [Go.WideShapes.add_plain]
      exact hg.cell (flat_cells_at V off ok hat j u hu) (by simp)
    obtain ⟨v', w', h1, h2, h3, _⟩ := run_append_own (P := Tryd.prog) (w := w.alloc (.cells #[] 45)) w.heap.size 22 22 45 i0 _ 17 24 Tryd.underlying22 hi hz0 hz1 hz2 rfl (by omega) _ 0 [] hown ad n c (V.flatMap Vd.cells) (by rw [flat_len ok, hn]) hcells flat_one (by simp only [maxLen]; omega) (by omega) (by simp)
    obtain ⟨A', c', rfl⟩ := own_slice w' h2
    rw [Nat.zero_add, List.nil_append] at h2
    rw [Nat.zero_add] at h1
    exact ⟨A', c', w', h1, h2, grown_new h3⟩
set_option maxRecDepth 100000 in
set_option maxHeartbeats 4000000 in
theorem rows_any (w : World) (E : Nat → Addr) (hR : Rounds w) (he : ErrAt w w.heap.size 3 (E 0)) (es ee : Addr) (hes : ErrAt w w.heap.size 1 es) (hee : ErrAt w w.heap.size 0 ee)
    (A : Option Addr) (c n : Nat) (V : List Vd) (hn : V.length = n) (hV : VdsAt w A V) (ok : keysOk V) (A2 : Option Addr) (n2 c2 : Nat) (ps : List (List Int)) (hn2 : ps.length = n2) (hpd : ∀ p ∈ ps, isDig p) (hds : ps ≠ [] → ∃ b off, A2 = some ⟨b, off, none⟩ ∧ DigsAt w b off ps) :
    Calls Tryd.prog 4 #[.slice A n c, .slice A2 n2 c2] w fun e w' => e = .returned (.bool true) ∧ w.grownBy w' none := by
  obtain ⟨GZ, hGZ⟩ : ∃ Z, zGr = Z := ⟨_, rfl⟩
  have hgz : ∀ w, Sem.run Tryd.prog (zeroValue 27) w = .ok (.agg GZ) w := fun w => by rw [← hGZ]; exact zgr_run w
  obtain ⟨Z, hZ⟩ : ∃ Z, zD16 = Z := ⟨_, rfl⟩
  have hz : ∀ w, Sem.run Tryd.prog (zeroValue 24) w = .ok (.agg Z) w := fun w => by rw [← hZ]; exact z16run w
  have hZ16 : Z.size = 16 := by rw [← hZ, zD16, arr_size]; rfl
  have hGs : GZ.size = 18 := by rw [← hGZ]; exact zgr_sz
  have hG1 : (GZ.all fun v => v.oneCell') = true := by rw [← hGZ]; exact grV_one (arr_one _ _)
  have hat : ∀ W : World, w.grownBy W none → Rounds W ∧ ErrAt W W.heap.size 3 (E 0) ∧ ErrAt W W.heap.size 1 es ∧ ErrAt W W.heap.size 0 ee ∧ VdsAt W A V := fun W hW =>
    ⟨hR.grown hW (by simp), ⟨hW.cell he.1 (by simp), by have := he.2; have := hW.size; omega⟩, ⟨hW.cell hes.1 (by simp), by have := hes.2; have := hW.size; omega⟩, ⟨hW.cell hee.1 (by simp), by have := hee.2; have := hW.size; omega⟩, hV.grown hW⟩
  have HAL := Lib.hid (alive20 w E hR he es hes)
  have HF := Lib.hid (fun (W : World) (hW : w.grownBy W none) (hl : n < 1000) (A5 : Option Addr) (c5 : Nat) (hV5 : VdsAt W A5 V) => first_is W E (hat W hW).1 (hat W hW).2.1 es (hat W hW).2.2.1 A5 c5 n V hn hV5 ok hl)
  have HN := Lib.hid (fun (W : World) (hW : w.grownBy W none) (hl : n < 1000) (A5 : Option Addr) (c5 : Nat) (hV5 : VdsAt W A5 V) (ge : Int) (A9 : Value) (G : Array Value) (hG : G.size = 16) (gs : Array Value) (hgs : gs = grV ge A9 G) (la : List Int) (hla : isDig la) (DA : Array Value) (hDA : DA = arrV .u8 la) => next_is W E (hat W hW).1 (hat W hW).2.1 es ee (hat W hW).2.2.1 (hat W hW).2.2.2.1 ge A9 G hG gs hgs la hla DA hDA A5 c5 n V hn hV5 ok hl)
  have HC := Lib.hid (fun (W : World) (hW : w.grownBy W none) (hl : n < 1000) => copy_vds W A c n V hn (hV.grown hW) ok hl)
  have HZ := Lib.hid (And.intro hGs (And.intro hG1 (And.intro (show (Tryd.prog.info? 27).map (·.size) = some GZ.size by rw [hGs]; exact sz_Gre) (And.intro hGZ hZ16))))
  have HV := Lib.hid (And.intro hn (And.intro ok (And.intro hV (show rightS V = true → 1 ≤ n ∧ ∀ k (h : k < V.length), 1 ≤ V[k].p ∧ V[k].p ≤ 1099511627776 from fun h => ⟨by have := ((rightS_iff V).1 h).1; omega, fun k hk => ⟨(((rightS_iff V).1 h).2 k hk).1, (((rightS_iff V).1 h).2 k hk).2.1⟩⟩))))
  have HD := Lib.hid (And.intro hn2 (And.intro hpd hds))
  clear hat hGZ hZ hZ16 hGs hG1 hR he hes hee hV ok hn hn2 hpd hds
  go_enter Tryd.func4, Tryd.ntmps4
  go_wp2_with fail
  refine HAL.out.mono ?_
  rintro e w2 ⟨rfl, g2⟩
  have HGg2 := Lib.hid g2
  clear g2
  by_cases h7 : 7 < n
  · have a1 : decide ((7 : Int) < (n : Int)) = true := by simp; omega
    clear h7
    go_wp2_with fail
    go_ret
    exact ⟨rfl, HGg2.out⟩
  have a1 : decide ((7 : Int) < (n : Int)) = false := by simp; omega
  by_cases h20 : 20 < n2
  · have a2 : decide ((20 : Int) < (n2 : Int)) = true := by simp; omega
    clear h7 h20
    go_wp2_with fail
    go_ret
    exact ⟨rfl, HGg2.out⟩
  have a2 : decide ((20 : Int) < (n2 : Int)) = false := by simp; omega
  have hl : n < 1000 := by omega
  have hl2 : n2 ≤ 20 := by omega
  have hn7 : n ≤ 7 := by omega
  clear h7 h20
  go_upto_region 5 with (fail)
  clear a1 a2
  obtain ⟨A5, c5, W5, hrun, hown5, g5⟩ := HC.out w2 HGg2.out hl
  have H5 := Lib.hid (And.intro hrun (And.intro (own_vdsE HV.out.2.1 hown5) (grown_trans HGg2.out g5)))
  clear hrun hown5 g5
  go_upto_region 6 with (at_builtin; refine wpList_append_e rfl rfl rfl rfl H5.out.1 ?_)
  go_wp2_with fail
  refine (HF.out W5 H5.out.2.2 hl A5 c5 H5.out.2.1).mono ?_
  rintro e w6 ⟨g6, ⟨hr1, A6, c6, rfl, hown6⟩ | ⟨hr1, rfl⟩⟩
  · obtain ⟨G0, hG0⟩ : ∃ G, arrV .u8 (idD (genB 1 (List.replicate 16 0))) = G := ⟨_, rfl⟩
    have hG0s : G0.size = 16 := by rw [← hG0, arr_size, idD_length]
    have hG01 : (G0.all fun v => v.oneCell') = true := by rw [← hG0]; exact arr_one _ _
    rw [hG0]
    clear hG0
    obtain ⟨gv, hgv⟩ : ∃ gv, grV 1 (.slice A6 n c6) G0 = gv := ⟨_, rfl⟩
    rw [hgv]
    have hgs : gv.size = 18 := by rw [← hgv]; exact grV_size hG0s
    have HG := Lib.hid (And.intro hgv (And.intro (show (Tryd.prog.info? 27).map (·.size) = some gv.size by rw [hgs]; exact sz_Gre) (And.intro (show GZ.size = gv.size by rw [hgs, HZ.out.1]) (And.intro (show (gv.all fun v => v.oneCell') = true by rw [← hgv]; exact grV_one hG01) (And.intro (HV.out.2.2.2 hr1) (And.intro hown6 (And.intro hG0s hr1)))))))
    clear hgv hgs hr1 hG0s hG01 hown6
    have HGg6 := Lib.hid g6
    clear g6
    obtain ⟨q7, hq7⟩ : ∃ q, w6.heap.size = q := ⟨_, rfl⟩
    obtain ⟨W7, hW7⟩ : ∃ W, (w6.alloc (.cells GZ 27)).setRow q7 gv = W := ⟨_, rfl⟩
    have bn7 : Blk (w6.alloc (.cells GZ 27)) q7 27 GZ := by rw [← hq7]; exact Blk.new w6 27 GZ
    have b7 : Blk W7 q7 27 gv := by rw [← hW7]; exact bn7.row _
    have g7 : w6.grownBy W7 none := by rw [← hW7]; exact grown_row (World.grownBy_alloc _ _ none) (.inl (by rw [hq7]; exact Nat.le_refl _)) _
    have HP7 := Lib.hid (And.intro bn7 hW7)
    have HQ7 := Lib.hid hq7
    have HB7 := Lib.hid b7
    clear bn7 hW7 b7
    have HGg7 := Lib.hid g7
    clear g7
    go_upto_region 7 with (refine wpList_store_row rfl 27 _ _ rfl (q7) gv rfl rfl 27 _ HP7.out.1 (HG.out.2.1) (HG.out.2.2.1) HG.out.2.2.2.1 ?_)
    rw [HP7.out.2]
    clear hq7
    have hq7 : W5.heap.size ≤ q7 ∧ q7 < W7.heap.size := ⟨by have h8 := HP7.out.1.lt; have h9 := HGg6.out.size; have h10 := HB7.out.lt; have := HQ7.out; omega, HB7.out.lt⟩
    have b7 : Blk W7 q7 27 (grV 1 (.slice A6 n c6) G0) := by rw [HG.out.1]; exact HB7.out
    have o7 : W7.ownsRow W5.heap.size 45 17 (.slice A6 n c6) n (V.flatMap Vd.cells) := HG.out.2.2.2.2.2.1.kept HGg7.out (by cases hv : (Value.slice A6 n c6).ownBlock <;> simp)
    have HI := Lib.hid (And.intro b7 (And.intro o7 (And.intro hq7 (grown_trans HGg6.out HGg7.out))))
    clear b7 o7 hq7
    go_wp2_with fail
    go_loopw [32] (fun i wr => ∃ (k : Nat) (Ak : Option Addr) (ck : Nat) (Gk : Array Value), k ≤ n2 ∧ i = .int .i64 (k : Int) ∧ Hid (Blk wr q7 27 (grV ((k : Int) + 1) (.slice Ak n ck) Gk) ∧ Gk.size = 16 ∧ wr.ownsRow W5.heap.size 45 17 (.slice Ak n ck) n (V.flatMap Vd.cells) ∧ W5.grownBy wr none)) (fun i _ => n2 - (intOf i).toNat)
    case atStart => exact ⟨0, A6, c6, G0, Nat.zero_le _, rfl, Lib.hid ⟨HI.out.1, HG.out.2.2.2.2.2.2.1, HI.out.2.1, HI.out.2.2.2⟩⟩
    case round =>
      obtain ⟨k, Ak, ck, Gk, hk, hi, HH⟩ := hrel
      obtain ⟨I, hI⟩ : ∃ I : Int, I = (k : Int) := ⟨_, rfl⟩
      rw [← hI] at hi
      subst hi
      by_cases hlt : k < n2
      · have d1 : decide (I < (n2 : Int)) = true := by simp; omega
        have hIV : I < (n2 : Int) := by omega
        have hI0 : 0 ≤ I ∧ I < 1000 := by omega
        have hkI : I.toNat = k := by omega
        obtain ⟨b, off, hA2, hD2⟩ := HD.out.2.2 (by rintro rfl; have := HD.out.1; simp at this; omega)
        subst hA2
        have hkl : k < ps.length := by rw [HD.out.1]; exact hlt
        obtain ⟨la, hla⟩ : ∃ la, ps.getD k zeroC = la := ⟨_, rfl⟩
        have hlad : isDig la := by
          rw [← hla, List.getD_eq_getElem?_getD, List.getElem?_eq_getElem hkl]
          exact HD.out.2.1 _ (List.getElem_mem hkl)
        obtain ⟨DA, hDA⟩ : ∃ D, arrV .u8 la = D := ⟨_, rfl⟩
        have hr : wr.rangeAt b (off + I.toNat * 16) DA.toList := by
          have := hD2 k hkl
          rw [hla, hDA] at this
          rw [hkI]
          exact range_kept this (grown_trans H5.out.2.2 HH.out.2.2.2)
        have hDs : DA.size = 16 := by rw [← hDA, arr_size, hlad.1]
        have HA := Lib.hid (And.intro hr (And.intro (show (Tryd.prog.info? 24).map (·.size) = some DA.size by rw [hDs]; exact sz_Dg) (And.intro (show Z.size = DA.size by rw [hDs, HZ.out.2.2.2.2]) (And.intro (show (DA.all fun v => v.oneCell') = true by rw [← hDA]; exact arr_one _ _) (And.intro hDA (And.intro hlad (And.intro hI hlt)))))))
        clear hr hDs hla hlad hDA hI hkl hD2 hkI hlt
        go_upto_region 11 with (fail)
        obtain ⟨q9, hq9⟩ : ∃ q, wr.heap.size = q := ⟨_, rfl⟩
        obtain ⟨W9, hW9⟩ : ∃ W, (wr.alloc (.cells Z 24)).setRow q9 DA = W := ⟨_, rfl⟩
        have bn9 : Blk (wr.alloc (.cells Z 24)) q9 24 Z := by rw [← hq9]; exact Blk.new wr 24 Z
        have b9 : Blk W9 q9 24 DA := by rw [← hW9]; exact bn9.row _
        have g9 : wr.grownBy W9 none := by rw [← hW9]; exact grown_row (World.grownBy_alloc _ _ none) (.inl (by rw [hq9]; exact Nat.le_refl _)) _
        have H9 := Lib.hid (And.intro bn9 (And.intro hW9 (And.intro b9 g9)))
        clear bn9 hW9 b9 g9
        go_upto_region 12 with (first
          | (refine wpList_load_mid rfl 24 _ rfl (b) (off + I.toNat * 16) rfl DA.toList _ HA.out.1 Tryd.underlying24 rfl (by rw [Array.length_toList]; exact HA.out.2.1) ?_; rw [Array.toArray_toList])
          | (refine wpList_store_row rfl 24 _ _ rfl (q9) DA rfl rfl 24 _ H9.out.1 (HA.out.2.1) (HA.out.2.2.1) HA.out.2.2.2.1 ?_))
        rw [H9.out.2.1]
        clear hq9
        obtain ⟨gk, hgk⟩ : ∃ gv, grV ((k : Int) + 1) (.slice Ak n ck) Gk = gv := ⟨_, rfl⟩
        have hgks : gk.size = 18 := by rw [← hgk]; exact grV_size HH.out.2.1
        have HK := Lib.hid (And.intro hgk (And.intro (show (Tryd.prog.info? 27).map (·.size) = some gk.size by rw [hgks]; exact sz_Gre) (And.intro hgks (show Blk W9 q7 27 gk by rw [← hgk]; exact HH.out.1.grown H9.out.2.2.2 (by simp)))))
        clear hgk hgks
        go_wp2_with (first
          | (refine wpList_load_mid rfl 27 _ rfl (q7) 0 rfl gk.toList _ (range_blk0 HK.out.2.2.2) Tryd.underlying27 rfl (by rw [Array.length_toList]; exact HK.out.2.1) ?_; rw [Array.toArray_toList])
          | (refine wpList_load_mid rfl 24 _ rfl (q9) 0 rfl DA.toList _ (range_blk0 H9.out.2.2.1) Tryd.underlying24 rfl (by rw [Array.length_toList]; exact HA.out.2.1) ?_; rw [Array.toArray_toList]))
        refine (HN.out W9 (grown_trans H5.out.2.2 (grown_trans HH.out.2.2.2 H9.out.2.2.2)) hl A5 c5 (H5.out.2.1.grown (grown_trans HH.out.2.2.2 H9.out.2.2.2)) ((k : Int) + 1) (.slice Ak n ck) Gk HH.out.2.1 gk HK.out.1.symm la HA.out.2.2.2.2.2.1 DA HA.out.2.2.2.2.1.symm).mono ?_
        rintro e w10 ⟨g10, ⟨_, _, A10, c10, rfl, hown10⟩ | ⟨hr1, _⟩ | ⟨_, hr1, _⟩⟩
        rotate_left
        · rw [HG.out.2.2.2.2.2.2.2] at hr1; exact absurd hr1 (by simp)
        · exfalso; omega
        obtain ⟨G10, hG10⟩ : ∃ G, arrV .u8 (idD (genB ((k : Int) + 1 + 1) la)) = G := ⟨_, rfl⟩
        have hG10s : G10.size = 16 := by rw [← hG10, arr_size, idD_length]
        have hG101 : (G10.all fun v => v.oneCell') = true := by rw [← hG10]; exact arr_one _ _
        rw [hG10]
        clear hG10
        have he2 : (k : Int) + 1 + 1 = I + 2 := by have := HA.out.2.2.2.2.2.2.1; omega
        rw [he2]
        obtain ⟨g11, hg11⟩ : ∃ gv, grV (I + 2) (.slice A10 n c10) G10 = gv := ⟨_, rfl⟩
        rw [hg11]
        have hg11s : g11.size = 18 := by rw [← hg11]; exact grV_size hG10s
        have hg111 : (g11.all fun v => v.oneCell') = true := by rw [← hg11]; exact grV_one hG101
        have hb10 : Blk w10 q7 27 gk := HK.out.2.2.2.grown g10 (by simp)
        obtain ⟨W11, hW11⟩ : ∃ W, w10.setRow q7 g11 = W := ⟨_, rfl⟩
        have b11 : Blk W11 q7 27 (grV (I + 2) (.slice A10 n c10) G10) := by rw [hg11, ← hW11]; exact hb10.row _
        have g11' : W5.grownBy W11 none := by rw [← hW11]; exact grown_row (grown_trans HH.out.2.2.2 (grown_trans H9.out.2.2.2 g10)) (.inl HI.out.2.2.1.1) _
        have o11 : W11.ownsRow W5.heap.size 45 17 (.slice A10 n c10) n (V.flatMap Vd.cells) := by
          rw [← hW11]
          exact own_kept (hown10.mono (base' := W5.heap.size) (grown_trans HH.out.2.2.2 H9.out.2.2.2).size) (row_kept_e g11) fun j hj hjq => by
            have h9 := (hown10.lt j hj).1
            have h10 := HK.out.2.2.2.lt
            omega
        obtain ⟨k0, k1, _⟩ := gr_cells hG10s b11
        have hw1 := w64 (I + 1) ⟨by omega, by omega⟩
        have H11 := Lib.hid (And.intro hb10 (And.intro hW11 (And.intro (show (Tryd.prog.info? 27).map (·.size) = some g11.size by rw [hg11s]; exact sz_Gre) (And.intro (show gk.size = g11.size by rw [hg11s, HK.out.2.2.1]) (And.intro hg111 (And.intro b11 (And.intro hG10s (And.intro o11 (And.intro g11' he2)))))))))
        clear hb10 hW11 hg11s hg111 b11 hG10s o11 g11' he2 hg11 g10 hown10 hG101
        go_upto_region 13 with (refine wpList_store_row rfl 27 _ _ rfl (q7) g11 rfl rfl 27 _ H11.out.1 (H11.out.2.2.1) (H11.out.2.2.2.1) H11.out.2.2.2.2.1 ?_)
        rw [H11.out.2.1]
        go_wp2_with fail
        go_roundw
        case rel =>
          have h1 := HA.out.2.2.2.2.2.2
          have h2 := H11.out.2.2.2.2.2
          have h3 : (((k + 1 : Nat) : Int) + 1) = I + 2 := by have := h2.2.2.2.2; omega
          exact ⟨k + 1, A10, c10, G10, by omega, by rw [h1.1]; rfl, Lib.hid ⟨by rw [h3]; exact h2.1, h2.2.1, h2.2.2.1, h2.2.2.2.1⟩⟩
        case measure =>
          have h1 := HA.out.2.2.2.2.2.2
          simp only [intOf]
          omega
      · have d1 : decide (I < (n2 : Int)) = false := by simp; omega
        have hn1 : 1 ≤ n := HG.out.2.2.2.2.1.1
        have hVne : V ≠ [] := by rintro rfl; have := HV.out.1; simp at this; omega
        obtain ⟨bi, oi, hAi, hci⟩ := H5.out.2.1 hVne
        obtain ⟨bv, ov, hAv, hcv⟩ := HV.out.2.2.1 hVne
        have hV0 : 0 < V.length := by have := HV.out.1; omega
        have hri := range_kept (hci 0 hV0) HH.out.2.2.2
        have hrv := range_kept (hcv 0 hV0) (grown_trans H5.out.2.2 HH.out.2.2.2)
        have hx16 := HV.out.2.1 V[0] (List.getElem_mem hV0)
        have hxp := HG.out.2.2.2.2.1.2 0 hV0
        have hbi : bi < W5.heap.size := by
          have := hci 0 hV0 16 (.int .i64 V[0].p) (by rw [Vd.cells, List.getElem?_append_right (by simp [hx16])]; simp [hx16])
          exact World.block_lt_of_cell? W5 _ this
        have hbv : bv < W5.heap.size := by
          have := hcv 0 hV0 16 (.int .i64 V[0].p) (by rw [Vd.cells, List.getElem?_append_right (by simp [hx16])]; simp [hx16])
          have h2 : bv < w.heap.size := World.block_lt_of_cell? w _ this
          have := H5.out.2.2.size
          omega
        obtain ⟨y, hy⟩ : ∃ y, V[0] = y := ⟨_, rfl⟩
        rw [hy] at hri hrv hx16 hxp
        rw [Nat.zero_mul, Nat.add_zero] at hri hrv
        have hvo := own_vdsE HV.out.2.1 HH.out.2.2.1
        obtain ⟨bk, ok', hAk, hck⟩ := hvo hVne
        have hrk := hck 0 hV0
        rw [hy, Nat.zero_mul, Nat.add_zero] at hrk
        have hok : ok' = 0 ∧ W5.heap.size ≤ bk ∧ ∃ cur, Blk wr bk 45 cur := by
          rcases HH.out.2.2.1.2 with ⟨hv, h0⟩ | ⟨g, cap, cur, hv, hb, hg, _⟩
          · injection hv with e1 e2; omega
          · injection hv with e1
            rw [hAk] at e1
            injection e1 with e1
            injection e1 with e1 e2
            subst e1
            exact ⟨e2, hb, cur, hg⟩
        obtain ⟨rfl, hbk, cur, hbc⟩ := hok
        subst hAi hAv hAk
        have kp := vd_power hx16 hrk
        obtain ⟨pw, hpw⟩ : ∃ p, y.p = p := ⟨_, rfl⟩
        rw [hpw] at kp hxp
        have fz := hbc.frozen 16
        obtain ⟨k0, k1, _⟩ := gr_cells HH.out.2.1 HH.out.1
        have hw1 := w64 (pw + 1) ⟨by omega, by omega⟩
        obtain ⟨cy, hcy⟩ : ∃ c, y.cells.toArray = c := ⟨_, rfl⟩
        have heq : ∀ W, Sem.run Tryd.prog (Op.equalIn 10000 45 (.agg cy) (.agg cy)) W = .ok true W := fun W => by rw [← hcy]; exact eqV_same W y hx16
        have hcl : y.cells = cy.toList := by rw [← hcy]
        rw [hcl] at hri hrv
        have hcs : (Tryd.prog.info? 45).map (·.size) = some cy.toList.length := by rw [← hcl, Vd.cells_length hx16]; kernel_rfl
        obtain ⟨W9, hW9⟩ : ∃ W, wr.setCell ⟨bk, 16, none⟩ (.int .i64 (pw + 1)) = W := ⟨_, rfl⟩
        have HL := Lib.hid (And.intro (show W9.rangeAt bi oi cy.toList by rw [← hW9]; exact range_set_e hri (by omega) _) (And.intro (show W9.rangeAt bv ov cy.toList by rw [← hW9]; exact range_set_e hrv (by omega) _) (And.intro hcs (And.intro hW9 (show w.grownBy W9 none by rw [← hW9]; exact grown_far (grown_trans H5.out.2.2 HH.out.2.2.2) (.inl (by have := H5.out.2.2.size; show w.heap.size ≤ bk; omega)) _)))))
        clear hci hcv hri hrv hx16 hxp hbi hbv hvo hck hrk hbk hbc hpw hcy hcl hcs hW9 hy hVne hV0
        go_upto_region 17 with (fail)
        rw [HL.out.2.2.2.1]
        refine wp_region_quiet_lit (by kernel_rfl) (by kernel_rfl) ?_
        repeat (first
          | go_big_quiet_skip
          | (go_big_quiet_want; first
            | (refine quiet_load_mid 45 _ rfl bi oi rfl cy.toList _ (fun W hW => by obtain ⟨n9, rfl⟩ := hW; exact HL.out.1) Tryd.underlying45 rfl HL.out.2.2.1 ?_; try rw [Array.toArray_toList]; simp only [Act.put, List.setIfInBounds_toArray, List.set_cons_zero, List.set_cons_succ]; go_big_quiet_on)
            | (refine quiet_load_mid 45 _ rfl bv ov rfl cy.toList _ (fun W hW => by obtain ⟨n9, rfl⟩ := hW; exact HL.out.2.1) Tryd.underlying45 rfl HL.out.2.2.1 ?_; try rw [Array.toArray_toList]; simp only [Act.put, List.setIfInBounds_toArray, List.set_cons_zero, List.set_cons_succ]; go_big_quiet_on)
            | (go_big_quiet_op; go_big_quiet_on)))
        refine wpQuiet_nil ?_
        intro W hW
        obtain ⟨n9, rfl⟩ := hW
        go_wp2_with fail
        go_ret
        have g9 := HL.out.2.2.2.2
        exact ⟨rfl, ⟨g9.os, g9.tape, g9.output, g9.size, g9.block⟩⟩
  · rw [HZ.out.2.2.2.1]
    have HGg6 := Lib.hid g6
    clear g6
    obtain ⟨q7, hq7⟩ : ∃ q, w6.heap.size = q := ⟨_, rfl⟩
    obtain ⟨W7, hW7⟩ : ∃ W, (w6.alloc (.cells GZ 27)).setRow q7 GZ = W := ⟨_, rfl⟩
    have bn7 : Blk (w6.alloc (.cells GZ 27)) q7 27 GZ := by rw [← hq7]; exact Blk.new w6 27 GZ
    have b7 : Blk W7 q7 27 GZ := by rw [← hW7]; exact bn7.row _
    have g7 : w6.grownBy W7 none := by rw [← hW7]; exact grown_row (World.grownBy_alloc _ _ none) (.inl (by rw [hq7]; exact Nat.le_refl _)) _
    have HP7 := Lib.hid (And.intro bn7 hW7)
    have HB7 := Lib.hid b7
    clear bn7 hW7 b7
    have HGg7 := Lib.hid g7
    clear g7
    go_upto_region 7 with (refine wpList_store_row rfl 27 _ _ rfl (q7) GZ rfl rfl 27 _ HP7.out.1 (HZ.out.2.2.1) (rfl) HZ.out.2.1 ?_)
    rw [HP7.out.2]
    clear hq7
    go_wp2_with fail
    go_ret
    exact ⟨rfl, grown_trans H5.out.2.2 (grown_trans HGg6.out HGg7.out)⟩
end Go.Proofs.YtpdfkgmgmndcfaaDoor
