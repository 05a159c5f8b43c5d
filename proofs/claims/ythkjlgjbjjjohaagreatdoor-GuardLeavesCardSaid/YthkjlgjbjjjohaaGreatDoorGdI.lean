/-
  GuardLeaves, walked.
-/
import Derived.Test.YthkjlgjbjjjohaaGreatDoorGdG3
import Derived.Test.YthkjlgjbjjjohaaGreatDoorDkG2
namespace Go.Proofs.YthkjlgjbjjjohaaGreatDoor
open Go.RowKit Go.Maps

def lvS (vv : Int) (n : Nat) : St := ⟨1, vv, 0, 0, (n : Int)⟩
theorem lv_right {vv : Int} {n : Nat} (hv : 0 ≤ vv ∧ vv ≤ 1000) (hn : n ≤ 32) : rightB 1 vv 0 0 (n : Int) = true := right_mk (by omega)
theorem lv_chk {vv : Int} {n k : Nat} (hv : 0 ≤ vv ∧ vv ≤ 1000) (hn : n ≤ 32) (hk : k ≤ 1000) : chkN 1 vv 0 0 (n : Int) 1 ((k : Int) + 1) = 0 := by
  unfold chkN
  rw [lv_right hv hn, if_neg (by simp), if_neg (by simp), if_neg (by omega)]
theorem lv_vote {vv : Int} {n k : Nat} (hv : 0 ≤ vv ∧ vv ≤ (k : Int)) (hn : n ≤ 32) (hk : k ≤ 1000) : voteE 1 vv 0 0 (n : Int) 1 ((k : Int) + 1) (k : Int) = if n = 32 then 5 else 0 := by
  rw [voteE_eq (lv_chk ⟨hv.1, by omega⟩ hn hk), if_neg (by omega), if_neg (by omega), if_neg (by omega)]
  by_cases h : n = 32
  · rw [if_pos (by omega), if_pos h]
  · rw [if_neg (by omega), if_neg h]
theorem lv_late {vv : Int} {n k : Nat} (hv : 0 ≤ vv ∧ vv ≤ (k : Int)) (hn : n ≤ 32) (hk : k ≤ 1000) : lateE 1 vv 0 0 (n : Int) 1 ((k : Int) + 1) = if n = 32 then 5 else 0 := by
  rw [lateE_eq (lv_chk ⟨hv.1, by omega⟩ hn hk)]
  by_cases h : n = 32
  · rw [if_pos (by omega), if_pos h]
  · rw [if_neg (by omega), if_neg h]
theorem lv_voteR {vv : Int} {n k : Nat} (hv : 0 ≤ vv ∧ vv ≤ (k : Int)) (hn : n < 32) (hk : k ≤ 1000) : voteR (lvS vv n) ⟨1, 1, (k : Int) + 1, (k : Int), 0⟩ = lvS ((k : Int) + 1) (n + 1) := by
  have h := lv_vote hv (Nat.le_of_lt hn) hk
  rw [if_neg (by omega)] at h
  show (if voteE 1 vv 0 0 (n : Int) 1 ((k : Int) + 1) (k : Int) = 0 then _ else _) = _
  rw [if_pos h]
  simp [lvS, voteL]
theorem lv_lateR {vv : Int} {n k : Nat} (hv : 0 ≤ vv ∧ vv ≤ (k : Int)) (hn : n < 32) (hk : k ≤ 1000) : lateR (lvS vv n) ⟨1, 1, (k : Int) + 1, (k : Int), 0⟩ = lvS ((k : Int) + 1) (n + 1) := by
  have h := lv_late hv (Nat.le_of_lt hn) hk
  rw [if_neg (by omega)] at h
  show (if lateE 1 vv 0 0 (n : Int) 1 ((k : Int) + 1) = 0 then _ else _) = _
  rw [if_pos h]
  have e : lateV vv ((k : Int) + 1) = (k : Int) + 1 := by rw [lateV, if_neg (by omega)]
  simp [lvS, e]
theorem lv_lateK {vv : Int} {n k : Nat} (hv : 0 ≤ vv ∧ vv ≤ (k : Int)) (hn : n ≤ 32) (hk : k ≤ 1000) : lateK (lvS vv n) ⟨1, 1, (k : Int) + 1, (k : Int), 0⟩ = if n = 32 then 5 else 0 := by
  have h := lv_late hv hn hk
  unfold lateK
  show (if lateE 1 vv 0 0 (n : Int) 1 ((k : Int) + 1) ≠ 0 then lateE 1 vv 0 0 (n : Int) 1 ((k : Int) + 1) else if (k : Int) < 0 ∨ (k : Int) + 1 ≤ (k : Int) then 14 else 0) = _
  rw [h]
  by_cases h32 : n = 32
  · rw [if_pos h32]; simp
  · rw [if_neg h32, if_neg (by simp), if_neg (by omega)]
theorem field_f (w : World) (st : St) : Sem.run Tryz.prog (Instr.field 46 st.val 4) w = .ok (.int .i64 st.f) w := by kernel_rfl
/-- What a vote or a late word of the law answers. -/
theorem lv_post {w0 w w' : World} {e : Ending} {P : GdP} {seed : List Int} {cn n k : Nat} {vv : Int} {t : St} {K : Nat} {m : List Int} {E : Nat → Addr} (hn : n ≤ 32) (hv : 0 ≤ vv ∧ vv ≤ (k : Int)) (hK : K = if n = 32 then 5 else 0) (ht : n < 32 → t = lvS ((k : Int) + 1) (n + 1)) (h : RunPost w0 w w' e P seed cn (lvS vv n) t K m E) :
    (∃ sg, e = .returned (.tuple #[.agg sg, if n = 32 then errV (E 4) else .nilIface])) ∧ Kept P.F w w' ∧ ∃ (cn' : Nat) (vv' : Int) (n' : Nat), (n' = if n = 32 then 32 else n + 1) ∧ cn' ≤ cn + 1 ∧ (0 ≤ vv' ∧ vv' ≤ (k : Int) + 1) ∧ GdRun w0 w' P seed cn' (lvS vv' n') := by
  by_cases h32 : n = 32
  · rw [if_pos h32] at hK
    rcases h.1 with ⟨_, he, hg⟩ | ⟨hk, _⟩
    · exact ⟨⟨_, by rw [he, hK, if_pos h32]; rfl⟩, h.2.1, cn, vv, n, by rw [if_pos h32]; exact h32, by omega, by omega, hg⟩
    · omega
  · rw [if_neg h32] at hK
    rcases h.1 with ⟨hk, _⟩ | ⟨_, ⟨i, _, _, b, p, pc, he, _⟩, hg⟩
    · omega
    · rw [ht (by omega)] at hg
      exact ⟨⟨_, by rw [he, if_neg h32]⟩, h.2.1, cn + 1, (k : Int) + 1, n + 1, by rw [if_neg h32], by omega, by omega, hg⟩
theorem GdRun.below {w0 w : World} {P : GdP} {seed : List Int} {cn : Nat} {st : St} (h : GdRun w0 w P seed cn st) : Below w0.heap.size w0 w := by
  obtain ⟨z, _, h1, _⟩ := h.ex
  exact h1.dk.below
theorem ErrEnv.more {w : World} {B B' : Nat} {E : Nat → Addr} (h : ErrEnv w B E) (hB : B ≤ B') : ErrEnv w B' E := ⟨fun i hi => ⟨(h.var i hi).1, Nat.lt_of_lt_of_le (h.var i hi).2 hB⟩, fun i hi => ⟨Nat.lt_of_lt_of_le (h.row i hi).1 hB, (h.row i hi).2⟩, h.inj⟩
set_option maxRecDepth 100000 in
set_option maxHeartbeats 4000000 in
theorem leaves_any (w : World) (hR : Rounds w) (E : Nat → Addr) (he : ErrEnv w w.heap.size E) (seed : List Int) (hs : isDig seed) (sd : Array Value) (hsd : sd = arrV .u8 seed) (A : Option Addr) (n c : Nat) (bs : List Bool) (hn : bs.length = n) (hb : BoolsAt w A bs) :
    Calls Tryz.prog 5 #[.agg sd, .slice A n c] w fun e w' => e = .returned (.bool true) ∧ w.grownBy w' none := by
  obtain ⟨q, hq⟩ : ∃ q, w.heap.size = q := ⟨_, rfl⟩
  obtain ⟨W1, hW1⟩ : ∃ W1, w.alloc (.cells sd 23) = W1 := ⟨_, rfl⟩
  have gW1 : w.grownBy W1 none := by rw [← hW1]; exact World.grownBy_alloc _ _ none
  have bq : Blk W1 q 23 sd := by rw [← hW1, ← hq]; exact Blk.new _ _ _
  have hs16 : sd.size = 16 := by rw [hsd, arr_size, hs.1]
  have hal := alive_is W1 (hR.grown gW1 (by simp)) E ((he.grown gW1 (fun _ e => by cases e)).more gW1.size)
  have HX := Lib.hid (And.intro hR (And.intro he (And.intro hs (And.intro hsd (And.intro gW1 (And.intro bq (And.intro hs16 (And.intro hq (And.intro hn hb)))))))))
  have HA := Lib.hid hal
  have HW := Lib.hid hW1
  clear hR he hs hsd gW1 bq hs16 hW1 hn hb hal
  go_enter Tryz.func5, Tryz.ntmps5
  go_upto_region 1 with (fail)
  rw [HW.out]
  clear hq
  go_wp2_with fail
  refine HA.out.mono ?_
  rintro e w2 ⟨rfl, g2⟩
  have H2 := Lib.hid (And.intro (grown_trans HX.out.2.2.2.2.1 g2) (HX.out.2.2.2.2.2.1.grown g2 (by simp)))
  have HE2 := Lib.hid (And.intro (HX.out.1.grown H2.out.1 (by simp)) ((HX.out.2.1.grown H2.out.1 (fun _ e => by cases e)).more H2.out.1.size))
  clear g2 HA
  by_cases h100 : 100 < n
  · have d1 : decide ((100 : Int) < (n : Int)) = true := by simp; omega
    go_wp2_with fail
    go_ret
    exact ⟨rfl, H2.out.1⟩
  have d1 : decide ((100 : Int) < (n : Int)) = false := by simp; omega
  have hn100 : n ≤ 100 := by omega
  clear h100
  go_wp2_with (first
    | (refine wpList_load_row rfl 23 _ rfl q rfl 23 sd (0, 0) _ H2.out.2 Tryz.underlying23 rfl (by rw [HX.out.2.2.2.2.2.2.1]; exact info16) ?_))
  refine (begin_is w2 w2 (Kept.refl _ _) HE2.out.1 E HE2.out.2 seed HX.out.2.2.1 sd HX.out.2.2.2.1 1 (by omega)).mono ?_
  rintro e w3 ⟨pb, P, rest, rfl, hpl, hrun, g3, hpb⟩
  have H3 := Lib.hid (And.intro hpl (And.intro hrun (And.intro (grown_trans H2.out.1 g3) (And.intro (H2.out.2.grown g3 (by simp)) (show w.heap.size ≤ pb by have := H2.out.1.size; omega)))))
  clear hpl hrun g3 hpb
  go_wp2_with fail
  go_loopw [25, 7] (fun i nv wr => ∃ (k nn : Nat) (vv : Int) (cn : Nat), k ≤ n ∧ i = .int .i64 (k : Int) ∧ nv = .int .i64 (nn : Int) ∧ nn ≤ 32 ∧ (0 ≤ vv ∧ vv ≤ (k : Int)) ∧ cn ≤ 1 + k ∧ GdRun w2 wr P seed cn (lvS vv nn) ∧ PlAt wr pb P rest ∧ Blk wr q 23 sd) (fun i _ _ => n - (intOf i).toNat)
  case atStart => exact ⟨0, 0, 0, 1, by omega, rfl, rfl, by omega, by omega, by omega, H3.out.2.1, H3.out.1, H3.out.2.2.2.1⟩
  case round =>
    obtain ⟨k, nn, vv, cn, hkn, rfl, rfl, hnn, hvv, hcn, hrun, hpl, hbq⟩ := hrel
    rename World => wx
    have hF : ¬ P.F q := by
      obtain ⟨z, _, h1, _⟩ := hrun.ex
      have h2 := h1.low
      have h3 := h1.dk.2.2
      have h4 := H2.out.2.lt
      simp only [GdP.F]
      omega
    have HD := Lib.hid (And.intro hrun (And.intro hpl (And.intro hbq hF)))
    clear hrun hpl hbq hF
    by_cases hlt : k < n
    · have e1 : decide ((k : Int) < (n : Int)) = true := by simp; omega
      have hkb : k < bs.length := by rw [HX.out.2.2.2.2.2.2.2.2.1]; exact hlt
      have hgx : w.grownBy wx none := by
        obtain ⟨z, _, h1, _⟩ := HD.out.1.ex
        exact grown_trans H2.out.1 h1.dk.grownNone
      obtain ⟨b0, off, rfl, hcb⟩ := (HX.out.2.2.2.2.2.2.2.2.2.grown hgx) (by rintro rfl; simp at hkb)
      have hc := hcb k hkb
      have y2 := HD.out.2.1.guard
      have hb1 : 0 ≤ (k : Int) ∧ (k : Int) + 1 ≤ 101 := by omega
      obtain ⟨bv, hbv⟩ : ∃ bv, bs[k] = bv := ⟨_, rfl⟩
      rw [hbv] at hc
      clear hcb hgx hbv hkb
      cases bv with
      | true =>
        obtain ⟨V, hV⟩ : ∃ V, wx.drew = V := ⟨_, rfl⟩
        have gV := grown_drew (World.grownBy.refl wx none)
        rw [hV] at gV
        have HDV := Lib.hid (And.intro (HD.out.1.grown gV) (And.intro (HD.out.2.1.grown gV) (HD.out.2.2.1.grown gV (by simp))))
        have HV := Lib.hid ((vote_run HDV.out.1 HE2.out.1 E HE2.out.2 HX.out.2.2.1 (by omega) ⟨1, 1, (k : Int) + 1, (k : Int), 0⟩ (by simp only; omega) (by simp only; omega) seed HX.out.2.2.1 sd HX.out.2.2.2.1).mono fun _ _ hp => lv_post hnn hvv (lv_vote hvv hnn (by omega)) (fun h => lv_voteR hvv h (by omega)) hp)
        have HSS := Lib.hid (show ∀ Y : World, PlAt Y pb P rest → Blk Y q 23 sd → Y.cell? ⟨pb, 2, none⟩ = some (.pointer (some ⟨P.g, 0, none⟩)) ∧ Y.rangeAt q 0 sd.toList from fun Y h1 h2 => ⟨h1.guard, range_of_blk h2⟩)
        have hwr : IntKind.i64.wrap ((k : Int) + 1) = (k : Int) + 1 := by rw [IntKind.wrap_i64]; omega
        clear gV
        go_upto_region 14 with (fail)
        clear y2 hc
        refine wp_region_held_drew (S := fun Y => Y.cell? ⟨pb, 2, none⟩ = some (.pointer (some ⟨P.g, 0, none⟩)) ∧ Y.rangeAt q 0 sd.toList) (by kernel_rfl) (by rw [hV]; exact HSS.out V HDV.out.2.1 HDV.out.2.2) (fun hHeld => ?_)
        rw [hV] at hHeld ⊢
        refine wpAnyH_take (i := 0) (oi := _) (v := ?vb0) rfl (by kernel_rfl) (by kernel_rfl) (by kernel_rfl) (fun _ _ _ h => h) (Or.inl ⟨by rfl, ?hyb0⟩) (by assumption) ?restb0
        case hyb0 => (intro V hSw; (try dsimp only at hSw); go_simp) <;> with_reducible rfl
        try simp only [Act.put, List.getElem_toArray, List.getElem_cons_succ, List.getElem_cons_zero, List.setIfInBounds_toArray, List.set_cons_zero, List.set_cons_succ]
        refine wpAnyH_take (i := 1) (oi := _) (v := ?vb1) rfl (by kernel_rfl) (by kernel_rfl) (by kernel_rfl) (fun _ _ _ h => h) (Or.inl ⟨by rfl, ?hyb1⟩) (by assumption) ?restb1
        case hyb1 => (intro V hSw; (try dsimp only at hSw); go_simp) <;> with_reducible rfl
        try simp only [Act.put, List.getElem_toArray, List.getElem_cons_succ, List.getElem_cons_zero, List.setIfInBounds_toArray, List.set_cons_zero, List.set_cons_succ]
        refine wpAnyH_take (i := 2) (oi := _) (v := ?vb2) rfl (by kernel_rfl) (by kernel_rfl) (by kernel_rfl) (fun _ _ _ h => h) (Or.inl ⟨by rfl, ?hyb2⟩) (by assumption) ?restb2
        case hyb2 => (intro V hSw; (try dsimp only at hSw); go_simp) <;> with_reducible rfl
        try simp only [Act.put, List.getElem_toArray, List.getElem_cons_succ, List.getElem_cons_zero, List.setIfInBounds_toArray, List.set_cons_zero, List.set_cons_succ]
        refine wpAnyH_take (i := 3) (oi := _) (v := ?vb3) rfl (by kernel_rfl) (by kernel_rfl) (by kernel_rfl) (fun _ _ _ h => h) (Or.inl ⟨by rfl, ?hyb3⟩) (by assumption) ?restb3
        case hyb3 => (intro V hSw; (try dsimp only at hSw); go_simp) <;> with_reducible rfl
        try simp only [Act.put, List.getElem_toArray, List.getElem_cons_succ, List.getElem_cons_zero, List.setIfInBounds_toArray, List.set_cons_zero, List.set_cons_succ]
        refine wpAnyH_take (i := 4) (oi := _) (v := ?vb4) rfl (by kernel_rfl) (by kernel_rfl) (by kernel_rfl) (fun _ _ _ h => h) (Or.inl ⟨by rfl, ?hyb4⟩) (by assumption) ?restb4
        case hyb4 => (intro V hSw; (try dsimp only at hSw); go_simp) <;> with_reducible rfl
        try simp only [Act.put, List.getElem_toArray, List.getElem_cons_succ, List.getElem_cons_zero, List.setIfInBounds_toArray, List.set_cons_zero, List.set_cons_succ]
        refine wpAnyH_take (i := 5) (oi := _) (v := ?vb5) rfl (by kernel_rfl) (by kernel_rfl) (by kernel_rfl) (fun _ _ _ h => h) (Or.inl ⟨by rfl, ?hyb5⟩) (by assumption) ?restb5
        case hyb5 => (intro V hSw; (try dsimp only at hSw); go_simp) <;> with_reducible rfl
        try simp only [Act.put, List.getElem_toArray, List.getElem_cons_succ, List.getElem_cons_zero, List.setIfInBounds_toArray, List.set_cons_zero, List.set_cons_succ]
        refine wpAnyH_take (i := 6) (oi := _) (v := ?vb6) rfl (by kernel_rfl) (by kernel_rfl) (by kernel_rfl) (fun _ _ _ h => h) (Or.inl ⟨by rfl, ?hyb6⟩) (by assumption) ?restb6
        case hyb6 => (intro V hSw; (try dsimp only at hSw); go_simp) <;> with_reducible rfl
        try simp only [Act.put, List.getElem_toArray, List.getElem_cons_succ, List.getElem_cons_zero, List.setIfInBounds_toArray, List.set_cons_zero, List.set_cons_succ]
        refine wpAnyH_take (i := 7) (oi := _) (v := .agg sd) rfl (by kernel_rfl) (by kernel_rfl) (by kernel_rfl) (fun _ _ _ h => h) (yieldsIf_load_mid (by rfl) _ _ rfl q 0 rfl sd.toList _ (fun V hSw => hSw.2) Tryz.underlying23 rfl (by rw [Array.length_toList, HX.out.2.2.2.2.2.2.1]; exact info16)) (by assumption) ?restb7
        try simp only [Act.put, List.getElem_toArray, List.getElem_cons_succ, List.getElem_cons_zero, List.setIfInBounds_toArray, List.set_cons_zero, List.set_cons_succ]
        refine wpAnyH_ready (rs := [8]) (by kernel_rfl) (by simp) ?_
        refine (AllReadyH.cons (o := _) rfl (fun K9 hK => ?_) AllReadyH.nil)
        go_simp
        try rw [hwr]
        refine HV.out.mono ?_
        clear HV hwr
        rintro e w5 ⟨⟨sg, rfl⟩, hk5, cn', vv', n', hn', hcn', hvv', hr5⟩
        have H5 := Lib.hid (And.intro hr5 (And.intro (HDV.out.2.1.kept hk5) (And.intro (HDV.out.2.2.kept hk5 HD.out.2.2.2) (And.intro hn' (And.intro hcn' hvv')))))
        clear hr5 hk5 hn' hcn' hvv'
        obtain ⟨ev, hev⟩ : ∃ ev, (if nn = 32 then errV (E 4) else Value.nilIface) = ev := ⟨_, rfl⟩
        rw [hev]
        have HEV := Lib.hid hev
        clear hev
        (try go_wp2_with fail)
        refine hK.out _ _ (HSS.out _ H5.out.2.1 H5.out.2.2.1) (fun hHeld => ?_)
        clear hK K9
        try simp only [Act.put, List.getElem_toArray, List.getElem_cons_succ, List.getElem_cons_zero, List.setIfInBounds_toArray, List.set_cons_zero, List.set_cons_succ]
        refine wpAnyH_take (i := 9) (oi := _) (v := ?vb9) rfl (by kernel_rfl) (by kernel_rfl) (by kernel_rfl) (fun _ _ _ h => h) (Or.inl ⟨by rfl, ?hyb9⟩) (by assumption) ?restb9
        case hyb9 => (intro V hSw; (try dsimp only at hSw); go_simp) <;> with_reducible rfl
        try simp only [Act.put, List.getElem_toArray, List.getElem_cons_succ, List.getElem_cons_zero, List.setIfInBounds_toArray, List.set_cons_zero, List.set_cons_succ]
        refine wpAnyH_take (i := 10) (oi := _) (v := ?vb10) rfl (by kernel_rfl) (by kernel_rfl) (by kernel_rfl) (fun _ _ _ h => h) (Or.inl ⟨by rfl, ?hyb10⟩) (by assumption) ?restb10
        case hyb10 => (intro V hSw; (try dsimp only at hSw); go_simp) <;> with_reducible rfl
        try simp only [Act.put, List.getElem_toArray, List.getElem_cons_succ, List.getElem_cons_zero, List.setIfInBounds_toArray, List.set_cons_zero, List.set_cons_succ]
        refine wpAnyH_take (i := 11) (oi := _) (v := ?vb11) rfl (by kernel_rfl) (by kernel_rfl) (by kernel_rfl) (fun _ _ _ h => h) (Or.inl ⟨by rfl, ?hyb11⟩) (by assumption) ?restb11
        case hyb11 => (intro V hSw; (try dsimp only at hSw); go_simp) <;> with_reducible rfl
        try simp only [Act.put, List.getElem_toArray, List.getElem_cons_succ, List.getElem_cons_zero, List.setIfInBounds_toArray, List.set_cons_zero, List.set_cons_succ]
        refine wpAnyH_take (i := 12) (oi := _) (v := ?vb12) rfl (by kernel_rfl) (by kernel_rfl) (by kernel_rfl) (fun _ _ _ h => h) (Or.inl ⟨by rfl, ?hyb12⟩) (by assumption) ?restb12
        case hyb12 => (intro V hSw; (try dsimp only at hSw); go_simp) <;> with_reducible rfl
        try simp only [Act.put, List.getElem_toArray, List.getElem_cons_succ, List.getElem_cons_zero, List.setIfInBounds_toArray, List.set_cons_zero, List.set_cons_succ]
        refine wpAnyH_done (by kernel_rfl) ?_ _
        by_cases h32 : nn = 32
        · have f32 : (nn == 32) = true := by simp [h32]
          have en : ((nn : Int) == 32) = true := by simp [h32]
          obtain rfl : errV (E 4) = ev := by rw [← HEV.out, if_pos h32]
          obtain ⟨hn5, hc5, hv5⟩ := H5.out.2.2.2
          rw [if_pos h32] at hn5
          have hb5 := (H5.out.1.below)
          go_wp2_with fail
          refine (num_err w5 w2.heap.size E 4 (by omega) (HE2.out.2.below hb5 (Nat.le_refl _))).mono ?_
          rintro e w6 ⟨rfl, g6⟩
          have H6 := Lib.hid (And.intro (H5.out.1.grown g6) (And.intro (H5.out.2.1.grown g6) (H5.out.2.2.1.grown g6 (by simp))))
          clear g6 hb5
          go_wp2_with fail
          go_roundw
          case rel => exact ⟨k + 1, 32, vv', cn', by omega, by go_num, rfl, by omega, by omega, by omega, by rw [show (32 : Nat) = n' by omega]; exact H6.out.1, H6.out.2.1, H6.out.2.2⟩
          case measure => simp [intOf]; omega
        · have en : ((nn : Int) == 32) = false := by simp; omega
          obtain rfl : Value.nilIface = ev := by rw [← HEV.out, if_neg h32]
          obtain ⟨hn5, hc5, hv5⟩ := H5.out.2.2.2
          rw [if_neg h32] at hn5
          go_wp2_with fail
          go_roundw
          case rel => exact ⟨k + 1, nn + 1, vv', cn', by omega, by go_num, by go_num, by omega, by omega, by omega, by rw [← hn5]; exact H5.out.1, H5.out.2.1, H5.out.2.2.1⟩
          case measure => simp [intOf]; omega
      | false =>
        have HV := Lib.hid ((late_run HD.out.1 HE2.out.1 E HE2.out.2 HX.out.2.2.1 (by omega) ⟨1, 1, (k : Int) + 1, (k : Int), 0⟩ (by simp only; omega) (by simp only; omega) (by simp only; omega)).mono fun _ _ hp => lv_post hnn hvv (lv_lateK hvv hnn (by omega)) (fun h => lv_lateR hvv h (by omega)) hp)
        have hwr : IntKind.i64.wrap ((k : Int) + 1) = (k : Int) + 1 := by rw [IntKind.wrap_i64]; omega
        go_wp2_with fail
        try rw [hwr]
        refine HV.out.mono ?_
        clear HV hwr
        rintro e w5 ⟨⟨sg, rfl⟩, hk5, cn', vv', n', hn', hcn', hvv', hr5⟩
        have H5 := Lib.hid (And.intro hr5 (And.intro (HD.out.2.1.kept hk5) (And.intro (HD.out.2.2.1.kept hk5 HD.out.2.2.2) (And.intro hn' (And.intro hcn' hvv')))))
        clear hr5 hk5 hn' hcn' hvv' y2 hc
        obtain ⟨ev, hev⟩ : ∃ ev, (if nn = 32 then errV (E 4) else Value.nilIface) = ev := ⟨_, rfl⟩
        rw [hev]
        have HEV := Lib.hid hev
        clear hev
        by_cases h32 : nn = 32
        · have f32 : (nn == 32) = true := by simp [h32]
          have en : ((nn : Int) == 32) = true := by simp [h32]
          obtain rfl : errV (E 4) = ev := by rw [← HEV.out, if_pos h32]
          obtain ⟨hn5, hc5, hv5⟩ := H5.out.2.2.2
          rw [if_pos h32] at hn5
          have hb5 := (H5.out.1.below)
          go_wp2_with fail
          refine (num_err w5 w2.heap.size E 4 (by omega) (HE2.out.2.below hb5 (Nat.le_refl _))).mono ?_
          rintro e w6 ⟨rfl, g6⟩
          have H6 := Lib.hid (And.intro (H5.out.1.grown g6) (And.intro (H5.out.2.1.grown g6) (H5.out.2.2.1.grown g6 (by simp))))
          clear g6 hb5
          go_wp2_with fail
          go_roundw
          case rel => exact ⟨k + 1, 32, vv', cn', by omega, by go_num, rfl, by omega, by omega, by omega, by rw [show (32 : Nat) = n' by omega]; exact H6.out.1, H6.out.2.1, H6.out.2.2⟩
          case measure => simp [intOf]; omega
        · have en : ((nn : Int) == 32) = false := by simp; omega
          obtain rfl : Value.nilIface = ev := by rw [← HEV.out, if_neg h32]
          obtain ⟨hn5, hc5, hv5⟩ := H5.out.2.2.2
          rw [if_neg h32] at hn5
          go_wp2_with fail
          go_roundw
          case rel => exact ⟨k + 1, nn + 1, vv', cn', by omega, by go_num, by go_num, by omega, by omega, by omega, by rw [← hn5]; exact H5.out.1, H5.out.2.1, H5.out.2.2.1⟩
          case measure => simp [intOf]; omega
    · have e1 : decide ((k : Int) < (n : Int)) = false := by simp; omega
      have y2 := HD.out.2.1.guard
      go_wp2_with fail
      refine (state_run HD.out.1).mono ?_
      rintro e w5 ⟨rfl, g5⟩
      have hgn : w.grownBy w5 none := by
        obtain ⟨z, _, h1, _⟩ := HD.out.1.ex
        exact grown_trans H2.out.1 (h1.grown g5).dk.grownNone
      have HG := Lib.hid hgn
      clear g5 y2 hgn
      have hfl := field_f w5 (lvS vv nn)
      simp only [lvS] at hfl ⊢
      go_wp2_with fail
      go_ret
      exact ⟨rfl, HG.out⟩
end Go.Proofs.YthkjlgjbjjjohaaGreatDoor
